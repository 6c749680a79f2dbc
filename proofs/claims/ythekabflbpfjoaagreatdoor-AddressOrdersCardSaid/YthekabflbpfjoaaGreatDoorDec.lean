/- Plain facts on decimal numerals: the digits of a number are a numeral that is worth the number; a numeral is made of the digits of what it is worth. -/
import Derived.Test.YthekabflbpfjoaaGreatDoorTxt
import Derived.Lib.Strings
namespace Go.Proofs.YthekabflbpfjoaaGreatDoor.txt
open Go.Lib

theorem dd_small (u : Nat) (h : u < 10) : decDigits u = [UInt8.ofNat (48 + u)] := by rw [decDigits, dif_pos h]
theorem dd_big (u : Nat) (h : ¬ u < 10) : decDigits u = decDigits (u / 10) ++ [UInt8.ofNat (48 + u % 10)] := by rw [decDigits, dif_neg h]
theorem byte_digit (d : Nat) (h : d < 10) : (UInt8.ofNat (48 + d)).toNat = 48 + d := by rw [UInt8.toNat_ofNat']; omega

theorem dd_val (u : Nat) : val (decDigits u) = u := by
  induction u using Nat.strongRecOn with
  | ind u ih =>
    by_cases h : u < 10
    · rw [dd_small u h]
      have := byte_digit u h
      simp only [val, List.foldl_cons, List.foldl_nil, this]
      omega
    · rw [dd_big u h, val_snoc, ih (u / 10) (by omega), byte_digit _ (by omega)]
      omega
theorem dd_ne (u : Nat) : decDigits u ≠ [] := by
  by_cases h : u < 10
  · rw [dd_small u h]; simp
  · rw [dd_big u h]; simp
theorem dd_all (u : Nat) : ∀ c ∈ decDigits u, digit c = true := by
  induction u using Nat.strongRecOn with
  | ind u ih =>
    by_cases h : u < 10
    · rw [dd_small u h]
      intro c hc
      simp only [List.mem_singleton] at hc
      subst hc
      have := byte_digit u h
      exact (digit_iff _).2 (by omega)
    · rw [dd_big u h]
      intro c hc
      simp only [List.mem_append, List.mem_singleton] at hc
      rcases hc with hc | rfl
      · exact ih (u / 10) (by omega) c hc
      · have := byte_digit (u % 10) (by omega)
        exact (digit_iff _).2 (by omega)
theorem dd_head (u : Nat) (h0 : 0 < u) : (decDigits u).head? ≠ some 48 := by
  induction u using Nat.strongRecOn with
  | ind u ih =>
    by_cases h : u < 10
    · rw [dd_small u h]
      intro hc
      simp only [List.head?_cons, Option.some.injEq] at hc
      have := byte_digit u h
      rw [hc] at this
      simp at this
      omega
    · rw [dd_big u h]
      have := ih (u / 10) (by omega) (by omega)
      have hn := dd_ne (u / 10)
      cases hd : decDigits (u / 10) with
      | nil => exact absurd hd hn
      | cons c t => rw [hd] at this; simpa using this
theorem dd_nat (u : Nat) : natL (decDigits u) = true := by
  have h1 : (decDigits u).all digit = true := List.all_eq_true.2 (dd_all u)
  have h2 : (decDigits u).isEmpty = false := by cases h : decDigits u with | nil => exact absurd h (dd_ne u) | cons => rfl
  unfold natL
  rw [h1, h2]
  by_cases hu : u < 10
  · rw [dd_small u hu]; simp
  · have := dd_head u (by omega)
    have h3 : ((decDigits u).head? == some 48) = false := by simpa using this
    rw [h3]; simp

/-- A numeral without its last digit. -/
theorem natL_init (l : List UInt8) (c : UInt8) (h : natL (l ++ [c]) = true) (hl : l ≠ []) : natL l = true ∧ 48 ≤ c.toNat ∧ c.toNat ≤ 57 ∧ l.head? ≠ some 48 := by
  have hp : 0 < l.length := List.length_pos_iff.2 hl
  have hc := natL_digit _ h l.length (by simp)
  have hh := natL_head _ h (by simp; omega)
  have e1 : (l ++ [c])[l.length]'(by simp) = c := by simp
  have e2 : (l ++ [c])[0]'(by simp) = l[0] := List.getElem_append_left (by omega)
  rw [e1] at hc
  rw [e2] at hh
  refine ⟨natL_yes l hp (fun _ => hh) ?_, hc.1, hc.2, ?_⟩
  · intro k hk
    have := natL_digit _ h k (by simp; omega)
    have e3 : (l ++ [c])[k]'(by simp; omega) = l[k] := List.getElem_append_left hk
    rw [e3] at this
    exact (digit_iff _).2 this
  · cases l with
    | nil => exact absurd rfl hl
    | cons x t => simp only [List.head?_cons]; exact fun e => hh (by simpa using e)

theorem nat_pos (l : List UInt8) : natL l = true → l.head? ≠ some 48 → 10 ^ (l.length - 1) ≤ val l := by
  induction h : l.length generalizing l with
  | zero => intro hn; have := natL_pos l hn; omega
  | succ n ih =>
    intro hn hh
    have hne : l ≠ [] := by intro e; subst e; simp at h
    obtain ⟨d, c, rfl⟩ : ∃ d c, l = d ++ [c] := ⟨_, _, (List.dropLast_concat_getLast hne).symm⟩
    by_cases hd : d = []
    · subst hd
      have hl : n = 0 := by simpa using h.symm
      subst hl
      have := natL_digit _ hn 0 (by simp)
      simp only [List.nil_append, List.getElem_cons_zero] at this
      have h48 : c ≠ 48 := by intro e; subst e; exact hh rfl
      have h49 : c.toNat ≠ 48 := fun e => h48 (UInt8.toNat_inj.1 e)
      simp only [List.nil_append, val, List.foldl_cons, List.foldl_nil]
      omega
    · obtain ⟨h1, h2, h3, h4⟩ := natL_init d c hn hd
      have hlen : d.length = n := by simpa using h
      have := ih d hlen h1 h4
      rw [val_snoc]
      have hn1 : 0 < d.length := List.length_pos_iff.2 hd
      have e : n + 1 - 1 = (n - 1) + 1 := by omega
      rw [e, Nat.pow_succ]
      omega

theorem dd_of (l : List UInt8) : natL l = true → decDigits (val l) = l := by
  induction h : l.length generalizing l with
  | zero => intro hn; have := natL_pos l hn; omega
  | succ n ih =>
    intro hn
    have hne : l ≠ [] := by intro e; subst e; simp at h
    obtain ⟨d, c, rfl⟩ : ∃ d c, l = d ++ [c] := ⟨_, _, (List.dropLast_concat_getLast hne).symm⟩
    by_cases hd : d = []
    · subst hd
      have := natL_digit _ hn 0 (by simp)
      simp only [List.nil_append, List.getElem_cons_zero] at this
      simp only [List.nil_append, val, List.foldl_cons, List.foldl_nil]
      rw [dd_small _ (by omega)]
      congr 1
      apply UInt8.toNat_inj.1
      rw [byte_digit _ (by omega)]
      omega
    · obtain ⟨h1, h2, h3, h4⟩ := natL_init d c hn hd
      have hlen : d.length = n := by simpa using h
      have hv := ih d hlen h1
      have hp := nat_pos d h1 h4
      have hq : 1 ≤ val d := Nat.le_trans (Nat.pow_pos (by omega)) hp
      rw [val_snoc, dd_big _ (by omega)]
      rw [show (10 * val d + (c.toNat - 48)) / 10 = val d by omega, hv]
      congr 2
      apply UInt8.toNat_inj.1
      rw [byte_digit _ (by omega)]
      omega

end Go.Proofs.YthekabflbpfjoaaGreatDoor.txt
