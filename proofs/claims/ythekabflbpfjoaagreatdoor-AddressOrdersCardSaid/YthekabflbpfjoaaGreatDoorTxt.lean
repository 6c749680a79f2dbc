/- Plain facts on decimal numerals as lists of bytes: which lists are numerals of natural numbers, and what they are worth. -/
import Derived.Lib.ItoaNum
namespace Go.Proofs.YthekabflbpfjoaaGreatDoor.txt

def digit (c : UInt8) : Bool := decide (48 ≤ c.toNat) && decide (c.toNat ≤ 57)
theorem digit_iff (c : UInt8) : digit c = true ↔ 48 ≤ c.toNat ∧ c.toNat ≤ 57 := by simp [digit]

/-- A numeral of a natural number, without leading zeros. -/
def natL (l : List UInt8) : Bool := !l.isEmpty && !(decide (1 < l.length) && l.head? == some 48) && l.all digit

/-- What a list of digits is worth. -/
def val (l : List UInt8) : Nat := l.foldl (fun n c => 10 * n + (c.toNat - 48)) 0

theorem val_nil : val [] = 0 := rfl
theorem val_snoc (l : List UInt8) (c : UInt8) : val (l ++ [c]) = 10 * val l + (c.toNat - 48) := by simp [val]
theorem val_take (l : List UInt8) (k : Nat) (h : k < l.length) : val (l.take (k + 1)) = 10 * val (l.take k) + (l[k].toNat - 48) := by
  rw [List.take_succ_eq_append_getElem h, val_snoc]
theorem val_mono (l : List UInt8) (k m : Nat) (hk : k ≤ m) : val (l.take k) ≤ val (l.take m) := by
  induction m with
  | zero => rw [show k = 0 by omega]; exact Nat.le_refl _
  | succ m ih =>
    by_cases he : k = m + 1
    · rw [he]; exact Nat.le_refl _
    · have h1 := ih (by omega)
      by_cases hm : m < l.length
      · rw [val_take l m hm]; omega
      · rw [List.take_of_length_le (i := m + 1) (by omega)]
        rw [List.take_of_length_le (i := m) (by omega)] at h1
        exact h1
theorem val_le (l : List UInt8) (k : Nat) : val (l.take k) ≤ val l := by
  by_cases h : k ≤ l.length
  · have := val_mono l k l.length h
    rwa [List.take_length] at this
  · rw [List.take_of_length_le (by omega)]; exact Nat.le_refl _

theorem natL_nil : natL [] = false := rfl
theorem natL_zero (l : List UInt8) (h : 1 < l.length) (h0 : l[0] = 48) : natL l = false := by
  cases l with
  | nil => simp at h
  | cons c t =>
    simp only [List.getElem_cons_zero] at h0
    subst h0
    have ht : t ≠ [] := by intro e; subst e; simp at h
    simp only [List.length_cons] at h
    have h1 : 1 < t.length + 1 := by omega
    simp [natL, ht]
theorem natL_not (l : List UInt8) (k : Nat) (h : k < l.length) (hc : digit l[k] = false) : natL l = false := by
  have : l.all digit = false := by
    rw [List.all_eq_false]
    exact ⟨l[k], List.getElem_mem h, by simp [hc]⟩
  simp [natL, this]
theorem natL_yes (l : List UInt8) (h : 0 < l.length) (h0 : 1 < l.length → l[0] ≠ 48) (ha : ∀ (k : Nat) (hk : k < l.length), digit l[k] = true) : natL l = true := by
  have h1 : l.all digit = true := by
    rw [List.all_eq_true]
    intro x hx
    obtain ⟨k, hk, rfl⟩ := List.getElem_of_mem hx
    exact ha k hk
  cases l with
  | nil => simp at h
  | cons c t =>
    simp only [natL, h1, Bool.and_true]
    by_cases ht : t = []
    · subst ht; simp
    · have hp : 0 < t.length := List.length_pos_iff.2 ht
      have := h0 (by simp; omega)
      simp only [List.getElem_cons_zero] at this
      simp [this]

theorem natL_digit (l : List UInt8) (h : natL l = true) (k : Nat) (hk : k < l.length) : 48 ≤ l[k].toNat ∧ l[k].toNat ≤ 57 := by
  simp only [natL, Bool.and_eq_true] at h
  exact (digit_iff _).1 (List.all_eq_true.1 h.2 _ (List.getElem_mem hk))
theorem natL_pos (l : List UInt8) (h : natL l = true) : 0 < l.length := by
  cases l with
  | nil => simp [natL] at h
  | cons c t => simp
theorem natL_head (l : List UInt8) (h : natL l = true) (h1 : 1 < l.length) : l[0] ≠ 48 := by
  intro h0
  rw [natL_zero l h1 h0] at h
  cases h

end Go.Proofs.YthekabflbpfjoaaGreatDoor.txt
