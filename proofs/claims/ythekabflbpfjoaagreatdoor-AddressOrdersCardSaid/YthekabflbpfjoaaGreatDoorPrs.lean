/- What Parse of package number says of the text of a number, and of a text that it takes. -/
import Derived.Test.YthekabflbpfjoaaGreatDoorPars
import Derived.Test.YthekabflbpfjoaaGreatDoorDec
import Derived.Lib.ItoaLen
namespace Go.Proofs.YthekabflbpfjoaaGreatDoor.num
open Go.RowKit
open Go.Proofs.YthekabflbpfjoaaGreatDoor.txt

theorem cut_neg (d : List UInt8) : Lib.hasPrefix (45 :: d) [45] = true ∧ Lib.trimPrefix (45 :: d) [45] = d := by
  have h : Lib.hasPrefix (45 :: d) [45] = true := by simp [Lib.hasPrefix]
  exact ⟨h, by unfold Lib.trimPrefix; rw [if_pos h]; rfl⟩
theorem cut_pos (l : List UInt8) (h : l.head? ≠ some 45) : Lib.hasPrefix l [45] = false ∧ Lib.trimPrefix l [45] = l := by
  have h' : Lib.hasPrefix l [45] = false := by
    cases l with
    | nil => rfl
    | cons c t =>
      simp only [List.head?_cons, ne_eq, Option.some.injEq] at h
      simp only [Lib.hasPrefix, List.isPrefixOf, Bool.and_true]
      rw [beq_eq_false_iff_ne]
      exact fun e => h e.symm
  exact ⟨h', by unfold Lib.trimPrefix; rw [if_neg (by rw [h']; decide)]⟩
theorem cut_is (l : List UInt8) (h : Lib.hasPrefix l [45] = true) : l = 45 :: Lib.trimPrefix l [45] := by
  cases l with
  | nil => simp [Lib.hasPrefix] at h
  | cons c t =>
    have hc : (45 : UInt8) = c := by simpa [Lib.hasPrefix] using h
    subst hc
    rw [(cut_neg t).2]
theorem cut_not (l : List UInt8) (h : Lib.hasPrefix l [45] = false) : Lib.trimPrefix l [45] = l := by
  unfold Lib.trimPrefix; rw [if_neg (by rw [h]; decide)]

theorem dd_head45 (u : Nat) : (Lib.decDigits u).head? ≠ some 45 := by
  intro h
  have hm : (45 : UInt8) ∈ Lib.decDigits u := List.mem_of_head? h
  have := (digit_iff _).1 (dd_all u _ hm)
  simp at this

/-- What Parse returns for the text of a number. -/
theorem parse_itoa (n : Int) : (good n → pv (Lib.itoa n) = n ∧ pe (Lib.itoa n) = 0) ∧ (bad n → pv (Lib.itoa n) = 0 ∧ pe (Lib.itoa n) = 5) := by
  unfold Lib.itoa good bad
  by_cases hn : n < 0
  · rw [if_pos hn]
    obtain ⟨h1, h2⟩ := cut_neg (Lib.decDigits n.natAbs)
    unfold pv pe
    rw [h1, h2, dd_val]
    have h3 : ¬ (natL (Lib.decDigits n.natAbs) = false ∨ (true = true ∧ Lib.decDigits n.natAbs = [48])) := by
      rintro (h | ⟨_, h⟩)
      · rw [dd_nat] at h; cases h
      · exact dd_head n.natAbs (by omega) (by rw [h]; rfl)
    rw [if_neg h3, if_neg h3]
    refine ⟨fun h => ?_, fun h => ?_⟩
    · have hc : n.natAbs ≤ 9007199254740992 := by omega
      rw [if_pos hc, if_pos hc, if_pos rfl]; exact ⟨by omega, rfl⟩
    · have hc : ¬ n.natAbs ≤ 9007199254740992 := by omega
      rw [if_neg hc, if_neg hc]; exact ⟨rfl, rfl⟩
  · rw [if_neg hn]
    obtain ⟨h1, h2⟩ := cut_pos (Lib.decDigits n.toNat) (dd_head45 _)
    unfold pv pe
    rw [h1, h2, dd_val]
    have h3 : ¬ (natL (Lib.decDigits n.toNat) = false ∨ (false = true ∧ Lib.decDigits n.toNat = [48])) := by
      rintro (h | ⟨h, _⟩)
      · rw [dd_nat] at h; cases h
      · cases h
    rw [if_neg h3, if_neg h3]
    refine ⟨fun h => ?_, fun h => ?_⟩
    · have hc : n.toNat ≤ 9007199254740992 := by omega
      rw [if_pos hc, if_pos hc, if_neg (by decide)]; exact ⟨by omega, rfl⟩
    · have hc : ¬ n.toNat ≤ 9007199254740992 := by omega
      rw [if_neg hc, if_neg hc]; exact ⟨rfl, rfl⟩

/-- A text that Parse takes is the text of a valid number; else the number is 0 and the error one of two. -/
theorem parse_cases (l : List UInt8) : (pe l = 0 ∧ good (pv l) ∧ Lib.itoa (pv l) = l) ∨ (pe l = 2 ∧ pv l = 0) ∨ (pe l = 5 ∧ pv l = 0) := by
  unfold pv pe
  by_cases h : natL (Lib.trimPrefix l [45]) = false ∨ (Lib.hasPrefix l [45] = true ∧ Lib.trimPrefix l [45] = [48])
  · rw [if_pos h, if_pos h]; exact .inr (.inl ⟨rfl, rfl⟩)
  · rw [if_neg h, if_neg h]
    by_cases hv : val (Lib.trimPrefix l [45]) ≤ 9007199254740992
    · rw [if_pos hv, if_pos hv]
      refine .inl ⟨rfl, ?_⟩
      have hn : natL (Lib.trimPrefix l [45]) = true := by
        cases hx : natL (Lib.trimPrefix l [45]) with
        | true => rfl
        | false => exact absurd (.inl hx) h
      have hd := dd_of _ hn
      cases hp : Lib.hasPrefix l [45] with
      | true =>
        rw [if_pos rfl]
        have hz : val (Lib.trimPrefix l [45]) ≠ 0 := by
          intro e
          rw [e] at hd
          refine h (.inr ⟨hp, ?_⟩)
          rw [← hd, dd_small 0 (by omega)]; rfl
        refine ⟨⟨by omega, by omega⟩, ?_⟩
        unfold Lib.itoa
        rw [if_pos (by omega), show (-(val (Lib.trimPrefix l [45]) : Int)).natAbs = val (Lib.trimPrefix l [45]) by omega, hd]
        exact (cut_is l hp).symm
      | false =>
        rw [if_neg (by decide)]
        refine ⟨⟨by omega, by omega⟩, ?_⟩
        unfold Lib.itoa
        rw [if_neg (by omega), Int.toNat_natCast, hd]
        exact cut_not l hp
    · rw [if_neg hv, if_neg hv]; exact .inr (.inr ⟨rfl, rfl⟩)

theorem itoa_size (n : Int) (h0 : -9223372036854775808 ≤ n) (h1 : n ≤ 9223372036854775807) : (⟨(Lib.itoa n).toArray⟩ : ByteArray).size ≤ maxLen := by
  have e : (⟨(Lib.itoa n).toArray⟩ : ByteArray).size = (Lib.itoa n).length := by simp [ByteArray.size]
  have := Lib.itoa_length_le n h0 h1
  unfold maxLen
  omega

end Go.Proofs.YthekabflbpfjoaaGreatDoor.num
