/- Plain facts for the laws on uniqueness and prefixes. -/
import Derived.Test.YtnbloidiojedoaaWk
namespace Go.Proofs.Ytnbloidiojedoaa.wir
open Go.RowKit

theorem ba_ext {a b : ByteArray} (h : a.data.toList = b.data.toList) : a = b := by
  apply ByteArray.ext
  exact Array.toList_inj.1 h
theorem extract_list (s : ByteArray) (i j : Nat) : (s.extract i j).data.toList = (s.data.toList.take j).drop i := by
  rw [ByteArray.data_extract, Array.toList_extract, List.extract_eq_take_drop, List.drop_take]
theorem encN_of (n : Int) (l : List UInt8) (s : ByteArray) (h : encU (zig n) = l) (hs : s.data.toList = l) : encN n = s := by
  apply ba_ext
  rw [encN_list, h, hs]

/-- A number that was read. -/
theorem num_yes (s : ByteArray) (h : (num s).2.2 = 0) :
    1 ≤ (num s).2.1 ∧ (num s).2.1 ≤ 10 ∧ (num s).2.1 ≤ s.size ∧ encN (num s).1 = s.extract 0 (num s).2.1 := by
  obtain ⟨u, h1, h2, h3, h4, h5, h6, h7⟩ := dec_back s.data.toList 0 0 (num s).2.1 (num s).1 (by show num s = _; rw [← h]) (by decide) (by decide)
  refine ⟨h4, h5, (num_fits s).1, ?_⟩
  rw [h2]
  apply ba_ext
  rw [encN_list, show 0 + u * 128 ^ 0 = u by simp, zig_zag, extract_list, List.drop_zero, ← h1, Nat.sub_zero]
theorem uniqN_yes (s : ByteArray) (h : (nxN s 0).2.2 = 0) :
    ∃ k : Nat, 1 ≤ k ∧ k ≤ 10 ∧ k ≤ s.size ∧ (nxN s 0).2.1 = s.extract k s.size ∧ encN (nxN s 0).1 = s.extract 0 k ∧ -9223372036854775808 ≤ (nxN s 0).1 ∧ (nxN s 0).1 ≤ 9223372036854775807 := by
  have h' : (num s).2.2 = 0 := h
  obtain ⟨h1, h2, h3, h4⟩ := num_yes s h'
  have e1 : (nxN s 0).1 = (num s).1 := if_pos h'
  have e2 : (nxN s 0).2.1 = s.extract (num s).2.1 s.size := if_pos h'
  rw [e1, e2]
  exact ⟨_, h1, h2, h3, rfl, h4, (num_fits s).2.2⟩
theorem uniqN_no (s : ByteArray) (h : (nxN s 0).2.2 ≠ 0) : (nxN s 0).1 = 0 ∧ (nxN s 0).2.1 = s := by
  have h' : (num s).2.2 ≠ 0 := h
  exact ⟨if_neg h', if_neg h'⟩

/-- What Count finds. -/
theorem cnt_yes (s : ByteArray) (L : Int) (h : (cnt s L).2.2 = 0) : (num s).2.2 = 0 ∧ 0 ≤ (num s).1 ∧ (num s).1 ≤ ((s.size : Int) - ((num s).2.1 : Int)) / L ∧ cnt s L = num s := by
  unfold cnt at h ⊢
  split at h <;> rename_i h1
  · exact absurd h h1
  · rw [if_neg h1]
    split at h <;> rename_i h2
    · cases h
    · rw [if_neg h2]
      split at h <;> rename_i h3
      · cases h
      · rw [if_neg h3]
        exact ⟨by omega, by omega, by omega, rfl⟩
theorem uniqS_yes (s : ByteArray) (h : (nxS s 0).2.2 = 0) :
    ∃ k : Nat, 1 ≤ k ∧ k ≤ s.size ∧ (nxS s 0).2.1 = s.extract k s.size ∧ encS (nxS s 0).1 = s.extract 0 k ∧ (nxS s 0).1.size ≤ s.size := by
  have hc : (nxC s 0 1).2.2 = 0 := by
    unfold nxS at h
    split at h
    · assumption
    · exact h
  have e0 : nxC s 0 1 = (gotN (cnt s 1), gotS s (cnt s 1), (cnt s 1).2.2) := rfl
  rw [e0] at hc
  have hc' : (cnt s 1).2.2 = 0 := hc
  obtain ⟨h1, h2, h3, h4⟩ := cnt_yes s 1 hc'
  obtain ⟨g1, g2, g3, g4⟩ := num_yes s h1
  rw [Int.ediv_one] at h3
  have e1 : gotN (cnt s 1) = (num s).1 := by unfold gotN; rw [h4, if_pos h1]
  have e2 : gotS s (cnt s 1) = s.extract (num s).2.1 s.size := by unfold gotS; rw [h4, if_pos h1]
  have e3 : nxS s 0 = ((s.extract (num s).2.1 s.size).extract 0 (num s).1.toNat, (s.extract (num s).2.1 s.size).extract (num s).1.toNat (s.extract (num s).2.1 s.size).size, 0) := by
    unfold nxS
    rw [e0, e1, e2, if_pos hc]
  rw [e3]
  generalize num s = t at *
  obtain ⟨n, k, e⟩ := t
  dsimp only at *
  obtain ⟨m, rfl⟩ := Int.eq_ofNat_of_zero_le h2
  rw [Int.toNat_natCast]
  refine ⟨k + m, by omega, by omega, ?_, ?_, ?_⟩
  · rw [ByteArray.extract_extract, ByteArray.size_extract]
    congr 1
    omega
  · have e4 : (s.extract k s.size).extract 0 m = s.extract k (k + m) := by
      rw [ByteArray.extract_extract]
      congr 1
      omega
    rw [e4]
    unfold encS
    rw [show (s.extract k (k + m)).size = m by rw [ByteArray.size_extract]; omega, g4, ByteArray.extract_append_extract]
    congr 1 <;> omega
  · rw [ByteArray.size_extract, ByteArray.size_extract]; omega
theorem uniqS_no (s : ByteArray) (h : (nxS s 0).2.2 ≠ 0) : (nxS s 0).1 = ⟨#[]⟩ ∧ (nxS s 0).2.1 = s := by
  unfold nxS at h ⊢
  split at h <;> rename_i h1
  · exact absurd rfl h
  · rw [if_neg h1]
    refine ⟨rfl, ?_⟩
    have e0 : nxC s 0 1 = (gotN (cnt s 1), gotS s (cnt s 1), (cnt s 1).2.2) := rfl
    rw [e0] at h1 ⊢
    exact if_neg h1

theorem none_app (a : ByteArray) : (⟨#[]⟩ : ByteArray) ++ a = a := by
  apply ba_ext
  simp

/-- What the law asks of the two readings. -/
def UniqN (s : ByteArray) (n : Int) (S : ByteArray) (e : Int) : Prop :=
  (e = 0 ∧ ∃ k : Nat, 1 ≤ k ∧ k ≤ 10 ∧ k ≤ s.size ∧ S.size = s.size - k ∧ encN n = s.extract 0 k ∧ -9223372036854775808 ≤ n ∧ n ≤ 9223372036854775807) ∨ (e ≠ 0 ∧ n = 0 ∧ S = s)
def UniqS (s : ByteArray) (t : ByteArray) (S : ByteArray) (e : Int) : Prop :=
  (e = 0 ∧ ∃ k : Nat, 1 ≤ k ∧ k ≤ s.size ∧ S.size = s.size - k ∧ encS t = s.extract 0 k ∧ t.size ≤ s.size) ∨ (e ≠ 0 ∧ t = ⟨#[]⟩ ∧ S = s)
theorem uniqN_all (s : ByteArray) : UniqN s (nxN s 0).1 (nxN s 0).2.1 (nxN s 0).2.2 := by
  by_cases h : (nxN s 0).2.2 = 0
  · obtain ⟨k, h1, h2, h3, h4, h5, h6⟩ := uniqN_yes s h
    exact .inl ⟨h, k, h1, h2, h3, by rw [h4, ByteArray.size_extract]; omega, h5, h6⟩
  · exact .inr ⟨h, uniqN_no s h⟩
theorem uniqS_all (s : ByteArray) : UniqS s (nxS s 0).1 (nxS s 0).2.1 (nxS s 0).2.2 := by
  by_cases h : (nxS s 0).2.2 = 0
  · obtain ⟨k, h1, h2, h3, h4, h5⟩ := uniqS_yes s h
    exact .inl ⟨h, k, h1, h2, by rw [h3, ByteArray.size_extract]; omega, h4, h5⟩
  · exact .inr ⟨h, uniqS_no s h⟩

end Go.Proofs.Ytnbloidiojedoaa.wir
