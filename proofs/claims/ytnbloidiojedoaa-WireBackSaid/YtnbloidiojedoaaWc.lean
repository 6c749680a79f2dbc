/- Count and String of the Reader. -/
import Derived.Test.YtnbloidiojedoaaWm
namespace Go.Proofs.Ytnbloidiojedoaa.wir
open Go.RowKit

/-- A number at the beginning of s. -/
def num (s : ByteArray) : Int × Nat × Int := dec 0 0 s.data.toList
/-- A number of items of at least L bytes each. -/
def cnt (s : ByteArray) (L : Int) : Int × Nat × Int :=
  if (num s).2.2 ≠ 0 then (0, 0, (num s).2.2)
  else if (num s).1 < 0 then (0, 0, 1)
  else if ((s.size : Int) - ((num s).2.1 : Int)) / L < (num s).1 then (0, 0, 40)
  else num s
theorem num_fits (s : ByteArray) : (num s).2.1 ≤ s.size ∧ (num s).2.1 ≤ 10 ∧ -9223372036854775808 ≤ (num s).1 ∧ (num s).1 ≤ 9223372036854775807 := by
  by_cases h : (num s).2.2 = 0
  · obtain ⟨u, h1, h2, h3, h4, h5, h6, h7⟩ := dec_back s.data.toList 0 0 (num s).2.1 (num s).1 (by show num s = _; rw [← h]) (by decide) (by decide)
    have := zag_fits _ h3
    rw [← h2] at this
    have e : s.data.toList.length = s.size := by simp
    omega
  · obtain ⟨h1, h2⟩ := dec_none _ _ _ h
    rw [show (num s).2.1 = 0 from h2, show (num s).1 = 0 from h1]
    omega

set_option maxRecDepth 100000 in
theorem decodeCount_any (s : ByteArray) (L : Int) (w : World) (hs : s.size ≤ 1000000) (hL : 1 ≤ L) (hL2 : L ≤ 9223372036854775807) :
    Calls Try.prog 36 #[.string s, .int .i64 L] w fun e w' => e = trip (cnt s L) ∧ w = w' := by
  have cD0 : Hid (∀ w, Calls Try.prog 33 #[.string s] w fun e w' => e = trip (num s) ∧ w = w') := fun w => decodeNumber_any s w hs
  obtain ⟨f1, f2, f3, f4⟩ := num_fits s
  have hC : cnt s L = cnt s L := rfl
  conv at hC => rhs; unfold cnt
  generalize cnt s L = C at *
  generalize num s = t at *
  obtain ⟨n, k, e⟩ := t
  dsimp only at *
  have cD : Hid (∀ w, Calls Try.prog 33 #[.string s] w fun r w' => r = .returned (.tuple #[.int .i64 n, .int .i64 (k : Int), .int .i64 e]) ∧ w = w') := cD0.out
  clear cD0
  by_cases he : e = 0
  · subst he
    rw [if_neg (by omega)] at hC
    by_cases hn : n < 0
    · rw [if_pos hn] at hC
      have HC := Lib.hid hC
      clear hC f1 f2 f3 f4
      go_enter Try.func36, Try.ntmps36
      go_wp2_with fail
      refine (cD.out _).mono ?_; rintro e w' ⟨rfl, rfl⟩
      go_wp2_with fail
      go_ret3
      exact ⟨by rw [HC.out]; rfl, rfl⟩
    · rw [if_neg hn] at hC
      have g1 : 0 ≤ (s.size : Int) - (k : Int) := by omega
      have g2 : (s.size : Int) - (k : Int) ≤ 1000000 := by omega
      by_cases hq : ((s.size : Int) - (k : Int)) / L < n
      · rw [if_pos hq] at hC
        have HC := Lib.hid hC
        clear hC f1 f2 f3 f4
        go_enter Try.func36, Try.ntmps36
        go_wp2_with fail
        refine (cD.out _).mono ?_; rintro e w' ⟨rfl, rfl⟩
        go_wp2_with fail
        go_ret3
        exact ⟨by rw [HC.out]; rfl, rfl⟩
      · rw [if_neg hq] at hC
        have HC := Lib.hid hC
        clear hC f1 f2 f3 f4
        go_enter Try.func36, Try.ntmps36
        go_wp2_with fail
        refine (cD.out _).mono ?_; rintro e w' ⟨rfl, rfl⟩
        go_wp2_with fail
        go_ret3
        exact ⟨by rw [HC.out]; rfl, rfl⟩
  · rw [if_pos he] at hC
    have HC := Lib.hid hC
    have he1 : (e != 0) = true := by rw [bne_iff_ne]; exact he
    clear hC f1 f2 f3 f4 he
    go_enter Try.func36, Try.ntmps36
    go_wp2_with fail
    refine (cD.out _).mono ?_; rintro e w' ⟨rfl, rfl⟩
    go_wp2_with fail
    go_ret3
    exact ⟨by rw [HC.out]; rfl, rfl⟩

theorem cnt_fits (s : ByteArray) (L : Int) : (cnt s L).2.1 ≤ s.size := by
  have := num_fits s
  unfold cnt
  split
  · exact Nat.zero_le _
  · split
    · exact Nat.zero_le _
    · split
      · exact Nat.zero_le _
      · exact this.1

end Go.Proofs.Ytnbloidiojedoaa.wir
