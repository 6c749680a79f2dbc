/- Append and Verify, the program's and the reference's. -/
import Derived.Test.YtffadpnlbaihgaaCenc
import Derived.Deep.RegionHeld3
import Derived.Lib.Strings
namespace Go.Proofs.Ytffadpnlbaihgaa.crc
open Go.RowKit

theorem clone_any (s : ByteArray) (w : World) (hs : s.size ≤ 1000000) :
    Calls Try.prog 21 #[.string s] w fun e w' => e = .returned (.string s) ∧ Q w w' := by
  go_enter Try.func21, Try.ntmps21
  go_wp2_with fail
  refine (Try.stringslite_Clone s _ (by omega)).mono ?_; rintro e w' ⟨rfl, q⟩
  go_wp2_with fail
  go_ret
  exact ⟨rfl, q⟩

/-- A text's checksum as a string. -/
def mark (s : ByteArray) : ByteArray := ⟨(enc (sum s.data.toList)).toArray⟩
theorem mark_size (s : ByteArray) : (mark s).size = 4 := rfl

theorem append_any (s : ByteArray) (w : World) (hs : s.size ≤ 1000000) :
    Calls Try.prog 13 #[.string s] w fun e w' => e = .returned (.string (s ++ mark s)) ∧ Q w w' := by
  have cS : Hid (∀ w, Calls Try.prog 9 #[.string s] w fun e w' => e = .returned (.int .u32 (sum s.data.toList : Nat)) ∧ w = w') := fun w => sum_any s w hs
  have cE : Hid (∀ w, Calls Try.prog 20 #[.int .u32 (sum s.data.toList : Nat)] w fun e w' => e = .returned (.string (mark s)) ∧ Q w w') := fun w => encode_any _ w (sum_lt _)
  have hm : (mark s).size ≤ 4 := Nat.le_of_eq (mark_size s)
  generalize mark s = M at *
  generalize sum s.data.toList = S at *
  go_enter Try.func13, Try.ntmps13
  go_wp2_with fail
  refine (cS.out _).mono ?_; rintro e w' ⟨rfl, rfl⟩
  go_wp2_with fail
  refine (cE.out _).mono ?_; rintro e w1 ⟨rfl, q1⟩
  go_wp2_with fail
  go_ret
  exact ⟨rfl, q1⟩
theorem rappend_any (s : ByteArray) (w : World) (hs : s.size ≤ 1000000) :
    Calls Try.prog 15 #[.string s] w fun e w' => e = .returned (.string (s ++ mark s)) ∧ Q w w' := by
  have cS : Hid (∀ w, Calls Try.prog 10 #[.string s] w fun e w' => e = .returned (.int .u32 (sum s.data.toList : Nat)) ∧ w = w') := fun w => rsum_any s w hs
  have cE : Hid (∀ w, Calls Try.prog 22 #[.int .u32 (sum s.data.toList : Nat)] w fun e w' => e = .returned (.string (mark s)) ∧ Q w w') := fun w => four_any _ w (sum_lt _)
  have hm : (mark s).size ≤ 4 := Nat.le_of_eq (mark_size s)
  generalize mark s = M at *
  generalize sum s.data.toList = S at *
  go_enter Try.func15, Try.ntmps15
  go_wp2_with fail
  refine (cS.out _).mono ?_; rintro e w' ⟨rfl, rfl⟩
  go_wp2_with fail
  refine (cE.out _).mono ?_; rintro e w1 ⟨rfl, q1⟩
  go_wp2_with fail
  go_ret
  exact ⟨rfl, q1⟩

theorem verify_short (s : ByteArray) (w : World) (hs : s.size < 4) :
    Calls Try.prog 14 #[.string s] w fun e w' => e = .returned (.tuple #[.string ⟨#[]⟩, .int .i64 40]) ∧ Q w w' := by
  have h4 : (s.size : Int) < 4 := by omega
  clear hs
  go_enter Try.func14, Try.ntmps14
  go_wp2_with fail
  go_ret2
  exact ⟨rfl, Q.refl _⟩
theorem rverify_short (s : ByteArray) (w : World) (hs : s.size < 4) :
    Calls Try.prog 16 #[.string s] w fun e w' => e = .returned (.tuple #[.string ⟨#[]⟩, .int .i64 40]) ∧ Q w w' := by
  have h4 : (s.size : Int) < 4 := by omega
  have h5 : (s.size : Int) - 4 < 0 := by omega
  clear hs
  go_enter Try.func16, Try.ntmps16
  go_wp2_with fail
  go_ret2
  exact ⟨rfl, Q.refl _⟩

/-- A text without its last four bytes, and those four. -/
def headB (s : ByteArray) : ByteArray := s.extract 0 (s.size - 4)
def tailB (s : ByteArray) : ByteArray := s.extract (s.size - 4) s.size
/-- What Verify returns. -/
def opens (s : ByteArray) : Nat := if s.size < 4 then 40 else if tailB s = mark (headB s) then 0 else 20
def opened (s : ByteArray) : ByteArray := if opens s = 0 then headB s else ⟨#[]⟩
theorem opens_yes (s : ByteArray) (h : 4 ≤ s.size) (he : tailB s = mark (headB s)) : headB s = opened s ∧ 0 = opens s := by
  have e : opens s = 0 := by unfold opens; rw [if_neg (by omega), if_pos he]
  exact ⟨by unfold opened; rw [if_pos e], e.symm⟩
theorem opens_no (s : ByteArray) (h : 4 ≤ s.size) (he : ¬ tailB s = mark (headB s)) : (⟨#[]⟩ : ByteArray) = opened s ∧ 20 = opens s := by
  have e : opens s = 20 := by unfold opens; rw [if_neg (by omega), if_neg he]
  exact ⟨by unfold opened; rw [if_neg (by omega)], e.symm⟩
theorem opens_short (s : ByteArray) (h : s.size < 4) : (⟨#[]⟩ : ByteArray) = opened s ∧ 40 = opens s := by
  have e : opens s = 40 := by unfold opens; rw [if_pos h]
  exact ⟨by unfold opened; rw [if_neg (by omega)], e.symm⟩
set_option maxHeartbeats 1000000 in
theorem verify_long (s : ByteArray) (w : World) (hs : s.size ≤ 1000000) (h4 : 4 ≤ s.size) :
    Calls Try.prog 14 #[.string s] w fun e w' => e = .returned (.tuple #[.string (opened s), .int .i64 (opens s)]) ∧ Q w w' := by
  have h4' : ¬ (s.size : Int) < 4 := by omega
  have a1 : (0 : Int) ≤ (s.size : Int) - 4 := by omega
  have a2 : (s.size : Int) - 4 ≤ (s.size : Int) := by omega
  have OK := Lib.hid (opens_yes s h4)
  have NO := Lib.hid (opens_no s h4)
  have eN : ((s.size : Int) - 4).toNat = s.size - 4 := by omega
  have hH : (headB s).size ≤ 1000000 := by unfold headB; rw [ByteArray.size_extract]; omega
  obtain ⟨HB, e1⟩ : ∃ HB, s.extract 0 ((s.size : Int) - 4).toNat = HB := ⟨_, rfl⟩
  obtain ⟨TB, e2⟩ : ∃ TB, s.extract ((s.size : Int) - 4).toNat s.size = TB := ⟨_, rfl⟩
  rw [show headB s = HB by unfold headB; rw [← eN]; exact e1] at OK NO hH
  rw [show tailB s = TB by unfold tailB; rw [← eN]; exact e2] at OK NO
  have cV : Hid (∀ w, Calls Try.prog 9 #[.string HB] w fun e w' => e = .returned (.int .u32 (sum HB.data.toList : Nat)) ∧ w = w') := fun w => sum_any HB w hH
  have cE : Hid (∀ w, Calls Try.prog 20 #[.int .u32 (sum HB.data.toList : Nat)] w fun e w' => e = .returned (.string (mark HB)) ∧ Q w w') := fun w => encode_any _ w (sum_lt _)
  have cC : Hid (∀ w, Calls Try.prog 21 #[.string HB] w fun e w' => e = .returned (.string HB) ∧ Q w w') := fun w => clone_any HB w hH
  clear eN hH
  generalize sum HB.data.toList = S at *
  generalize mark HB = M at *
  generalize opened s = U at *
  generalize opens s = V at *
  by_cases hq : TB = M
  · obtain ⟨rfl, rfl⟩ := OK.out hq
    have ht : (TB.toList == M.toList) = true := by rw [hq]; simp
    clear NO OK hq
    go_enter Try.func14, Try.ntmps14
    go_wp2_with fail
    go_region_held3 (fun _ => True) (trivial) (first | (go_at_call 9; refine (cV.out _).mono ?_; rintro e w' ⟨rfl, rfl⟩) | (go_at_call 20; refine (cE.out _).mono ?_; rintro e w1 ⟨rfl, q1⟩))
    go_wp2_with fail
    refine (cC.out _).mono ?_; rintro e w2 ⟨rfl, q2⟩
    go_wp2_with fail
    go_ret2
    exact ⟨rfl, ((Q.drewN w 1).trans q1).trans q2⟩
  · obtain ⟨rfl, rfl⟩ := NO.out hq
    have ht : (TB.toList == M.toList) = false := by
      refine beq_eq_false_iff_ne.2 fun hh => hq ?_
      rw [← Lib.mk_data TB, ← Lib.mk_data M, ← Lib.toList_data, ← Lib.toList_data, hh]
    clear NO OK hq
    go_enter Try.func14, Try.ntmps14
    go_wp2_with fail
    go_region_held3 (fun _ => True) (trivial) (first | (go_at_call 9; refine (cV.out _).mono ?_; rintro e w' ⟨rfl, rfl⟩) | (go_at_call 20; refine (cE.out _).mono ?_; rintro e w1 ⟨rfl, q1⟩))
    go_wp2_with fail
    go_ret2
    exact ⟨rfl, (Q.drewN w 1).trans q1⟩
set_option maxHeartbeats 1000000 in
theorem rverify_long (s : ByteArray) (w : World) (hs : s.size ≤ 1000000) (h4 : 4 ≤ s.size) :
    Calls Try.prog 16 #[.string s] w fun e w' => e = .returned (.tuple #[.string (opened s), .int .i64 (opens s)]) ∧ Q w w' := by
  have h4' : ¬ (s.size : Int) < 4 := by omega
  have a1 : (0 : Int) ≤ (s.size : Int) - 4 := by omega
  have a2 : (s.size : Int) - 4 ≤ (s.size : Int) := by omega
  have OK := Lib.hid (opens_yes s h4)
  have NO := Lib.hid (opens_no s h4)
  have eN : ((s.size : Int) - 4).toNat = s.size - 4 := by omega
  have hH : (headB s).size ≤ 1000000 := by unfold headB; rw [ByteArray.size_extract]; omega
  obtain ⟨HB, e1⟩ : ∃ HB, s.extract 0 ((s.size : Int) - 4).toNat = HB := ⟨_, rfl⟩
  obtain ⟨TB, e2⟩ : ∃ TB, s.extract ((s.size : Int) - 4).toNat s.size = TB := ⟨_, rfl⟩
  rw [show headB s = HB by unfold headB; rw [← eN]; exact e1] at OK NO hH
  rw [show tailB s = TB by unfold tailB; rw [← eN]; exact e2] at OK NO
  have cV : Hid (∀ w, Calls Try.prog 10 #[.string HB] w fun e w' => e = .returned (.int .u32 (sum HB.data.toList : Nat)) ∧ w = w') := fun w => rsum_any HB w hH
  have cE : Hid (∀ w, Calls Try.prog 22 #[.int .u32 (sum HB.data.toList : Nat)] w fun e w' => e = .returned (.string (mark HB)) ∧ Q w w') := fun w => four_any _ w (sum_lt _)
  clear eN hH
  generalize sum HB.data.toList = S at *
  generalize mark HB = M at *
  generalize opened s = U at *
  generalize opens s = V at *
  by_cases hq : TB = M
  · obtain ⟨rfl, rfl⟩ := OK.out hq
    have ht : (TB.toList == M.toList) = true := by rw [hq]; simp
    clear NO OK hq
    go_enter Try.func16, Try.ntmps16
    go_wp2_with fail
    go_region_held3 (fun _ => True) (trivial) (first | (go_at_call 10; refine (cV.out _).mono ?_; rintro e w' ⟨rfl, rfl⟩) | (go_at_call 22; refine (cE.out _).mono ?_; rintro e w1 ⟨rfl, q1⟩))
    go_wp2_with fail
    go_ret2
    exact ⟨rfl, (Q.drewN w 1).trans q1⟩
  · obtain ⟨rfl, rfl⟩ := NO.out hq
    have ht : (TB.toList == M.toList) = false := by
      refine beq_eq_false_iff_ne.2 fun hh => hq ?_
      rw [← Lib.mk_data TB, ← Lib.mk_data M, ← Lib.toList_data, ← Lib.toList_data, hh]
    clear NO OK hq
    go_enter Try.func16, Try.ntmps16
    go_wp2_with fail
    go_region_held3 (fun _ => True) (trivial) (first | (go_at_call 10; refine (cV.out _).mono ?_; rintro e w' ⟨rfl, rfl⟩) | (go_at_call 22; refine (cE.out _).mono ?_; rintro e w1 ⟨rfl, q1⟩))
    go_wp2_with fail
    go_ret2
    exact ⟨rfl, (Q.drewN w 1).trans q1⟩
theorem verify_any (s : ByteArray) (w : World) (hs : s.size ≤ 1000000) :
    Calls Try.prog 14 #[.string s] w fun e w' => e = .returned (.tuple #[.string (opened s), .int .i64 (opens s)]) ∧ Q w w' := by
  by_cases h : s.size < 4
  · rw [← (opens_short s h).1, ← (opens_short s h).2]
    exact verify_short s w h
  · exact verify_long s w hs (by omega)
theorem rverify_any (s : ByteArray) (w : World) (hs : s.size ≤ 1000000) :
    Calls Try.prog 16 #[.string s] w fun e w' => e = .returned (.tuple #[.string (opened s), .int .i64 (opens s)]) ∧ Q w w' := by
  by_cases h : s.size < 4
  · rw [← (opens_short s h).1, ← (opens_short s h).2]
    exact rverify_short s w h
  · exact rverify_long s w hs (by omega)

end Go.Proofs.Ytffadpnlbaihgaa.crc
