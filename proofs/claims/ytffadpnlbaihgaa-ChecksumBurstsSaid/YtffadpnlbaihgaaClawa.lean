/- The laws ChecksumSums, ChecksumParts, ChecksumAppends and ChecksumVerifies return true for every input. -/
import Derived.Test.YtffadpnlbaihgaaCawk
namespace Go.Proofs.Ytffadpnlbaihgaa.crc
open Go.RowKit

theorem sums_any (s : ByteArray) (c : Int) (w : World) (hs : s.size ≤ maxLen) (hc : 0 ≤ c ∧ c ≤ 4294967295) :
    Calls Try.prog 3 #[.string s, .int .u32 c] w fun e w' => e = .returned (.bool true) ∧ Q w w' := by
  unfold maxLen at hs
  by_cases h : 2000 < s.size
  · have z1 : (2000 : Int) < (s.size : Int) := by omega
    clear h hc hs
    go_enter Try.func3, Try.ntmps3
    go_wp2_with fail
    refine (awake_true _).mono ?_; rintro e w1 ⟨rfl, q1⟩
    go_wp2_with fail
    go_ret
    exact ⟨rfl, q1⟩
  · have z1 : ¬ (2000 : Int) < (s.size : Int) := by omega
    obtain ⟨C, rfl⟩ := Int.eq_ofNat_of_zero_le hc.1
    have cS : Hid (∀ w, Calls Try.prog 9 #[.string s] w fun e w' => e = .returned (.int .u32 (sum s.data.toList : Nat)) ∧ w = w') := fun w => sum_any s w (by omega)
    have cR : Hid (∀ w, Calls Try.prog 10 #[.string s] w fun e w' => e = .returned (.int .u32 (sum s.data.toList : Nat)) ∧ w = w') := fun w => rsum_any s w (by omega)
    have cU : Hid (∀ w, Calls Try.prog 11 #[.int .u32 (C : Int), .string s] w fun e w' => e = .returned (.int .u32 (upd C s.data.toList : Nat)) ∧ w = w') := fun w => update_any C s w (by omega) (by omega)
    have cV : Hid (∀ w, Calls Try.prog 12 #[.int .u32 (C : Int), .string s] w fun e w' => e = .returned (.int .u32 (upd C s.data.toList : Nat)) ∧ w = w') := fun w => rupdate_any C s w (by omega) (by omega)
    generalize sum s.data.toList = S at *
    generalize upd C s.data.toList = U at *
    clear h hc hs
    go_enter Try.func3, Try.ntmps3
    go_wp2_with fail
    refine (cS.out _).mono ?_; rintro e w' ⟨rfl, rfl⟩
    go_wp2_with fail
    refine (cR.out _).mono ?_; rintro e w' ⟨rfl, rfl⟩
    go_wp2_with fail
    refine (cU.out _).mono ?_; rintro e w' ⟨rfl, rfl⟩
    go_wp2_with fail
    refine (cV.out _).mono ?_; rintro e w' ⟨rfl, rfl⟩
    go_wp2_with fail
    refine (awake_true _).mono ?_; rintro e w1 ⟨rfl, q1⟩
    go_wp2_with fail
    go_ret
    exact ⟨rfl, q1⟩

theorem parts_any (s t : ByteArray) (w : World) (hs : s.size ≤ maxLen) (ht : t.size ≤ maxLen) :
    Calls Try.prog 4 #[.string s, .string t] w fun e w' => e = .returned (.bool true) ∧ Q w w' := by
  unfold maxLen at hs ht
  by_cases h : 2000 < s.size
  · have z1 : (2000 : Int) < (s.size : Int) := by omega
    clear h
    go_enter Try.func4, Try.ntmps4
    go_wp2_with fail
    refine (awake_true _).mono ?_; rintro e w1 ⟨rfl, q1⟩
    go_wp2_with fail
    go_ret
    exact ⟨rfl, q1⟩
  · have z1 : ¬ (2000 : Int) < (s.size : Int) := by omega
    by_cases h2 : 2000 < t.size
    · have z2 : (2000 : Int) < (t.size : Int) := by omega
      clear h h2
      go_enter Try.func4, Try.ntmps4
      go_wp2_with fail
      refine (awake_true _).mono ?_; rintro e w1 ⟨rfl, q1⟩
      go_wp2_with fail
      go_ret
      exact ⟨rfl, q1⟩
    · have z2 : ¬ (2000 : Int) < (t.size : Int) := by omega
      have hst : (s ++ t).size = s.size + t.size := ByteArray.size_append
      have el : (s ++ t).data.toList = s.data.toList ++ t.data.toList := by simp
      have e : upd (sum s.data.toList) t.data.toList = sum (s ++ t).data.toList := by rw [el, ← upd_zero, upd_app, upd_zero]
      have hsum := sum_lt s.data.toList
      have cS : Hid (∀ w, Calls Try.prog 9 #[.string s] w fun e w' => e = .returned (.int .u32 (sum s.data.toList : Nat)) ∧ w = w') := fun w => sum_any s w (by omega)
      have cT : Hid (∀ w, Calls Try.prog 9 #[.string (s ++ t)] w fun e w' => e = .returned (.int .u32 (sum (s ++ t).data.toList : Nat)) ∧ w = w') := fun w => sum_any (s ++ t) w (by omega)
      have cU : Hid (∀ w, Calls Try.prog 11 #[.int .u32 (sum s.data.toList : Nat), .string t] w fun e w' => e = .returned (.int .u32 (sum (s ++ t).data.toList : Nat)) ∧ w = w') := fun w => by
        have h := update_any (sum s.data.toList) t w hsum (by omega)
        rw [e] at h
        exact h
      have cV : Hid (∀ w, Calls Try.prog 11 #[.int .u32 0, .string s] w fun e w' => e = .returned (.int .u32 (sum s.data.toList : Nat)) ∧ w = w') := fun w => by
        have h := update_any 0 s w (by decide) (by omega)
        rw [upd_zero] at h
        exact h
      clear e el hst hsum h h2
      generalize sum s.data.toList = S at *
      generalize sum (s ++ t).data.toList = U at *
      go_enter Try.func4, Try.ntmps4
      go_wp2_with fail
      refine (cS.out _).mono ?_; rintro e w' ⟨rfl, rfl⟩
      go_wp2_with fail
      refine (cU.out _).mono ?_; rintro e w' ⟨rfl, rfl⟩
      go_wp2_with fail
      refine (cT.out _).mono ?_; rintro e w' ⟨rfl, rfl⟩
      clear cT
      generalize s ++ t = ST at *
      go_wp2_with fail
      refine (cV.out _).mono ?_; rintro e w' ⟨rfl, rfl⟩
      go_wp2_with fail
      refine (cS.out _).mono ?_; rintro e w' ⟨rfl, rfl⟩
      go_wp2_with fail
      refine (awake_true _).mono ?_; rintro e w1 ⟨rfl, q1⟩
      go_wp2_with fail
      go_ret
      exact ⟨rfl, q1⟩

theorem head_app (s m : ByteArray) (hm : m.size = 4) : headB (s ++ m) = s := by
  unfold headB
  exact ByteArray.extract_append_eq_left (by rw [ByteArray.size_append]; omega)
theorem tail_app (s m : ByteArray) (hm : m.size = 4) : tailB (s ++ m) = m := by
  unfold tailB
  exact ByteArray.extract_append_eq_right (by rw [ByteArray.size_append]; omega) (by rw [ByteArray.size_append])
theorem opens_app (s : ByteArray) : opens (s ++ mark s) = 0 ∧ opened (s ++ mark s) = s := by
  have hh := head_app s (mark s) (mark_size s)
  have ht := tail_app s (mark s) (mark_size s)
  have e : opens (s ++ mark s) = 0 := by
    unfold opens
    rw [hh, ht, if_neg (by rw [ByteArray.size_append, mark_size]; omega), if_pos rfl]
  exact ⟨e, by unfold opened; rw [if_pos e, hh]⟩

theorem appends_any (s : ByteArray) (w : World) (hs : s.size ≤ maxLen) :
    Calls Try.prog 5 #[.string s] w fun e w' => e = .returned (.bool true) ∧ Q w w' := by
  unfold maxLen at hs
  by_cases h : 2000 < s.size
  · have z1 : (2000 : Int) < (s.size : Int) := by omega
    clear h hs
    go_enter Try.func5, Try.ntmps5
    go_wp2_with fail
    refine (awake_true _).mono ?_; rintro e w1 ⟨rfl, q1⟩
    go_wp2_with fail
    go_ret
    exact ⟨rfl, q1⟩
  · have z1 : ¬ (2000 : Int) < (s.size : Int) := by omega
    have cA : Hid (∀ w, Calls Try.prog 13 #[.string s] w fun e w' => e = .returned (.string (s ++ mark s)) ∧ Q w w') := fun w => append_any s w (by omega)
    have cR : Hid (∀ w, Calls Try.prog 15 #[.string s] w fun e w' => e = .returned (.string (s ++ mark s)) ∧ Q w w') := fun w => rappend_any s w (by omega)
    have cV : Hid (∀ w, Calls Try.prog 14 #[.string (s ++ mark s)] w fun e w' => e = .returned (.tuple #[.string s, .int .i64 0]) ∧ Q w w') := fun w => by
      have h := verify_any (s ++ mark s) w (by rw [ByteArray.size_append, mark_size]; omega)
      rw [(opens_app s).1, (opens_app s).2] at h
      exact h
    clear h hs
    generalize s ++ mark s = T at *
    go_enter Try.func5, Try.ntmps5
    go_wp2_with fail
    refine (cA.out _).mono ?_; rintro e w1 ⟨rfl, q1⟩
    go_wp2_with fail
    refine (cV.out _).mono ?_; rintro e w2 ⟨rfl, q2⟩
    go_wp2_with fail
    refine (cR.out _).mono ?_; rintro e w3 ⟨rfl, q3⟩
    go_wp2_with fail
    refine (awake_true _).mono ?_; rintro e w4 ⟨rfl, q4⟩
    go_wp2_with fail
    go_ret
    exact ⟨rfl, ((q1.trans q2).trans q3).trans q4⟩

theorem verifies_any (s : ByteArray) (w : World) (hs : s.size ≤ maxLen) :
    Calls Try.prog 6 #[.string s] w fun e w' => e = .returned (.bool true) ∧ Q w w' := by
  unfold maxLen at hs
  by_cases h : 2000 < s.size
  · have z1 : (2000 : Int) < (s.size : Int) := by omega
    clear h hs
    go_enter Try.func6, Try.ntmps6
    go_wp2_with fail
    refine (awake_true _).mono ?_; rintro e w1 ⟨rfl, q1⟩
    go_wp2_with fail
    go_ret
    exact ⟨rfl, q1⟩
  · have z1 : ¬ (2000 : Int) < (s.size : Int) := by omega
    have cV : Hid (∀ w, Calls Try.prog 14 #[.string s] w fun e w' => e = .returned (.tuple #[.string (opened s), .int .i64 (opens s)]) ∧ Q w w') := fun w => verify_any s w (by omega)
    have cR : Hid (∀ w, Calls Try.prog 16 #[.string s] w fun e w' => e = .returned (.tuple #[.string (opened s), .int .i64 (opens s)]) ∧ Q w w') := fun w => rverify_any s w (by omega)
    clear h hs
    generalize opened s = U at *
    generalize opens s = V at *
    go_enter Try.func6, Try.ntmps6
    go_wp2_with fail
    refine (cV.out _).mono ?_; rintro e w1 ⟨rfl, q1⟩
    go_wp2_with fail
    refine (cR.out _).mono ?_; rintro e w2 ⟨rfl, q2⟩
    go_wp2_with fail
    refine (awake_true _).mono ?_; rintro e w3 ⟨rfl, q3⟩
    go_wp2_with fail
    go_ret
    exact ⟨rfl, (q1.trans q2).trans q3⟩

end Go.Proofs.Ytffadpnlbaihgaa.crc
