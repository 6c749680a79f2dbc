/- The reference's Valid and Length. -/
import Derived.Test.YthekabflbpfjoaaGreatDoorRdcom
namespace Go.Proofs.YthekabflbpfjoaaGreatDoor.lit
open Go.RowKit

theorem wid_le (s : ByteArray) (i : Nat) (hi : i < s.size) : i + wid s i ≤ s.size ∧ wid s i ≤ 4 := by
  have hne : s.data.toList.drop i ≠ [] := by
    intro h
    have := congrArg List.length h
    rw [List.length_drop, List.length_nil] at this
    simp at this
    omega
  have h1 := Lib.decodeL_le _ hne
  rw [List.length_drop, show s.data.toList.length = s.size by simp] at h1
  have h4 : (Lib.decodeL (s.data.toList.drop i)).2 ≤ 4 := by
    rw [Lib.decodeL_N]
    rcases Lib.decodeN_shape (s.data.toList.drop i).length ((s.data.toList.drop i).getD 0 0).toNat ((s.data.toList.drop i).getD 1 0).toNat ((s.data.toList.drop i).getD 2 0).toNat ((s.data.toList.drop i).getD 3 0).toNat with ⟨c, e⟩ | ⟨c1, c2, c3, cv, e⟩ | ⟨c1, c2, c3, c4, cv, cs, e⟩ | ⟨c1, c2, c3, c4, c5, cv, cw, e⟩ | e
    all_goals (rw [e]; dsimp only; omega)
  unfold wid
  split <;> omega
theorem drop_ne (s : ByteArray) (i : Nat) (hi : i < s.size) : s.data.toList.drop i ≠ [] := by
  intro h
  have := congrArg List.length h
  rw [List.length_drop, List.length_nil] at this
  simp at this
  omega
theorem valid_at (s : ByteArray) (i : Nat) (hi : i < s.size) : Lib.validD (s.data.toList.drop i) = if wid s i = 0 then false else Lib.validD (s.data.toList.drop (i + wid s i)) := by
  have hge := Lib.decodeL_width (s.data.toList.drop i)
  rw [Lib.validD_step _ (drop_ne s i hi)]
  unfold wid
  by_cases h : wrong (s.data.toList.drop i)
  · have h' := h
    unfold wrong at h'
    rw [if_pos h', if_pos h, if_pos rfl]
  · have h' := h
    unfold wrong at h'
    rw [if_neg h', if_neg h, if_neg (by omega), List.drop_drop]
theorem len_at (s : ByteArray) (i : Nat) (hi : i < s.size) : lenL (s.data.toList.drop i) = 1 + lenL (s.data.toList.drop (i + max (wid s i) 1)) := by
  have hge := Lib.decodeL_width (s.data.toList.drop i)
  rw [lenL_step _ (drop_ne s i hi), List.drop_drop]
  have : max (wid s i) 1 = (Lib.decodeL (s.data.toList.drop i)).2 := by
    unfold wid
    by_cases h : wrong (s.data.toList.drop i)
    · rw [if_pos h]
      unfold wrong at h
      rw [h.2]
      rfl
    · rw [if_neg h]
      exact Nat.max_eq_left hge
  rw [this]

set_option maxRecDepth 100000 in
set_option maxHeartbeats 1000000 in
theorem ref_valid (s : ByteArray) (w : World) (hs : s.size ≤ 1000000) :
    Calls Tryz.prog 58 #[.string s] w fun e w' => e = .returned (.bool (okL s.data.toList)) ∧ Q w w' := by
  unfold okL
  rw [show s.data.toList.length = s.size by simp]
  by_cases h : s.size ≤ 4096
  · rw [decide_eq_true h, Bool.true_and]
    have hz : (s.size : Int) ≤ 4096 := by omega
    obtain ⟨ANS, hANS⟩ : ∃ A, Lib.validD s.data.toList = A := ⟨_, rfl⟩
    rw [hANS]
    have H0 : Hid (Lib.validD (s.data.toList.drop 0) = ANS) := by rw [List.drop_zero]; exact hANS
    have hst := Lib.hid (valid_at s)
    have hwl := Lib.hid (wid_le s)
    have cD := Lib.hid (fun i w hi => dec_any s i w hs hi)
    have hzb : decide ((4096 : Int) < (s.size : Int)) = false := decide_eq_false (by omega)
    clear hANS h
    go_enter Tryz.func58, Tryz.ntmps58
    go_wp2_with fail
    go_loopw [3] (fun i wr => ∃ k : Nat, k ≤ s.size ∧ i = .int .i64 k ∧ Hid (Q w wr) ∧ Hid (Lib.validD (s.data.toList.drop k) = ANS)) (fun i _ => s.size - (intOf i).toNat)
    case atStart => exact ⟨0, Nat.zero_le _, rfl, Q.refl _, H0⟩
    case round =>
      obtain ⟨k, hk, rfl, hq, hv⟩ := hrel
      by_cases hlt : k < s.size
      · have hltz : (k : Int) < (s.size : Int) := by omega
        have hw2 := hwl.out k hlt
        have hst2 := Lib.hid (hst.out k hlt)
        have cD2 := Lib.hid (fun w => cD.out k w hlt)
        generalize wid s k = n at *
        by_cases hn : n = 0
        · subst hn
          have hres : ANS = false := by
            have := hst2.out
            rw [if_pos rfl] at this
            rw [← hv.out, this]
          subst hres
          go_wp2_with fail
          refine (cD2.out _).mono ?_; rintro e w1 ⟨c, rfl, q1⟩
          go_wp2_with fail
          go_ret
          exact ⟨rfl, hq.out.trans q1⟩
        · have hres : Hid (Lib.validD (s.data.toList.drop (k + n)) = ANS) := by
            have := hst2.out
            rw [if_neg hn] at this
            exact this.symm.trans hv.out
          have hnz : ¬ (n : Int) = 0 := by omega
          go_wp2_with fail
          refine (cD2.out _).mono ?_; rintro e w1 ⟨c, rfl, q1⟩
          have Q1 := Lib.hid (hq.out.trans q1)
          go_wp2_with fail
          go_roundw
          case rel => exact ⟨k + n, hw2.1, by go_num, Q1, hres⟩
          case measure => simp [intOf]; omega
      · obtain rfl : s.size = k := by omega
        have hres : ANS = true := by
          rw [← hv.out, List.drop_of_length_le (by simp)]
          rfl
        subst hres
        go_wp2_with fail
        go_ret
        exact ⟨rfl, hq.out⟩
  · rw [decide_eq_false h, Bool.false_and]
    have hz : ¬ (s.size : Int) ≤ 4096 := by omega
    go_enter Tryz.func58, Tryz.ntmps58
    go_wp2_with fail
    go_ret
    exact ⟨rfl, Q.refl _⟩

end Go.Proofs.YthekabflbpfjoaaGreatDoor.lit
