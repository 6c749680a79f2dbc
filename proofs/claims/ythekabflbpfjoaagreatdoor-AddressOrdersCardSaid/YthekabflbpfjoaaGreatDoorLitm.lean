/- Unquote of package strlit: what it returns for any text. -/
import Derived.Test.YthekabflbpfjoaaGreatDoorLesc
namespace Go.Proofs.YthekabflbpfjoaaGreatDoor.lit
open Go.RowKit

theorem list_whole (s : ByteArray) : (⟨s.data.toList.toArray⟩ : ByteArray) = s := by
  apply ByteArray.ext
  simp
theorem decode_go (s : ByteArray) (h : 0 < s.size) : Lib.decodeGo s = Lib.decodeL s.data.toList := by
  unfold Lib.decodeGo Lib.decodeL
  rw [if_neg (by omega), list_whole]
set_option maxHeartbeats 1000000 in
/-- What readItem returns, for any text that is not empty. -/
theorem item_any (s : ByteArray) (w : World) (f : Fx w) (hs : s.size ≤ 1000000) (h1 : 1 ≤ s.size) :
    Calls Tryz.prog 125 #[.string s] w fun e w' => e = .returned (.tuple #[.int .i32 (item s.data.toList).r, .int .i64 (item s.data.toList).k, .int .i64 (item s.data.toList).e]) ∧ Q w w' := by
  have cE := Lib.hid (fun w => escape_any s w hs h1)
  have cD : Hid (Calls Tryz.prog 135 #[.string s] w fun e w' => e = .returned (.tuple #[.int .i32 ((Lib.decodeL s.data.toList).1 : Int), .int .i64 ((Lib.decodeL s.data.toList).2 : Int)]) ∧ Q w w') := by
    have := Tryz.utf8_DecodeRuneInString s w f.tabs
    rw [decode_go s h1] at this
    exact this
  have hle := Lib.decodeL_rune s.data.toList
  have hz : (0 : Int) < (s.size : Int) := by omega
  unfold item
  rw [bt_get s 0 h1]
  by_cases c : s[0].toNat = 92
  · rw [if_pos c]
    have g : (s[0].toNat : Int) = 92 := by omega
    clear hs f cD c hle
    generalize esc s.data.toList = R at *
    go_enter Tryz.func125, Tryz.ntmps125
    go_wp2_with fail
    refine (cE.out _).mono ?_; rintro e w' ⟨rfl, rfl⟩
    go_wp2_with fail
    go_ret3
    exact ⟨rfl, Q.refl _⟩
  · rw [if_neg c]
    have g : ¬ (s[0].toNat : Int) = 92 := by omega
    clear hs f cE c
    obtain ⟨r, hr⟩ : ∃ r, (Lib.decodeL s.data.toList).1 = r := ⟨_, rfl⟩
    obtain ⟨k, hk⟩ : ∃ k, (Lib.decodeL s.data.toList).2 = k := ⟨_, rfl⟩
    have hwr : wrong s.data.toList ↔ r = 65533 ∧ k = 1 := by unfold wrong; rw [hr, hk]
    rw [hr] at hle
    rw [hr, hk] at cD
    by_cases hc : ctl r
    · rw [if_pos (.inl (by rw [hr]; exact hc))]
      clear hr hk hwr
      have hc' := Lib.hid hc
      clear hc
      go_enter Tryz.func125, Tryz.ntmps125
      go_wp2_with fail
      refine cD.out.mono ?_; rintro e w1 ⟨rfl, q1⟩
      go_wp2_with fail
      refine (control_yes _ _ (by omega) (by omega) (by have := hc'.out; unfold ctl at this; omega)).mono ?_; rintro e w' ⟨rfl, rfl⟩
      go_wp2_with fail
      go_ret3
      exact ⟨rfl, q1⟩
    · have hc' : Hid (32 ≤ (r : Int) ∧ ¬ (r : Int) = 127) := by unfold ctl at hc; exact ⟨by omega, by omega⟩
      by_cases hw : r = 65533 ∧ k = 1
      · rw [if_pos (.inr (hwr.2 hw))]
        clear hr hk hwr
        obtain ⟨rfl, rfl⟩ := hw
        clear hc
        go_enter Tryz.func125, Tryz.ntmps125
        go_wp2_with fail
        refine cD.out.mono ?_; rintro e w1 ⟨rfl, q1⟩
        go_wp2_with fail
        refine (control_no _ _ (by omega) (by omega) (by omega)).mono ?_; rintro e w' ⟨rfl, rfl⟩
        go_wp2_with fail
        go_ret3
        exact ⟨rfl, q1⟩
      · rw [if_neg (fun h => h.elim (fun h => hc (by rw [← hr]; exact h)) (fun h => hw (hwr.1 h))), hr, hk]
        clear hc hr hk hwr
        by_cases hr : r = 65533
        · have hk : ¬ (k : Int) = 1 := by omega
          subst hr
          clear hw
          go_enter Tryz.func125, Tryz.ntmps125
          go_wp2_with fail
          refine cD.out.mono ?_; rintro e w1 ⟨rfl, q1⟩
          go_wp2_with fail
          refine (control_no _ _ (by omega) (by omega) (by omega)).mono ?_; rintro e w' ⟨rfl, rfl⟩
          go_wp2_with fail
          go_ret3
          exact ⟨rfl, q1⟩
        · have hr' : ¬ (r : Int) = 65533 := by omega
          clear hw
          go_enter Tryz.func125, Tryz.ntmps125
          go_wp2_with fail
          refine cD.out.mono ?_; rintro e w1 ⟨rfl, q1⟩
          go_wp2_with fail
          refine (control_no _ _ hc'.out.1 (by omega) hc'.out.2).mono ?_; rintro e w' ⟨rfl, rfl⟩
          go_wp2_with fail
          go_ret3
          exact ⟨rfl, q1⟩

end Go.Proofs.YthekabflbpfjoaaGreatDoor.lit
