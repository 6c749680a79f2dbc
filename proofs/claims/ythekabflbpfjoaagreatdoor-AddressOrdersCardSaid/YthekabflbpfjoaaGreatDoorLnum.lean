/- The escapes of package strlit: what readNumbered and readEscape return for any text. -/
import Derived.Test.YthekabflbpfjoaaGreatDoorLqt
namespace Go.Proofs.YthekabflbpfjoaaGreatDoor.lit
open Go.RowKit

theorem bt_get (s : ByteArray) (k : Nat) (h : k < s.size) : bt s.data.toList k = s[k].toNat := by
  have hk : k < s.data.toList.length := by simpa using h
  unfold bt
  rw [List.getD, List.getElem?_eq_getElem hk]
  rfl
theorem digs_hex : ∀ (n : Nat) (l : List UInt8) (j : Nat), j < digs n l → isHex (l.getD j 0) = true
  | 0, _, _, h => by simp [digs] at h
  | n + 1, [], _, h => by simp [digs] at h
  | n + 1, c :: t, j, h => by
    unfold digs at h
    split at h
    · rename_i hc
      cases j with
      | zero => simpa using hc
      | succ j => simpa using digs_hex n t j (by omega)
    · omega
theorem digs_stop : ∀ (n : Nat) (l : List UInt8), digs n l = n ∨ digs n l = l.length ∨ isHex (l.getD (digs n l) 0) = false
  | 0, _ => .inl rfl
  | n + 1, [] => .inr (.inl rfl)
  | n + 1, c :: t => by
    unfold digs
    split
    · rcases digs_stop n t with h | h | h
      · left; omega
      · right; left; rw [List.length_cons]; omega
      · right; right
        rw [Nat.add_comm]
        simpa using h
    · rename_i hc
      right; right
      simpa using hc
theorem hval_take (l : List UInt8) (k : Nat) (h : k < l.length) : hval (l.take (k + 1)) = 16 * hval (l.take k) + hexVal l[k] := by
  rw [List.take_succ_eq_append_getElem h, hval_snoc]
theorem hval_bound (l : List UInt8) : ∀ k, k ≤ digs 6 l → hval (l.take k) + 1 ≤ 16 ^ k
  | 0, _ => by simp [hval]
  | k + 1, h => by
    have ih := hval_bound l k (by omega)
    have hl : k < l.length := by have := (digs_le 6 l).2; omega
    have hx := digs_hex 6 l k (by omega)
    rw [List.getD, List.getElem?_eq_getElem hl] at hx
    have := hexVal_lt l[k] hx
    rw [hval_take l k hl, Nat.pow_succ]
    omega

/-- The digits of an escape in a text: what the loop knows at each place. -/
theorem digs_at (s : ByteArray) (j : Nat) (h : j < digs 6 (s.data.toList.drop 3)) : j < 6 ∧ 3 + j < s.size ∧ ∀ hh : 3 + j < s.size, isHex s[3 + j] = true := by
  have hd := digs_le 6 (s.data.toList.drop 3)
  rw [List.length_drop, show s.data.toList.length = s.size by simp] at hd
  refine ⟨by omega, by omega, fun hh => ?_⟩
  have := digs_hex 6 _ j h
  have hk : 3 + j < s.data.toList.length := by simpa using hh
  rw [List.getD, List.getElem?_drop, List.getElem?_eq_getElem hk] at this
  exact this
theorem digs_end (s : ByteArray) (hl : 3 ≤ s.size) : digs 6 (s.data.toList.drop 3) = 6 ∨ 3 + digs 6 (s.data.toList.drop 3) = s.size ∨ (3 + digs 6 (s.data.toList.drop 3) < s.size ∧ ∀ hh : 3 + digs 6 (s.data.toList.drop 3) < s.size, isHex s[3 + digs 6 (s.data.toList.drop 3)] = false) := by
  have hd := digs_le 6 (s.data.toList.drop 3)
  have hlen : (s.data.toList.drop 3).length = s.size - 3 := by rw [List.length_drop]; simp
  rw [hlen] at hd
  rcases digs_stop 6 (s.data.toList.drop 3) with h | h | h
  · exact .inl h
  · right; left; omega
  · by_cases he : 3 + digs 6 (s.data.toList.drop 3) = s.size
    · exact .inr (.inl he)
    · refine .inr (.inr ⟨by omega, fun hh => ?_⟩)
      have hk : 3 + digs 6 (s.data.toList.drop 3) < s.data.toList.length := by simpa using hh
      rw [List.getD, List.getElem?_drop, List.getElem?_eq_getElem hk] at h
      exact h

/-- The value of the first j digits. -/
def dv (s : ByteArray) (j : Nat) : Nat := hval ((s.data.toList.drop 3).take j)
theorem dv_zero (s : ByteArray) : dv s 0 = 0 := rfl
theorem dv_step (s : ByteArray) (j : Nat) (h : 3 + j < s.size) : dv s (j + 1) = 16 * dv s j + hexVal s[3 + j] := by
  have hk : j < (s.data.toList.drop 3).length := by rw [List.length_drop]; simp; omega
  unfold dv
  rw [hval_take _ j hk, List.getElem_drop]
  rfl
theorem dv_bound (s : ByteArray) (j : Nat) (h : j ≤ digs 6 (s.data.toList.drop 3)) : dv s j < 16777216 := by
  have h1 := hval_bound (s.data.toList.drop 3) j h
  have h2 := (digs_le 6 (s.data.toList.drop 3)).1
  have h3 : 16 ^ j ≤ 16 ^ 6 := Nat.pow_le_pow_right (by decide) (by omega)
  unfold dv
  omega

set_option maxHeartbeats 1000000 in
theorem numbered_short (s : ByteArray) (w : World) (h2 : s.size = 2) :
    Calls Tryz.prog 138 #[.string s] w fun e w' => e = .returned (.tuple #[.int .i32 0, .int .i64 0, .int .i64 40]) ∧ w = w' := by
  have h2' : (s.size : Int) = 2 := by omega
  go_enter Tryz.func138, Tryz.ntmps138
  go_wp2_with fail
  go_ret3
  exact ⟨rfl, rfl⟩
theorem numbered_brace (s : ByteArray) (w : World) (h2 : 3 ≤ s.size) (hb : ¬ (s[2].toNat : Int) = 123) :
    Calls Tryz.prog 138 #[.string s] w fun e w' => e = .returned (.tuple #[.int .i32 0, .int .i64 0, .int .i64 2]) ∧ w = w' := by
  have h2' : ¬ (s.size : Int) = 2 := by omega
  have h3' : (2 : Int) < s.size := by omega
  go_enter Tryz.func138, Tryz.ntmps138
  go_wp2_with fail
  go_ret3
  exact ⟨rfl, rfl⟩

set_option maxHeartbeats 8000000 in
theorem numbered_main (s : ByteArray) (w : World) (hs : s.size ≤ 1000000) (h2 : 3 ≤ s.size) (hb : (s[2].toNat : Int) = 123) :
    Calls Tryz.prog 138 #[.string s] w fun e w' => e = .returned (.tuple #[.int .i32 (numAt s.data.toList (digs 6 (s.data.toList.drop 3))).r, .int .i64 (numAt s.data.toList (digs 6 (s.data.toList.drop 3))).k, .int .i64 (numAt s.data.toList (digs 6 (s.data.toList.drop 3))).e]) ∧ w = w' := by
  have h2' : ((s.size : Int) == 2) = false := beq_eq_false_iff_ne.2 (by omega)
  have h3' : (2 : Int) < s.size := by omega
  have hat := Lib.hid (digs_at s)
  have hend := Lib.hid (digs_end s h2)
  have hbound := Lib.hid (dv_bound s)
  obtain ⟨R, hR⟩ : ∃ R, numAt s.data.toList (digs 6 (s.data.toList.drop 3)) = R := ⟨_, rfl⟩
  have HR : Hid (numAt s.data.toList (digs 6 (s.data.toList.drop 3)) = R) := Lib.hid hR
  have hd6 := (digs_le 6 (s.data.toList.drop 3)).1
  have hdl : 3 + digs 6 (s.data.toList.drop 3) ≤ s.size := by
    have := (digs_le 6 (s.data.toList.drop 3)).2
    rw [List.length_drop, show s.data.toList.length = s.size by simp] at this
    omega
  rw [hR]
  clear hR
  have hz0 := dv_zero s
  have hst := Lib.hid (dv_step s)
  obtain ⟨V, hV⟩ : ∃ V, dv s = V := ⟨_, rfl⟩
  have HW : Hid (∀ n, hval ((s.data.toList.drop 3).take n) = V n) := by intro n; rw [← hV]; rfl
  rw [hV] at hz0 hst hbound
  clear hV
  generalize digs 6 (s.data.toList.drop 3) = d at *
  go_enter Tryz.func138, Tryz.ntmps138
  go_wp2_with fail
  go_loop [5, 6] (fun r i => ∃ j : Nat, j ≤ d ∧ i = .int .i64 ((3 + j : Nat) : Int) ∧ r = .int .i32 (V j)) (fun _ i => s.size - (intOf i).toNat)
  case atStart => exact ⟨0, Nat.zero_le _, rfl, by rw [hz0]; rfl⟩
  case round =>
    obtain ⟨j, hj, rfl, rfl⟩ := hrel
    by_cases hlt : j < d
    · obtain ⟨a1, a2, a3⟩ := hat.out j hlt
      have a4 := a3 a2
      have st := Lib.hid (hst.out j a2)
      have bd := Lib.hid (hbound.out (j + 1) hlt)
      have b1 : ((3 + j : Nat) : Int) < 9 := by omega
      have n1 : 16 * (V j : Int) + (hexVal s[3 + j] : Int) ≤ 16777215 := by have := st.out; have := bd.out; omega
      have n2 : 16 * (V j : Int) ≤ 16777215 := by omega
      go_wp2_with fail
      refine (digit_any _ _).mono ?_; rintro e w' ⟨rfl, rfl⟩
      rw [a4]
      go_wp2_with fail
      refine (digit_value _ _ a4).mono ?_; rintro e w' ⟨rfl, rfl⟩
      go_wp2_with fail
      go_round
      case rel => exact ⟨j + 1, by omega, by go_num, by rw [st.out]; congr 1⟩
      case measure => simp [intOf]; omega
    · obtain rfl : d = j := by omega
      clear hlt hat
      have hv := Lib.hid (hbound.out d (Nat.le_refl _))
      by_cases hsz : 3 + d = s.size
      · have hsz' : (3 : Int) + (d : Int) = (s.size : Int) := by omega
        have hnl : ¬ ((3 + d : Nat) : Int) < (s.size : Int) := by omega
        have e : R = ⟨0, 0, 40⟩ := by
          rw [← HR.out]; unfold numAt; rw [if_pos (by simp; omega)]
        subst e
        clear HR hend hbound hv
        go_wp2_with fail
        go_ret3
        exact ⟨rfl, rfl⟩
      · have hin : 3 + d < s.size := by omega
        by_cases h6 : d = 6
        · subst h6
          have hin : 9 < s.size := hin
          have hinz : (9 : Int) < (s.size : Int) := by omega
          have hsz' : ¬ (9 : Int) = (s.size : Int) := by omega
          clear hend hsz hdl
          have h3s : (3 : Int) < (s.size : Int) := by omega
          by_cases hq : (s[9].toNat : Int) = 125
          · by_cases hz : (s[3].toNat : Int) = 48
            · have e : R = ⟨0, 0, 2⟩ := by
                rw [← HR.out]; unfold numAt; rw [HW.out]
                rw [if_neg (by simp; omega), if_pos (.inr (.inr (.inl ⟨by omega, by rw [bt_get s 3 (by omega)]; omega⟩)))]
              subst e
              clear HR hbound
              go_wp2_with fail
              go_ret3
              exact ⟨rfl, rfl⟩
            · by_cases hval' : Lib.validRune (V 6 : Int) = true
              · have e : R = ⟨(V 6 : Int), ((6 : Nat) : Int) + 4, 0⟩ := by
                  rw [← HR.out]; unfold numAt; rw [HW.out]
                  rw [if_neg (by simp; omega), if_neg (by rw [bt_get s (9) hin, bt_get s 3 (by omega)]; rintro (h | h | h | h) <;> first | omega | exact absurd (hval'.symm.trans h) (by decide))]
                subst e
                clear HR hbound
                have HV : Hid (∀ w, Calls Tryz.prog 142 #[.int .i32 (V 6)] w fun e w' => e = .returned (.bool true) ∧ w' = w) := fun w => by rw [← hval']; exact Tryz.utf8_ValidRune _ w
                clear hval'
                go_wp2_with fail
                refine (HV.out _).mono ?_; rintro e w' ⟨rfl, rfl⟩
                go_wp2_with fail
                go_ret3
                exact ⟨by first | rfl | (rw [show (d : Int) + 4 = 3 + (d : Int) + 1 by omega]; rfl), rfl⟩
              · rw [Bool.not_eq_true] at hval'
                have e : R = ⟨0, 0, 2⟩ := by
                  rw [← HR.out]; unfold numAt; rw [HW.out]
                  rw [if_neg (by simp; omega), if_pos (.inr (.inr (.inr hval')))]
                subst e
                clear HR hbound
                have HV : Hid (∀ w, Calls Tryz.prog 142 #[.int .i32 (V 6)] w fun e w' => e = .returned (.bool false) ∧ w' = w) := fun w => by rw [← hval']; exact Tryz.utf8_ValidRune _ w
                clear hval'
                go_wp2_with fail
                refine (HV.out _).mono ?_; rintro e w' ⟨rfl, rfl⟩
                go_wp2_with fail
                go_ret3
                exact ⟨rfl, rfl⟩
          · by_cases hz : (s[3].toNat : Int) = 48
            · have e : R = ⟨0, 0, 2⟩ := by
                rw [← HR.out]; unfold numAt; rw [HW.out]
                rw [if_neg (by simp; omega), if_pos (.inl (by rw [bt_get s (9) hin]; omega))]
              subst e
              clear HR hbound
              go_wp2_with fail
              go_ret3
              exact ⟨rfl, rfl⟩
            · have e : R = ⟨0, 0, 2⟩ := by
                rw [← HR.out]; unfold numAt; rw [HW.out]
                rw [if_neg (by simp; omega), if_pos (.inl (by rw [bt_get s (9) hin]; omega))]
              subst e
              clear HR hbound
              go_wp2_with fail
              go_ret3
              exact ⟨rfl, rfl⟩
        · have h9 : ((3 + d : Nat) : Int) < 9 := by omega
          have hx : isHex s[3 + d] = false := by
            rcases hend.out with h | h | h
            · exact absurd h h6
            · exact absurd h hsz
            · exact h.2 hin
          clear hend
          by_cases h0 : d = 0
          · subst h0
            have hin : 3 < s.size := hin
            have hx : isHex s[3] = false := hx
            have hinz : (3 : Int) < (s.size : Int) := by omega
            have hsz' : ¬ (3 : Int) = (s.size : Int) := by omega
            clear hsz hdl h9
            have e : R = ⟨0, 0, 2⟩ := by
              rw [← HR.out]; unfold numAt; rw [HW.out]
              rw [if_neg (by simp; omega), if_pos (.inr (.inl rfl))]
            subst e
            clear HR hbound
            go_wp2_with fail
            refine (digit_any _ _).mono ?_; rintro e w' ⟨rfl, rfl⟩
            rw [hx]
            clear hx
            by_cases hq : (s[3].toNat : Int) = 125
            · go_wp2_with fail
              go_ret3
              exact ⟨rfl, rfl⟩
            · go_wp2_with fail
              go_ret3
              exact ⟨rfl, rfl⟩
          · have hinz : ((3 + d : Nat) : Int) < (s.size : Int) := by omega
            have hsz' : ¬ (3 : Int) + (d : Int) = (s.size : Int) := by omega
            have h0' : ¬ (d : Int) = 0 := by omega
            have h03 : ((3 : Int) + (d : Int) == 3) = false := beq_eq_false_iff_ne.2 (by omega)
            go_wp2_with fail
            refine (digit_any _ _).mono ?_; rintro e w' ⟨rfl, rfl⟩
            rw [hx]
            clear hx
            by_cases z1 : (1 : Int) < (d : Int)
            · have h3s : (3 : Int) < (s.size : Int) := by omega
              by_cases hq : (s[3 + d].toNat : Int) = 125
              · by_cases hz : (s[3].toNat : Int) = 48
                · have e : R = ⟨0, 0, 2⟩ := by
                    rw [← HR.out]; unfold numAt; rw [HW.out]
                    rw [if_neg (by simp; omega), if_pos (.inr (.inr (.inl ⟨by omega, by rw [bt_get s 3 (by omega)]; omega⟩)))]
                  subst e
                  clear HR hbound
                  go_wp2_with fail
                  go_ret3
                  exact ⟨rfl, rfl⟩
                · by_cases hval' : Lib.validRune (V d : Int) = true
                  · have e : R = ⟨(V d : Int), ((d : Nat) : Int) + 4, 0⟩ := by
                      rw [← HR.out]; unfold numAt; rw [HW.out]
                      rw [if_neg (by simp; omega), if_neg (by rw [bt_get s (3 + d) hin, bt_get s 3 (by omega)]; rintro (h | h | h | h) <;> first | omega | exact absurd (hval'.symm.trans h) (by decide))]
                    subst e
                    clear HR hbound
                    have HV : Hid (∀ w, Calls Tryz.prog 142 #[.int .i32 (V d)] w fun e w' => e = .returned (.bool true) ∧ w' = w) := fun w => by rw [← hval']; exact Tryz.utf8_ValidRune _ w
                    clear hval'
                    go_wp2_with fail
                    refine (HV.out _).mono ?_; rintro e w' ⟨rfl, rfl⟩
                    go_wp2_with fail
                    go_ret3
                    exact ⟨by first | rfl | (rw [show (d : Int) + 4 = 3 + (d : Int) + 1 by omega]; rfl), rfl⟩
                  · rw [Bool.not_eq_true] at hval'
                    have e : R = ⟨0, 0, 2⟩ := by
                      rw [← HR.out]; unfold numAt; rw [HW.out]
                      rw [if_neg (by simp; omega), if_pos (.inr (.inr (.inr hval')))]
                    subst e
                    clear HR hbound
                    have HV : Hid (∀ w, Calls Tryz.prog 142 #[.int .i32 (V d)] w fun e w' => e = .returned (.bool false) ∧ w' = w) := fun w => by rw [← hval']; exact Tryz.utf8_ValidRune _ w
                    clear hval'
                    go_wp2_with fail
                    refine (HV.out _).mono ?_; rintro e w' ⟨rfl, rfl⟩
                    go_wp2_with fail
                    go_ret3
                    exact ⟨rfl, rfl⟩
              · by_cases hz : (s[3].toNat : Int) = 48
                · have e : R = ⟨0, 0, 2⟩ := by
                    rw [← HR.out]; unfold numAt; rw [HW.out]
                    rw [if_neg (by simp; omega), if_pos (.inl (by rw [bt_get s (3 + d) hin]; omega))]
                  subst e
                  clear HR hbound
                  go_wp2_with fail
                  go_ret3
                  exact ⟨rfl, rfl⟩
                · have e : R = ⟨0, 0, 2⟩ := by
                    rw [← HR.out]; unfold numAt; rw [HW.out]
                    rw [if_neg (by simp; omega), if_pos (.inl (by rw [bt_get s (3 + d) hin]; omega))]
                  subst e
                  clear HR hbound
                  go_wp2_with fail
                  go_ret3
                  exact ⟨rfl, rfl⟩
            · by_cases hq : (s[3 + d].toNat : Int) = 125
              · by_cases hval' : Lib.validRune (V d : Int) = true
                · have e : R = ⟨(V d : Int), ((d : Nat) : Int) + 4, 0⟩ := by
                    rw [← HR.out]; unfold numAt; rw [HW.out]
                    rw [if_neg (by simp; omega), if_neg (by rw [bt_get s (3 + d) hin]; rintro (h | h | h | h) <;> first | omega | exact absurd (hval'.symm.trans h) (by decide))]
                  subst e
                  clear HR hbound
                  have HV : Hid (∀ w, Calls Tryz.prog 142 #[.int .i32 (V d)] w fun e w' => e = .returned (.bool true) ∧ w' = w) := fun w => by rw [← hval']; exact Tryz.utf8_ValidRune _ w
                  clear hval'
                  go_wp2_with fail
                  refine (HV.out _).mono ?_; rintro e w' ⟨rfl, rfl⟩
                  go_wp2_with fail
                  go_ret3
                  exact ⟨by first | rfl | (rw [show (d : Int) + 4 = 3 + (d : Int) + 1 by omega]; rfl), rfl⟩
                · rw [Bool.not_eq_true] at hval'
                  have e : R = ⟨0, 0, 2⟩ := by
                    rw [← HR.out]; unfold numAt; rw [HW.out]
                    rw [if_neg (by simp; omega), if_pos (.inr (.inr (.inr hval')))]
                  subst e
                  clear HR hbound
                  have HV : Hid (∀ w, Calls Tryz.prog 142 #[.int .i32 (V d)] w fun e w' => e = .returned (.bool false) ∧ w' = w) := fun w => by rw [← hval']; exact Tryz.utf8_ValidRune _ w
                  clear hval'
                  go_wp2_with fail
                  refine (HV.out _).mono ?_; rintro e w' ⟨rfl, rfl⟩
                  go_wp2_with fail
                  go_ret3
                  exact ⟨rfl, rfl⟩
              · have e : R = ⟨0, 0, 2⟩ := by
                  rw [← HR.out]; unfold numAt; rw [HW.out]
                  rw [if_neg (by simp; omega), if_pos (.inl (by rw [bt_get s (3 + d) hin]; omega))]
                subst e
                clear HR hbound
                go_wp2_with fail
                go_ret3
                exact ⟨rfl, rfl⟩
/-- What readNumbered returns, for any text of two bytes or more. -/
theorem numbered_any (s : ByteArray) (w : World) (hs : s.size ≤ 1000000) (h2 : 2 ≤ s.size) :
    Calls Tryz.prog 138 #[.string s] w fun e w' => e = .returned (.tuple #[.int .i32 (num s.data.toList).r, .int .i64 (num s.data.toList).k, .int .i64 (num s.data.toList).e]) ∧ w = w' := by
  have hl : s.data.toList.length = s.size := by simp
  unfold num
  rw [hl]
  by_cases h : s.size = 2
  · rw [if_pos h]
    exact numbered_short s w h
  · rw [if_neg h]
    have h3 : 2 < s.size := by omega
    rw [bt_get s 2 h3]
    by_cases hb : s[2].toNat = 123
    · rw [if_neg (fun x => x hb)]
      exact numbered_main s w hs h3 (by omega)
    · rw [if_pos hb]
      exact numbered_brace s w h3 (by omega)

end Go.Proofs.YthekabflbpfjoaaGreatDoor.lit
