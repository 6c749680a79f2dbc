/- The escapes of package strlit: what readNumbered and readEscape return for any text; The escapes and items of package strlit; Unquote of package strlit: what it returns for any text; Unquote of package strlit: what it returns for any text; The library's contract of utf8.ValidString at this program; Valid of package strlit: what they return for any bytes. -/
import Derived.Test.YthekabflbpfjoaaGreatDoorLqtm
import Derived.Lib.ValidAsc
import Derived.Shelf.Unicode.ValidAny
import Derived.Test.YthekabflbpfjoaaGreatDoorProg
import Derived.Lib.RuneCount
import Derived.Laws.RangeString
import Derived.Laws.RangeAny
namespace Go.Proofs.YthekabflbpfjoaaGreatDoor.lit
open Go.RowKit

theorem bt_get (s : ByteArray) (k : Nat) (h : k < s.size) : bt s.data.toList k = s[k].toNat := by
  have hk : k < s.data.toList.length := by simpa using h
  unfold bt
  rw [List.getD, List.getElem?_eq_getElem hk]
  rfl
theorem digs_hex : ∀ (n : Nat) (l : List UInt8) (j : Nat), j < digs n l → isHex (l.getD j 0) = true
  | 0, _, _, h => by simp [digs] at h
  | n + 1, [], _, h => by simp [digs] at h
  | n + 1, c :: t, j, h => by
    unfold digs at h
    split at h
    · rename_i hc
      cases j with
      | zero => simpa using hc
      | succ j => simpa using digs_hex n t j (by omega)
    · omega
theorem digs_stop : ∀ (n : Nat) (l : List UInt8), digs n l = n ∨ digs n l = l.length ∨ isHex (l.getD (digs n l) 0) = false
  | 0, _ => .inl rfl
  | n + 1, [] => .inr (.inl rfl)
  | n + 1, c :: t => by
    unfold digs
    split
    · rcases digs_stop n t with h | h | h
      · left; omega
      · right; left; rw [List.length_cons]; omega
      · right; right
        rw [Nat.add_comm]
        simpa using h
    · rename_i hc
      right; right
      simpa using hc
theorem hval_take (l : List UInt8) (k : Nat) (h : k < l.length) : hval (l.take (k + 1)) = 16 * hval (l.take k) + hexVal l[k] := by
  rw [List.take_succ_eq_append_getElem h, hval_snoc]
theorem hval_bound (l : List UInt8) : ∀ k, k ≤ digs 6 l → hval (l.take k) + 1 ≤ 16 ^ k
  | 0, _ => by simp [hval]
  | k + 1, h => by
    have ih := hval_bound l k (by omega)
    have hl : k < l.length := by have := (digs_le 6 l).2; omega
    have hx := digs_hex 6 l k (by omega)
    rw [List.getD, List.getElem?_eq_getElem hl] at hx
    have := hexVal_lt l[k] hx
    rw [hval_take l k hl, Nat.pow_succ]
    omega

/-- The digits of an escape in a text: what the loop knows at each place. -/
theorem digs_at (s : ByteArray) (j : Nat) (h : j < digs 6 (s.data.toList.drop 3)) : j < 6 ∧ 3 + j < s.size ∧ ∀ hh : 3 + j < s.size, isHex s[3 + j] = true := by
  have hd := digs_le 6 (s.data.toList.drop 3)
  rw [List.length_drop, show s.data.toList.length = s.size by simp] at hd
  refine ⟨by omega, by omega, fun hh => ?_⟩
  have := digs_hex 6 _ j h
  have hk : 3 + j < s.data.toList.length := by simpa using hh
  rw [List.getD, List.getElem?_drop, List.getElem?_eq_getElem hk] at this
  exact this
theorem digs_end (s : ByteArray) (hl : 3 ≤ s.size) : digs 6 (s.data.toList.drop 3) = 6 ∨ 3 + digs 6 (s.data.toList.drop 3) = s.size ∨ (3 + digs 6 (s.data.toList.drop 3) < s.size ∧ ∀ hh : 3 + digs 6 (s.data.toList.drop 3) < s.size, isHex s[3 + digs 6 (s.data.toList.drop 3)] = false) := by
  have hd := digs_le 6 (s.data.toList.drop 3)
  have hlen : (s.data.toList.drop 3).length = s.size - 3 := by rw [List.length_drop]; simp
  rw [hlen] at hd
  rcases digs_stop 6 (s.data.toList.drop 3) with h | h | h
  · exact .inl h
  · right; left; omega
  · by_cases he : 3 + digs 6 (s.data.toList.drop 3) = s.size
    · exact .inr (.inl he)
    · refine .inr (.inr ⟨by omega, fun hh => ?_⟩)
      have hk : 3 + digs 6 (s.data.toList.drop 3) < s.data.toList.length := by simpa using hh
      rw [List.getD, List.getElem?_drop, List.getElem?_eq_getElem hk] at h
      exact h

/-- The value of the first j digits. -/
def dv (s : ByteArray) (j : Nat) : Nat := hval ((s.data.toList.drop 3).take j)
theorem dv_zero (s : ByteArray) : dv s 0 = 0 := rfl
theorem dv_step (s : ByteArray) (j : Nat) (h : 3 + j < s.size) : dv s (j + 1) = 16 * dv s j + hexVal s[3 + j] := by
  have hk : j < (s.data.toList.drop 3).length := by rw [List.length_drop]; simp; omega
  unfold dv
  rw [hval_take _ j hk, List.getElem_drop]
  rfl
theorem dv_bound (s : ByteArray) (j : Nat) (h : j ≤ digs 6 (s.data.toList.drop 3)) : dv s j < 16777216 := by
  have h1 := hval_bound (s.data.toList.drop 3) j h
  have h2 := (digs_le 6 (s.data.toList.drop 3)).1
  have h3 : 16 ^ j ≤ 16 ^ 6 := Nat.pow_le_pow_right (by decide) (by omega)
  unfold dv
  omega

set_option maxHeartbeats 1000000 in
theorem numbered_short (s : ByteArray) (w : World) (h2 : s.size = 2) :
    Calls Tryz.prog 138 #[.string s] w fun e w' => e = .returned (.tuple #[.int .i32 0, .int .i64 0, .int .i64 40]) ∧ w = w' := by
  have h2' : (s.size : Int) = 2 := by omega
  go_enter Tryz.func138, Tryz.ntmps138
  go_wp2_with fail
  go_ret3
  exact ⟨rfl, rfl⟩
theorem numbered_brace (s : ByteArray) (w : World) (h2 : 3 ≤ s.size) (hb : ¬ (s[2].toNat : Int) = 123) :
    Calls Tryz.prog 138 #[.string s] w fun e w' => e = .returned (.tuple #[.int .i32 0, .int .i64 0, .int .i64 2]) ∧ w = w' := by
  have h2' : ¬ (s.size : Int) = 2 := by omega
  have h3' : (2 : Int) < s.size := by omega
  go_enter Tryz.func138, Tryz.ntmps138
  go_wp2_with fail
  go_ret3
  exact ⟨rfl, rfl⟩

set_option maxHeartbeats 8000000 in
theorem numbered_main (s : ByteArray) (w : World) (hs : s.size ≤ 1000000) (h2 : 3 ≤ s.size) (hb : (s[2].toNat : Int) = 123) :
    Calls Tryz.prog 138 #[.string s] w fun e w' => e = .returned (.tuple #[.int .i32 (numAt s.data.toList (digs 6 (s.data.toList.drop 3))).r, .int .i64 (numAt s.data.toList (digs 6 (s.data.toList.drop 3))).k, .int .i64 (numAt s.data.toList (digs 6 (s.data.toList.drop 3))).e]) ∧ w = w' := by
  have h2' : ((s.size : Int) == 2) = false := beq_eq_false_iff_ne.2 (by omega)
  have h3' : (2 : Int) < s.size := by omega
  have hat := Lib.hid (digs_at s)
  have hend := Lib.hid (digs_end s h2)
  have hbound := Lib.hid (dv_bound s)
  obtain ⟨R, hR⟩ : ∃ R, numAt s.data.toList (digs 6 (s.data.toList.drop 3)) = R := ⟨_, rfl⟩
  have HR : Hid (numAt s.data.toList (digs 6 (s.data.toList.drop 3)) = R) := Lib.hid hR
  have hd6 := (digs_le 6 (s.data.toList.drop 3)).1
  have hdl : 3 + digs 6 (s.data.toList.drop 3) ≤ s.size := by
    have := (digs_le 6 (s.data.toList.drop 3)).2
    rw [List.length_drop, show s.data.toList.length = s.size by simp] at this
    omega
  rw [hR]
  clear hR
  have hz0 := dv_zero s
  have hst := Lib.hid (dv_step s)
  obtain ⟨V, hV⟩ : ∃ V, dv s = V := ⟨_, rfl⟩
  have HW : Hid (∀ n, hval ((s.data.toList.drop 3).take n) = V n) := by intro n; rw [← hV]; rfl
  rw [hV] at hz0 hst hbound
  clear hV
  generalize digs 6 (s.data.toList.drop 3) = d at *
  go_enter Tryz.func138, Tryz.ntmps138
  go_wp2_with fail
  go_loop [5, 6] (fun r i => ∃ j : Nat, j ≤ d ∧ i = .int .i64 ((3 + j : Nat) : Int) ∧ r = .int .i32 (V j)) (fun _ i => s.size - (intOf i).toNat)
  case atStart => exact ⟨0, Nat.zero_le _, rfl, by rw [hz0]; rfl⟩
  case round =>
    obtain ⟨j, hj, rfl, rfl⟩ := hrel
    by_cases hlt : j < d
    · obtain ⟨a1, a2, a3⟩ := hat.out j hlt
      have a4 := a3 a2
      have st := Lib.hid (hst.out j a2)
      have bd := Lib.hid (hbound.out (j + 1) hlt)
      have b1 : ((3 + j : Nat) : Int) < 9 := by omega
      have n1 : 16 * (V j : Int) + (hexVal s[3 + j] : Int) ≤ 16777215 := by have := st.out; have := bd.out; omega
      have n2 : 16 * (V j : Int) ≤ 16777215 := by omega
      go_wp2_with fail
      refine (digit_any _ _).mono ?_; rintro e w' ⟨rfl, rfl⟩
      rw [a4]
      go_wp2_with fail
      refine (digit_value _ _ a4).mono ?_; rintro e w' ⟨rfl, rfl⟩
      go_wp2_with fail
      go_round
      case rel => exact ⟨j + 1, by omega, by go_num, by rw [st.out]; congr 1⟩
      case measure => simp [intOf]; omega
    · obtain rfl : d = j := by omega
      clear hlt hat
      have hv := Lib.hid (hbound.out d (Nat.le_refl _))
      by_cases hsz : 3 + d = s.size
      · have hsz' : (3 : Int) + (d : Int) = (s.size : Int) := by omega
        have hnl : ¬ ((3 + d : Nat) : Int) < (s.size : Int) := by omega
        have e : R = ⟨0, 0, 40⟩ := by
          rw [← HR.out]; unfold numAt; rw [if_pos (by simp; omega)]
        subst e
        clear HR hend hbound hv
        go_wp2_with fail
        go_ret3
        exact ⟨rfl, rfl⟩
      · have hin : 3 + d < s.size := by omega
        by_cases h6 : d = 6
        · subst h6
          have hin : 9 < s.size := hin
          have hinz : (9 : Int) < (s.size : Int) := by omega
          have hsz' : ¬ (9 : Int) = (s.size : Int) := by omega
          clear hend hsz hdl
          have h3s : (3 : Int) < (s.size : Int) := by omega
          by_cases hq : (s[9].toNat : Int) = 125
          · by_cases hz : (s[3].toNat : Int) = 48
            · have e : R = ⟨0, 0, 2⟩ := by
                rw [← HR.out]; unfold numAt; rw [HW.out]
                rw [if_neg (by simp; omega), if_pos (.inr (.inr (.inl ⟨by omega, by rw [bt_get s 3 (by omega)]; omega⟩)))]
              subst e
              clear HR hbound
              go_wp2_with fail
              go_ret3
              exact ⟨rfl, rfl⟩
            · by_cases hval' : Lib.validRune (V 6 : Int) = true
              · have e : R = ⟨(V 6 : Int), ((6 : Nat) : Int) + 4, 0⟩ := by
                  rw [← HR.out]; unfold numAt; rw [HW.out]
                  rw [if_neg (by simp; omega), if_neg (by rw [bt_get s (9) hin, bt_get s 3 (by omega)]; rintro (h | h | h | h) <;> first | omega | exact absurd (hval'.symm.trans h) (by decide))]
                subst e
                clear HR hbound
                have HV : Hid (∀ w, Calls Tryz.prog 142 #[.int .i32 (V 6)] w fun e w' => e = .returned (.bool true) ∧ w' = w) := fun w => by rw [← hval']; exact Tryz.utf8_ValidRune _ w
                clear hval'
                go_wp2_with fail
                refine (HV.out _).mono ?_; rintro e w' ⟨rfl, rfl⟩
                go_wp2_with fail
                go_ret3
                exact ⟨by first | rfl | (rw [show (d : Int) + 4 = 3 + (d : Int) + 1 by omega]; rfl), rfl⟩
              · rw [Bool.not_eq_true] at hval'
                have e : R = ⟨0, 0, 2⟩ := by
                  rw [← HR.out]; unfold numAt; rw [HW.out]
                  rw [if_neg (by simp; omega), if_pos (.inr (.inr (.inr hval')))]
                subst e
                clear HR hbound
                have HV : Hid (∀ w, Calls Tryz.prog 142 #[.int .i32 (V 6)] w fun e w' => e = .returned (.bool false) ∧ w' = w) := fun w => by rw [← hval']; exact Tryz.utf8_ValidRune _ w
                clear hval'
                go_wp2_with fail
                refine (HV.out _).mono ?_; rintro e w' ⟨rfl, rfl⟩
                go_wp2_with fail
                go_ret3
                exact ⟨rfl, rfl⟩
          · by_cases hz : (s[3].toNat : Int) = 48
            · have e : R = ⟨0, 0, 2⟩ := by
                rw [← HR.out]; unfold numAt; rw [HW.out]
                rw [if_neg (by simp; omega), if_pos (.inl (by rw [bt_get s (9) hin]; omega))]
              subst e
              clear HR hbound
              go_wp2_with fail
              go_ret3
              exact ⟨rfl, rfl⟩
            · have e : R = ⟨0, 0, 2⟩ := by
                rw [← HR.out]; unfold numAt; rw [HW.out]
                rw [if_neg (by simp; omega), if_pos (.inl (by rw [bt_get s (9) hin]; omega))]
              subst e
              clear HR hbound
              go_wp2_with fail
              go_ret3
              exact ⟨rfl, rfl⟩
        · have h9 : ((3 + d : Nat) : Int) < 9 := by omega
          have hx : isHex s[3 + d] = false := by
            rcases hend.out with h | h | h
            · exact absurd h h6
            · exact absurd h hsz
            · exact h.2 hin
          clear hend
          by_cases h0 : d = 0
          · subst h0
            have hin : 3 < s.size := hin
            have hx : isHex s[3] = false := hx
            have hinz : (3 : Int) < (s.size : Int) := by omega
            have hsz' : ¬ (3 : Int) = (s.size : Int) := by omega
            clear hsz hdl h9
            have e : R = ⟨0, 0, 2⟩ := by
              rw [← HR.out]; unfold numAt; rw [HW.out]
              rw [if_neg (by simp; omega), if_pos (.inr (.inl rfl))]
            subst e
            clear HR hbound
            go_wp2_with fail
            refine (digit_any _ _).mono ?_; rintro e w' ⟨rfl, rfl⟩
            rw [hx]
            clear hx
            by_cases hq : (s[3].toNat : Int) = 125
            · go_wp2_with fail
              go_ret3
              exact ⟨rfl, rfl⟩
            · go_wp2_with fail
              go_ret3
              exact ⟨rfl, rfl⟩
          · have hinz : ((3 + d : Nat) : Int) < (s.size : Int) := by omega
            have hsz' : ¬ (3 : Int) + (d : Int) = (s.size : Int) := by omega
            have h0' : ¬ (d : Int) = 0 := by omega
            have h03 : ((3 : Int) + (d : Int) == 3) = false := beq_eq_false_iff_ne.2 (by omega)
            go_wp2_with fail
            refine (digit_any _ _).mono ?_; rintro e w' ⟨rfl, rfl⟩
            rw [hx]
            clear hx
            by_cases z1 : (1 : Int) < (d : Int)
            · have h3s : (3 : Int) < (s.size : Int) := by omega
              by_cases hq : (s[3 + d].toNat : Int) = 125
              · by_cases hz : (s[3].toNat : Int) = 48
                · have e : R = ⟨0, 0, 2⟩ := by
                    rw [← HR.out]; unfold numAt; rw [HW.out]
                    rw [if_neg (by simp; omega), if_pos (.inr (.inr (.inl ⟨by omega, by rw [bt_get s 3 (by omega)]; omega⟩)))]
                  subst e
                  clear HR hbound
                  go_wp2_with fail
                  go_ret3
                  exact ⟨rfl, rfl⟩
                · by_cases hval' : Lib.validRune (V d : Int) = true
                  · have e : R = ⟨(V d : Int), ((d : Nat) : Int) + 4, 0⟩ := by
                      rw [← HR.out]; unfold numAt; rw [HW.out]
                      rw [if_neg (by simp; omega), if_neg (by rw [bt_get s (3 + d) hin, bt_get s 3 (by omega)]; rintro (h | h | h | h) <;> first | omega | exact absurd (hval'.symm.trans h) (by decide))]
                    subst e
                    clear HR hbound
                    have HV : Hid (∀ w, Calls Tryz.prog 142 #[.int .i32 (V d)] w fun e w' => e = .returned (.bool true) ∧ w' = w) := fun w => by rw [← hval']; exact Tryz.utf8_ValidRune _ w
                    clear hval'
                    go_wp2_with fail
                    refine (HV.out _).mono ?_; rintro e w' ⟨rfl, rfl⟩
                    go_wp2_with fail
                    go_ret3
                    exact ⟨by first | rfl | (rw [show (d : Int) + 4 = 3 + (d : Int) + 1 by omega]; rfl), rfl⟩
                  · rw [Bool.not_eq_true] at hval'
                    have e : R = ⟨0, 0, 2⟩ := by
                      rw [← HR.out]; unfold numAt; rw [HW.out]
                      rw [if_neg (by simp; omega), if_pos (.inr (.inr (.inr hval')))]
                    subst e
                    clear HR hbound
                    have HV : Hid (∀ w, Calls Tryz.prog 142 #[.int .i32 (V d)] w fun e w' => e = .returned (.bool false) ∧ w' = w) := fun w => by rw [← hval']; exact Tryz.utf8_ValidRune _ w
                    clear hval'
                    go_wp2_with fail
                    refine (HV.out _).mono ?_; rintro e w' ⟨rfl, rfl⟩
                    go_wp2_with fail
                    go_ret3
                    exact ⟨rfl, rfl⟩
              · by_cases hz : (s[3].toNat : Int) = 48
                · have e : R = ⟨0, 0, 2⟩ := by
                    rw [← HR.out]; unfold numAt; rw [HW.out]
                    rw [if_neg (by simp; omega), if_pos (.inl (by rw [bt_get s (3 + d) hin]; omega))]
                  subst e
                  clear HR hbound
                  go_wp2_with fail
                  go_ret3
                  exact ⟨rfl, rfl⟩
                · have e : R = ⟨0, 0, 2⟩ := by
                    rw [← HR.out]; unfold numAt; rw [HW.out]
                    rw [if_neg (by simp; omega), if_pos (.inl (by rw [bt_get s (3 + d) hin]; omega))]
                  subst e
                  clear HR hbound
                  go_wp2_with fail
                  go_ret3
                  exact ⟨rfl, rfl⟩
            · by_cases hq : (s[3 + d].toNat : Int) = 125
              · by_cases hval' : Lib.validRune (V d : Int) = true
                · have e : R = ⟨(V d : Int), ((d : Nat) : Int) + 4, 0⟩ := by
                    rw [← HR.out]; unfold numAt; rw [HW.out]
                    rw [if_neg (by simp; omega), if_neg (by rw [bt_get s (3 + d) hin]; rintro (h | h | h | h) <;> first | omega | exact absurd (hval'.symm.trans h) (by decide))]
                  subst e
                  clear HR hbound
                  have HV : Hid (∀ w, Calls Tryz.prog 142 #[.int .i32 (V d)] w fun e w' => e = .returned (.bool true) ∧ w' = w) := fun w => by rw [← hval']; exact Tryz.utf8_ValidRune _ w
                  clear hval'
                  go_wp2_with fail
                  refine (HV.out _).mono ?_; rintro e w' ⟨rfl, rfl⟩
                  go_wp2_with fail
                  go_ret3
                  exact ⟨by first | rfl | (rw [show (d : Int) + 4 = 3 + (d : Int) + 1 by omega]; rfl), rfl⟩
                · rw [Bool.not_eq_true] at hval'
                  have e : R = ⟨0, 0, 2⟩ := by
                    rw [← HR.out]; unfold numAt; rw [HW.out]
                    rw [if_neg (by simp; omega), if_pos (.inr (.inr (.inr hval')))]
                  subst e
                  clear HR hbound
                  have HV : Hid (∀ w, Calls Tryz.prog 142 #[.int .i32 (V d)] w fun e w' => e = .returned (.bool false) ∧ w' = w) := fun w => by rw [← hval']; exact Tryz.utf8_ValidRune _ w
                  clear hval'
                  go_wp2_with fail
                  refine (HV.out _).mono ?_; rintro e w' ⟨rfl, rfl⟩
                  go_wp2_with fail
                  go_ret3
                  exact ⟨rfl, rfl⟩
              · have e : R = ⟨0, 0, 2⟩ := by
                  rw [← HR.out]; unfold numAt; rw [HW.out]
                  rw [if_neg (by simp; omega), if_pos (.inl (by rw [bt_get s (3 + d) hin]; omega))]
                subst e
                clear HR hbound
                go_wp2_with fail
                go_ret3
                exact ⟨rfl, rfl⟩
/-- What readNumbered returns, for any text of two bytes or more. -/
theorem numbered_any (s : ByteArray) (w : World) (hs : s.size ≤ 1000000) (h2 : 2 ≤ s.size) :
    Calls Tryz.prog 138 #[.string s] w fun e w' => e = .returned (.tuple #[.int .i32 (num s.data.toList).r, .int .i64 (num s.data.toList).k, .int .i64 (num s.data.toList).e]) ∧ w = w' := by
  have hl : s.data.toList.length = s.size := by simp
  unfold num
  rw [hl]
  by_cases h : s.size = 2
  · rw [if_pos h]
    exact numbered_short s w h
  · rw [if_neg h]
    have h3 : 2 < s.size := by omega
    rw [bt_get s 2 h3]
    by_cases hb : s[2].toNat = 123
    · rw [if_neg (fun x => x hb)]
      exact numbered_main s w hs h3 (by omega)
    · rw [if_pos hb]
      exact numbered_brace s w h3 (by omega)

end Go.Proofs.YthekabflbpfjoaaGreatDoor.lit

namespace Go.Proofs.YthekabflbpfjoaaGreatDoor.lit
open Go.RowKit

/-- What readEscape returns, for any text that is not empty. -/
theorem escape_any (s : ByteArray) (w : World) (hs : s.size ≤ 1000000) (h1 : 1 ≤ s.size) :
    Calls Tryz.prog 134 #[.string s] w fun e w' => e = .returned (.tuple #[.int .i32 (esc s.data.toList).r, .int .i64 (esc s.data.toList).k, .int .i64 (esc s.data.toList).e]) ∧ w = w' := by
  have hl : s.data.toList.length = s.size := by simp
  unfold esc
  rw [hl]
  by_cases h : s.size = 1
  · rw [if_pos h]
    have h' : (s.size : Int) = 1 := by omega
    go_enter Tryz.func134, Tryz.ntmps134
    go_wp2_with fail
    go_ret3
    exact ⟨rfl, rfl⟩
  · rw [if_neg h]
    have h2 : 1 < s.size := by omega
    have hn : ¬ (s.size : Int) = 1 := by omega
    have hz : (1 : Int) < (s.size : Int) := by omega
    rw [bt_get s 1 h2]
    by_cases c1 : s[1].toNat = 110
    · rw [if_pos c1]
      have g : (s[1].toNat : Int) = 110 := by omega
      go_enter Tryz.func134, Tryz.ntmps134
      go_wp2_with fail
      go_ret3
      exact ⟨rfl, rfl⟩
    rw [if_neg c1]
    have g1 : ¬ (s[1].toNat : Int) = 110 := by omega
    by_cases c2 : s[1].toNat = 114
    · rw [if_pos c2]
      have g : (s[1].toNat : Int) = 114 := by omega
      go_enter Tryz.func134, Tryz.ntmps134
      go_wp2_with fail
      go_ret3
      exact ⟨rfl, rfl⟩
    rw [if_neg c2]
    have g2 : ¬ (s[1].toNat : Int) = 114 := by omega
    by_cases c3 : s[1].toNat = 116
    · rw [if_pos c3]
      have g : (s[1].toNat : Int) = 116 := by omega
      go_enter Tryz.func134, Tryz.ntmps134
      go_wp2_with fail
      go_ret3
      exact ⟨rfl, rfl⟩
    rw [if_neg c3]
    have g3 : ¬ (s[1].toNat : Int) = 116 := by omega
    by_cases c4 : s[1].toNat = 34
    · rw [if_pos (.inl c4), c4]
      have g : (s[1].toNat : Int) = 34 := by omega
      go_enter Tryz.func134, Tryz.ntmps134
      go_wp2_with fail
      go_ret3
      exact ⟨rfl, rfl⟩
    by_cases c5 : s[1].toNat = 92
    · rw [if_pos (.inr c5), c5]
      have g : (s[1].toNat : Int) = 92 := by omega
      go_enter Tryz.func134, Tryz.ntmps134
      go_wp2_with fail
      go_ret3
      exact ⟨rfl, rfl⟩
    rw [if_neg (by omega)]
    have g4 : ¬ (s[1].toNat : Int) = 34 := by omega
    have g5 : ¬ (s[1].toNat : Int) = 92 := by omega
    by_cases c6 : s[1].toNat = 117
    · rw [if_pos c6]
      have g : (s[1].toNat : Int) = 117 := by omega
      have cN := Lib.hid (fun w => numbered_any s w hs h2)
      clear hs c1 c2 c3 c4 c5 c6 hl
      generalize num s.data.toList = R at *
      go_enter Tryz.func134, Tryz.ntmps134
      go_wp2_with fail
      refine (cN.out _).mono ?_; rintro e w' ⟨rfl, rfl⟩
      go_wp2_with fail
      go_ret3
      exact ⟨rfl, rfl⟩
    · rw [if_neg c6]
      have g6 : ¬ (s[1].toNat : Int) = 117 := by omega
      go_enter Tryz.func134, Tryz.ntmps134
      go_wp2_with fail
      go_ret3
      exact ⟨rfl, rfl⟩

end Go.Proofs.YthekabflbpfjoaaGreatDoor.lit

namespace Go.Proofs.YthekabflbpfjoaaGreatDoor.lit
open Go.RowKit

theorem list_whole (s : ByteArray) : (⟨s.data.toList.toArray⟩ : ByteArray) = s := by
  apply ByteArray.ext
  simp
theorem decode_go (s : ByteArray) (h : 0 < s.size) : Lib.decodeGo s = Lib.decodeL s.data.toList := by
  unfold Lib.decodeGo Lib.decodeL
  rw [if_neg (by omega), list_whole]
set_option maxHeartbeats 1000000 in
/-- What readItem returns, for any text that is not empty. -/
theorem item_any (s : ByteArray) (w : World) (f : Fx w) (hs : s.size ≤ 1000000) (h1 : 1 ≤ s.size) :
    Calls Tryz.prog 125 #[.string s] w fun e w' => e = .returned (.tuple #[.int .i32 (item s.data.toList).r, .int .i64 (item s.data.toList).k, .int .i64 (item s.data.toList).e]) ∧ Q w w' := by
  have cE := Lib.hid (fun w => escape_any s w hs h1)
  have cD : Hid (Calls Tryz.prog 135 #[.string s] w fun e w' => e = .returned (.tuple #[.int .i32 ((Lib.decodeL s.data.toList).1 : Int), .int .i64 ((Lib.decodeL s.data.toList).2 : Int)]) ∧ Q w w') := by
    have := Tryz.utf8_DecodeRuneInString s w f.tabs
    rw [decode_go s h1] at this
    exact this
  have hle := Lib.decodeL_rune s.data.toList
  have hz : (0 : Int) < (s.size : Int) := by omega
  unfold item
  rw [bt_get s 0 h1]
  by_cases c : s[0].toNat = 92
  · rw [if_pos c]
    have g : (s[0].toNat : Int) = 92 := by omega
    clear hs f cD c hle
    generalize esc s.data.toList = R at *
    go_enter Tryz.func125, Tryz.ntmps125
    go_wp2_with fail
    refine (cE.out _).mono ?_; rintro e w' ⟨rfl, rfl⟩
    go_wp2_with fail
    go_ret3
    exact ⟨rfl, Q.refl _⟩
  · rw [if_neg c]
    have g : ¬ (s[0].toNat : Int) = 92 := by omega
    clear hs f cE c
    obtain ⟨r, hr⟩ : ∃ r, (Lib.decodeL s.data.toList).1 = r := ⟨_, rfl⟩
    obtain ⟨k, hk⟩ : ∃ k, (Lib.decodeL s.data.toList).2 = k := ⟨_, rfl⟩
    have hwr : wrong s.data.toList ↔ r = 65533 ∧ k = 1 := by unfold wrong; rw [hr, hk]
    rw [hr] at hle
    rw [hr, hk] at cD
    by_cases hc : ctl r
    · rw [if_pos (.inl (by rw [hr]; exact hc))]
      clear hr hk hwr
      have hc' := Lib.hid hc
      clear hc
      go_enter Tryz.func125, Tryz.ntmps125
      go_wp2_with fail
      refine cD.out.mono ?_; rintro e w1 ⟨rfl, q1⟩
      go_wp2_with fail
      refine (control_yes _ _ (by omega) (by omega) (by have := hc'.out; unfold ctl at this; omega)).mono ?_; rintro e w' ⟨rfl, rfl⟩
      go_wp2_with fail
      go_ret3
      exact ⟨rfl, q1⟩
    · have hc' : Hid (32 ≤ (r : Int) ∧ ¬ (r : Int) = 127) := by unfold ctl at hc; exact ⟨by omega, by omega⟩
      by_cases hw : r = 65533 ∧ k = 1
      · rw [if_pos (.inr (hwr.2 hw))]
        clear hr hk hwr
        obtain ⟨rfl, rfl⟩ := hw
        clear hc
        go_enter Tryz.func125, Tryz.ntmps125
        go_wp2_with fail
        refine cD.out.mono ?_; rintro e w1 ⟨rfl, q1⟩
        go_wp2_with fail
        refine (control_no _ _ (by omega) (by omega) (by omega)).mono ?_; rintro e w' ⟨rfl, rfl⟩
        go_wp2_with fail
        go_ret3
        exact ⟨rfl, q1⟩
      · rw [if_neg (fun h => h.elim (fun h => hc (by rw [← hr]; exact h)) (fun h => hw (hwr.1 h))), hr, hk]
        clear hc hr hk hwr
        by_cases hr : r = 65533
        · have hk : ¬ (k : Int) = 1 := by omega
          subst hr
          clear hw
          go_enter Tryz.func125, Tryz.ntmps125
          go_wp2_with fail
          refine cD.out.mono ?_; rintro e w1 ⟨rfl, q1⟩
          go_wp2_with fail
          refine (control_no _ _ (by omega) (by omega) (by omega)).mono ?_; rintro e w' ⟨rfl, rfl⟩
          go_wp2_with fail
          go_ret3
          exact ⟨rfl, q1⟩
        · have hr' : ¬ (r : Int) = 65533 := by omega
          clear hw
          go_enter Tryz.func125, Tryz.ntmps125
          go_wp2_with fail
          refine cD.out.mono ?_; rintro e w1 ⟨rfl, q1⟩
          go_wp2_with fail
          refine (control_no _ _ hc'.out.1 (by omega) hc'.out.2).mono ?_; rintro e w' ⟨rfl, rfl⟩
          go_wp2_with fail
          go_ret3
          exact ⟨rfl, q1⟩

end Go.Proofs.YthekabflbpfjoaaGreatDoor.lit

namespace Go.Proofs.YthekabflbpfjoaaGreatDoor.lit
open Go.RowKit

theorem num_rune (l : List UInt8) (h : (num l).e = 0) : 0 ≤ (num l).r ∧ (num l).r ≤ 1114111 := by
  revert h
  unfold num
  split
  · intro h; cases h
  split
  · intro h; cases h
  unfold numAt
  split
  · intro h; cases h
  split
  · intro h; cases h
  rename_i h5
  intro _
  have hv : Lib.validRune (hval ((l.drop 3).take (digs 6 (l.drop 3)))) = true := by
    cases hx : Lib.validRune (hval ((l.drop 3).take (digs 6 (l.drop 3)))) with
    | true => rfl
    | false => exact absurd (.inr (.inr (.inr hx))) h5
  unfold Lib.validRune at hv
  rw [decide_eq_true_eq] at hv
  simp only
  omega
theorem esc_rune (l : List UInt8) (h : (esc l).e = 0) : 0 ≤ (esc l).r ∧ (esc l).r ≤ 1114111 := by
  have hb : bt l 1 < 256 := UInt8.toNat_lt _
  revert h
  unfold esc
  split
  · intro h; cases h
  repeat' split
  all_goals first
    | (intro _; simp only; omega)
    | (intro h; exact num_rune l h)
    | (intro h; cases h)
theorem item_rune (l : List UInt8) (h : (item l).e = 0) : 0 ≤ (item l).r ∧ (item l).r ≤ 1114111 := by
  have hr := Lib.decodeL_rune l
  revert h
  unfold item
  split
  · intro h; exact esc_rune l h
  split
  · intro h; cases h
  · intro _; simp only; omega
theorem encode_len (r : Int) : (Lib.encodeRune r).length ≤ 4 := by
  have := Lib.encodeRuneZ_length r
  unfold Lib.encodeRune
  rw [List.length_map]
  exact this.2

/-- utf8.AppendRune onto a row. -/
theorem rune_row (B : Nat) (v : Value) (l : List UInt8) (r : Int) (h0 : 0 ≤ r) (h1 : r ≤ 1114111) (w : World) (hown : Row B v l w) (hlim : l.length + 4 ≤ 140737488355328) (hB : B ≤ w.heap.size) :
    Calls Tryz.prog 126 #[v, .int .i32 r] w fun e w' => ∃ v', e = .returned v' ∧ Row B v' (l ++ Lib.encodeRune r) w' ∧ Below B w w' := by
  refine (Tryz.utf8_AppendRune_plain B v l.length (Lib.byteCells l) r (by omega) (by omega) w hown hlim hB).mono ?_
  rintro e w' ⟨v', rfl, hr, o, hg⟩
  refine ⟨v', rfl, ?_, ((Below.refl B w).alloc hB o).grown hg (by simp; omega) (fun k hk => (hown.lt k hk).1)⟩
  unfold Row
  rw [List.length_append, byteCells_app, Lib.byteCells_encodeRune, ← Lib.runeCells_length]
  exact hr

theorem drop_bt (s : ByteArray) (k j : Nat) : bt (s.data.toList.drop k) j = bt s.data.toList (k + j) := by
  unfold bt
  simp [List.getD, List.getElem?_drop]

set_option maxRecDepth 100000 in
set_option maxHeartbeats 4000000 in
theorem unquote_main (s : ByteArray) (w : World) (f : Fx w) (hs : s.size ≤ 1000000) (h1 : 1 ≤ s.size) (h0 : (s[0].toNat : Int) = 34) :
    Calls Tryz.prog 113 #[.string s] w fun e w' => e = .returned (.tuple #[.string ⟨(unqGo (s.data.toList.drop 1) 1 []).1.toArray⟩, .int .i64 (unqGo (s.data.toList.drop 1) 1 []).2.1, .int .i64 (unqGo (s.data.toList.drop 1) 1 []).2.2]) ∧ Q w w' := by
  have hz : (0 : Int) < (s.size : Int) := by omega
  have hne : s.toList.isEmpty = false := by
    rw [Lib.toList_data]
    cases h : s.data.toList with
    | nil => exact absurd (by rw [Lib.size_eq, h]; rfl) (show ¬ s.size = 0 by omega)
    | cons _ _ => rfl
  have hlen : s.data.toList.length = s.size := by simp
  have F := Lib.hid f
  have ho := Lib.hid f.old
  clear f
  obtain ⟨ANS, hANS⟩ : ∃ ANS, unqGo (s.data.toList.drop 1) 1 [] = ANS := ⟨_, rfl⟩
  rw [hANS]
  have H0 := Lib.hid hANS
  clear hANS
  go_enter Tryz.func113, Tryz.ntmps113
  go_wp2_with fail
  go_loopw [5, 6] (fun v i wr => ∃ (k : Nat) (acc : List UInt8), k ≤ s.size ∧ 1 ≤ k ∧ i = .int .i64 k ∧ acc.length ≤ 4 * k ∧ Hid (Row w.heap.size v acc wr) ∧ Hid (Below w.heap.size w wr) ∧ Hid (unqGo (s.data.toList.drop k) k acc = ANS)) (fun _ i _ => s.size - (intOf i).toNat)
  case atStart => exact ⟨1, [], h1, Nat.le_refl _, rfl, by simp, Lib.hid (Row.nil _ _), Lib.hid (Below.refl _ _), H0⟩
  case round =>
    obtain ⟨k, acc, hk, hk1, rfl, hal, hr, hb, hgo⟩ := hrel
    have hsz := Lib.hid hb.out.size
    obtain ⟨av, cv, rfl⟩ := hr.out.shape
    by_cases hlt : k < s.size
    · have hltz : (k : Int) < (s.size : Int) := by omega
      have hdne : s.data.toList.drop k ≠ [] := by
        intro h
        have := congrArg List.length h
        rw [List.length_drop, hlen, List.length_nil] at this
        omega
      have hbk : bt (s.data.toList.drop k) 0 = s[k].toNat := by rw [drop_bt, Nat.add_zero, bt_get s k hlt]
      by_cases hq : s[k].toNat = 34
      · have hqz : ((s[k].toNat : Int) != 34) = false := by rw [show (s[k].toNat : Int) = 34 by omega]; rfl
        have e := unqGo_quote (s.data.toList.drop k) k acc hdne (by rw [hbk]; exact hq)
        have e2 := e.symm.trans hgo.out
        have hkn : ¬ (k : Int) = (s.size : Int) := by omega
        by_cases hl : 4096 < acc.length
        · rw [if_pos hl] at e2
          subst e2
          have hlz : (4096 : Int) < (acc.length : Int) := by omega
          clear e hq hbk hdne hgo H0
          go_wp2_with fail
          go_ret3
          exact ⟨rfl, hb.out⟩
        · rw [if_neg hl] at e2
          subst e2
          have hlz : ¬ (4096 : Int) < (acc.length : Int) := by omega
          have ht := hr.out.text
          clear e hq hbk hdne hgo H0
          go_wp2_with fail
          go_ret3
          exact ⟨rfl, hb.out⟩
      · have hqz : ((s[k].toNat : Int) != 34) = true := by rw [bne_iff_ne]; omega
        have hnq : ¬ bt (s.data.toList.drop k) 0 = 34 := by rw [hbk]; exact hq
        have cI : Hid (∀ w, Fx w → Calls Tryz.prog 125 #[.string (s.extract k s.size)] w fun e w' => e = .returned (.tuple #[.int .i32 (item (s.data.toList.drop k)).r, .int .i64 (item (s.data.toList.drop k)).k, .int .i64 (item (s.data.toList.drop k)).e]) ∧ Q w w') := by
          intro w f
          have := item_any (s.extract k s.size) w f (by rw [Lib.ext_size]; omega) (by rw [Lib.ext_size]; omega)
          rw [Lib.ext_list] at this
          exact this
        have hsize := item_size (s.data.toList.drop k) hdne
        have hrune := item_rune (s.data.toList.drop k)
        have hbad := unqGo_bad (s.data.toList.drop k) k acc hdne hnq
        have hstep := unqGo_step (s.data.toList.drop k) k acc hdne hnq
        rw [List.length_drop, hlen] at hsize
        obtain ⟨r0, hr0⟩ : ∃ r, (item (s.data.toList.drop k)).r = r := ⟨_, rfl⟩
        obtain ⟨k0, hk0⟩ : ∃ r, (item (s.data.toList.drop k)).k = r := ⟨_, rfl⟩
        obtain ⟨e0, he0⟩ : ∃ r, (item (s.data.toList.drop k)).e = r := ⟨_, rfl⟩
        rw [he0, hk0] at hsize
        rw [he0, hr0] at hrune
        rw [he0] at hbad
        rw [he0, hk0, hr0] at hstep
        rw [hr0, hk0, he0] at cI
        by_cases hee : e0 = 0
        · subst hee
          have hsize2 := hsize rfl
          have hrune2 := hrune rfl
          have hstep2 := Lib.hid (hstep rfl)
          clear hsize hrune hstep
          have hrl := encode_len r0
          obtain ⟨n0, rfl⟩ : ∃ n : Nat, k0 = n := ⟨k0.toNat, by omega⟩
          clear hbad hr0 hk0 he0 hbk hq hnq hdne
          go_wp2_with fail
          refine (cI.out _ (Q.fx hb.out F.out)).mono ?_
          rintro e w2 ⟨rfl, q2⟩
          have hr2 := hr.out.stays q2
          have R2 := Lib.hid hr2
          have B2 := Lib.hid (hb.out.trans (Below.mono q2 hsz.out))
          clear cI
          generalize s.extract k s.size = D at *
          go_wp2_with fail
          refine (rune_row w.heap.size _ acc r0 hrune2.1 hrune2.2 w2 R2.out (by omega) B2.out.size).mono ?_
          rintro e w3 ⟨v3, rfl, hr3, hb3⟩
          have R3 := Lib.hid hr3
          have B3 := Lib.hid (B2.out.trans hb3)
          clear hr3 hb3 hr2
          go_wp2_with fail
          go_roundw
          case rel =>
            refine ⟨k + n0, acc ++ Lib.encodeRune r0, by omega, by omega, by go_num, by rw [List.length_append]; omega, R3, B3, ?_⟩
            have := hstep2.out.symm.trans hgo.out
            rw [Int.toNat_natCast, List.drop_drop] at this
            exact this
          case measure => simp [intOf]; omega
        · have e2 := (hbad hee).symm.trans hgo.out
          subst e2
          clear hstep hrune hsize hbad hr0 hk0 he0 hbk hq hnq hdne H0 hgo
          go_wp2_with fail
          refine (cI.out _ (Q.fx hb.out F.out)).mono ?_
          rintro e w2 ⟨rfl, q2⟩
          have B2 := Lib.hid (hb.out.trans (Below.mono q2 hsz.out))
          clear cI
          generalize s.extract k s.size = D at *
          go_wp2_with fail
          go_ret3
          exact ⟨rfl, B2.out⟩
    · obtain rfl : s.size = k := by omega
      have hnl : s.data.toList.drop s.size = [] := List.drop_of_length_le (by omega)
      have e : unqGo (s.data.toList.drop s.size) s.size acc = ([], 0, 40) := by rw [hnl]; exact unqGo_nil s.size acc
      have e2 := e.symm.trans hgo.out
      subst e2
      clear e hnl hgo H0
      go_wp2_with fail
      go_ret3
      exact ⟨rfl, hb.out⟩
/-- What Unquote returns, for any text. -/
theorem unquote_any (s : ByteArray) (w : World) (f : Fx w) (hs : s.size ≤ 1000000) :
    Calls Tryz.prog 113 #[.string s] w fun e w' => e = .returned (.tuple #[.string ⟨(unq s.data.toList).1.toArray⟩, .int .i64 (unq s.data.toList).2.1, .int .i64 (unq s.data.toList).2.2]) ∧ Q w w' := by
  unfold unq
  by_cases h : s.data.toList = []
  · rw [if_pos h]
    have hne : s.toList.isEmpty = true := by rw [Lib.toList_data, h]; rfl
    clear f
    go_enter Tryz.func113, Tryz.ntmps113
    go_wp2_with fail
    go_ret3
    exact ⟨rfl, Q.refl _⟩
  · rw [if_neg h]
    have h1 : 0 < s.size := by
      rw [Lib.size_eq]
      exact List.length_pos_iff.2 h
    rw [bt_get s 0 h1]
    by_cases h0 : s[0].toNat = 34
    · rw [if_neg (fun x => x h0)]
      exact unquote_main s w f hs h1 (by omega)
    · rw [if_pos h0]
      have hne : s.toList.isEmpty = false := by
        rw [Lib.toList_data]
        cases h' : s.data.toList with
        | nil => exact absurd h' h
        | cons _ _ => rfl
      have hz : (0 : Int) < (s.size : Int) := by omega
      have g : ((s[0].toNat : Int) != 34) = true := by rw [bne_iff_ne]; omega
      clear f h
      go_enter Tryz.func113, Tryz.ntmps113
      go_wp2_with fail
      go_ret3
      exact ⟨rfl, Q.refl _⟩

end Go.Proofs.YthekabflbpfjoaaGreatDoor.lit

namespace Go.Proofs.YthekabflbpfjoaaGreatDoor.lit
open Go.RowKit Go.Shelf

def renValid : Go.Shelf.Ren := ⟨fun | 196 => 80 | 259 => 95 | n => n, fun | 12 => 12 | 46 => 110 | 53 => 118 | 119 => 112 | 138 => 114 | 139 => 115 | n => n, fun | 3 => 1 | 4 => 2 | n => n⟩
theorem laysValid : Go.Proofs.Lays.n196 Tryz.prog renValid := {
  mixed := by kernel_rfl
  f196 := Tryz.func80.trans (congrArg some (by kernel_rfl))
  f259 := Tryz.func95.trans (congrArg some (by kernel_rfl))
  t0 := Tryz.underlying0
  a0 := Tryz.isAgg0
  z0 := Tryz.sizeOf0
  v0 := Tryz.zeroValue0
  t3 := Tryz.underlying3
  a3 := Tryz.isAgg3
  z3 := Tryz.sizeOf3
  v3 := Tryz.zeroValue3
  t4 := Tryz.underlying4
  a4 := Tryz.isAgg4
  z4 := Tryz.sizeOf4
  v4 := Tryz.zeroValue4
  t5 := Tryz.underlying5
  a5 := Tryz.isAgg5
  z5 := Tryz.sizeOf5
  v5 := Tryz.zeroValue5
  t9 := Tryz.underlying9
  a9 := Tryz.isAgg9
  z9 := Tryz.sizeOf9
  v9 := Tryz.zeroValue9
  t12 := Tryz.underlying12
  a12 := Tryz.isAgg12
  z12 := Tryz.sizeOf12
  v12 := Tryz.zeroValue12
  t46 := Tryz.underlying110
  a46 := Tryz.isAgg110
  z46 := Tryz.sizeOf110
  v46 := Tryz.zeroValue110
  t53 := Tryz.underlying118
  a53 := Tryz.isAgg118
  z53 := Tryz.sizeOf118
  v53 := Tryz.zeroValue118
  t119 := Tryz.underlying112
  a119 := Tryz.isAgg112
  z119 := Tryz.sizeOf112
  t138 := Tryz.underlying114
  a138 := Tryz.isAgg114
  z138 := Tryz.sizeOf114
  v138 := Tryz.zeroValue114
  t139 := Tryz.underlying115
  a139 := Tryz.isAgg115
  z139 := Tryz.sizeOf115
  v139 := Tryz.zeroValue115
  g3 := by kernel_rfl
  g4 := by kernel_rfl }
theorem valid_text (s : ByteArray) (w : World) (hs : s.size ≤ 9223372036854775807) (hT : Lib.Utf8Tabs 1 2 w) :
    Calls Tryz.prog 80 #[.string s] w fun e w' => e = .returned (.bool (Lib.validD s.data.toList)) ∧ Below w.heap.size w w' := Any.utf8_ValidString laysValid s w hs hT

end Go.Proofs.YthekabflbpfjoaaGreatDoor.lit

namespace Go.Proofs.YthekabflbpfjoaaGreatDoor.lit
open Go.RowKit

/-- Whether a string is valid. -/
def okL (l : List UInt8) : Bool := decide (l.length ≤ 4096) && Lib.validD l
theorem okL_iff (l : List UInt8) : okL l = true ↔ l.length ≤ 4096 ∧ Lib.validD l = true := by simp [okL]

set_option maxHeartbeats 1000000 in
theorem valid_any (s : ByteArray) (w : World) (f : Fx w) (hs : s.size ≤ 1000000) :
    Calls Tryz.prog 61 #[.string s] w fun e w' => e = .returned (.bool (okL s.data.toList)) ∧ Q w w' := by
  have cV := Lib.hid (valid_text s w (by omega) f.tabs)
  unfold okL
  rw [show s.data.toList.length = s.size by simp]
  generalize Lib.validD s.data.toList = V at *
  clear f
  by_cases h : s.size ≤ 4096
  · rw [decide_eq_true h, Bool.true_and]
    have hz : (s.size : Int) ≤ 4096 := by omega
    go_enter Tryz.func61, Tryz.ntmps61
    go_wp2_with fail
    refine cV.out.mono ?_; rintro e w1 ⟨rfl, q1⟩
    go_wp2_with fail
    go_ret
    exact ⟨rfl, q1⟩
  · rw [decide_eq_false h, Bool.false_and]
    have hz : ¬ (s.size : Int) ≤ 4096 := by omega
    go_enter Tryz.func61, Tryz.ntmps61
    go_wp2_with fail
    go_ret
    exact ⟨rfl, Q.refl _⟩

end Go.Proofs.YthekabflbpfjoaaGreatDoor.lit
