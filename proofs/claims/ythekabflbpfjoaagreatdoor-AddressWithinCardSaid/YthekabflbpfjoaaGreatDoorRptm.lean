/- The reference's escapes with numbers: what hex and point return. -/
import Derived.Test.YthekabflbpfjoaaGreatDoorRqtm
namespace Go.Proofs.YthekabflbpfjoaaGreatDoor.lit
open Go.RowKit

theorem hex_yes (c : UInt8) (w : World) (h : isHex c = true) :
    Calls Tryz.prog 137 #[.int .u8 (c.toNat : Int)] w fun e w' => e = .returned (.int .i64 (hexVal c : Int)) ∧ w = w' := by
  have h' := (isHex_iff c).1 h
  clear h
  unfold hexVal
  by_cases h1 : (c.toNat : Int) ≤ 57
  · have h0 : 48 ≤ (c.toNat : Int) := by omega
    have e : ((if c.toNat ≤ 57 then c.toNat - 48 else c.toNat - 87 : Nat) : Int) = (c.toNat : Int) - 48 := by split <;> omega
    rw [e]
    clear h' e
    go_enter Tryz.func137, Tryz.ntmps137
    go_wp2_with fail
    go_ret
    exact ⟨rfl, rfl⟩
  · have h0 : 48 ≤ (c.toNat : Int) := by omega
    have h2 : 97 ≤ (c.toNat : Int) := by omega
    have h3 : (c.toNat : Int) ≤ 102 := by omega
    have e : ((if c.toNat ≤ 57 then c.toNat - 48 else c.toNat - 87 : Nat) : Int) = (c.toNat : Int) - 97 + 10 := by split <;> omega
    rw [e]
    clear h' e
    go_enter Tryz.func137, Tryz.ntmps137
    go_wp2_with fail
    go_ret
    exact ⟨rfl, rfl⟩
theorem hex_no (c : UInt8) (w : World) (h : isHex c = false) :
    Calls Tryz.prog 137 #[.int .u8 (c.toNat : Int)] w fun e w' => e = .returned (.int .i64 (-1)) ∧ w = w' := by
  have h' : ¬ ((48 ≤ c.toNat ∧ c.toNat ≤ 57) ∨ (97 ≤ c.toNat ∧ c.toNat ≤ 102)) := fun x => by rw [(isHex_iff c).2 x] at h; cases h
  clear h
  by_cases h0 : 48 ≤ (c.toNat : Int)
  · have h1 : ¬ (c.toNat : Int) ≤ 57 := by omega
    by_cases h2 : 97 ≤ (c.toNat : Int)
    · have h3 : ¬ (c.toNat : Int) ≤ 102 := by omega
      clear h'
      go_enter Tryz.func137, Tryz.ntmps137
      go_wp2_with fail
      go_ret
      exact ⟨rfl, rfl⟩
    · clear h'
      go_enter Tryz.func137, Tryz.ntmps137
      go_wp2_with fail
      go_ret
      exact ⟨rfl, rfl⟩
  · have h2 : ¬ 97 ≤ (c.toNat : Int) := by omega
    clear h'
    go_enter Tryz.func137, Tryz.ntmps137
    go_wp2_with fail
    go_ret
    exact ⟨rfl, rfl⟩

/-- What point returns: the number, the place behind the brace, the error. -/
def ptAt (l : List UInt8) (i d : Nat) : It :=
  if l.length = i + d then ⟨0, 0, 40⟩
  else if ¬ bt l (i + d) = 125 ∨ d = 0 ∨ (1 < d ∧ bt l i = 48) ∨ Lib.validRune (hval ((l.drop i).take d)) = false then ⟨0, 0, 2⟩
  else ⟨hval ((l.drop i).take d), (i : Int) + (d : Int) + 1, 0⟩

theorem hex_at (s : ByteArray) (i j : Nat) (h : j < digs 6 (s.data.toList.drop i)) : j < 6 ∧ i + j < s.size ∧ ∀ hh : i + j < s.size, isHex s[i + j] = true := by
  have hd := digs_le 6 (s.data.toList.drop i)
  rw [List.length_drop, show s.data.toList.length = s.size by simp] at hd
  refine ⟨by omega, by omega, fun hh => ?_⟩
  have := digs_hex 6 _ j h
  have hk : i + j < s.data.toList.length := by simpa using hh
  rw [List.getD, List.getElem?_drop, List.getElem?_eq_getElem hk] at this
  exact this
theorem hex_end (s : ByteArray) (i : Nat) (hl : i ≤ s.size) : digs 6 (s.data.toList.drop i) = 6 ∨ i + digs 6 (s.data.toList.drop i) = s.size ∨ (i + digs 6 (s.data.toList.drop i) < s.size ∧ ∀ hh : i + digs 6 (s.data.toList.drop i) < s.size, isHex s[i + digs 6 (s.data.toList.drop i)] = false) := by
  have hd := digs_le 6 (s.data.toList.drop i)
  have hlen : (s.data.toList.drop i).length = s.size - i := by rw [List.length_drop]; simp
  rw [hlen] at hd
  rcases digs_stop 6 (s.data.toList.drop i) with h | h | h
  · exact .inl h
  · right; left; omega
  · by_cases he : i + digs 6 (s.data.toList.drop i) = s.size
    · exact .inr (.inl he)
    · refine .inr (.inr ⟨by omega, fun hh => ?_⟩)
      have hk : i + digs 6 (s.data.toList.drop i) < s.data.toList.length := by simpa using hh
      rw [List.getD, List.getElem?_drop, List.getElem?_eq_getElem hk] at h
      exact h
/-- The value of the first j digits behind place i. -/
def dw (s : ByteArray) (i j : Nat) : Nat := hval ((s.data.toList.drop i).take j)
theorem dw_zero (s : ByteArray) (i : Nat) : dw s i 0 = 0 := rfl
theorem dw_step (s : ByteArray) (i j : Nat) (h : i + j < s.size) : dw s i (j + 1) = 16 * dw s i j + hexVal s[i + j] := by
  have hk : j < (s.data.toList.drop i).length := by rw [List.length_drop]; simp; omega
  unfold dw
  rw [hval_take _ j hk, List.getElem_drop]
  rfl
theorem dw_bound (s : ByteArray) (i j : Nat) (h : j ≤ digs 6 (s.data.toList.drop i)) : dw s i j < 16777216 := by
  have h1 := hval_bound (s.data.toList.drop i) j h
  have h2 := (digs_le 6 (s.data.toList.drop i)).1
  have h3 : 16 ^ j ≤ 16 ^ 6 := Nat.pow_le_pow_right (by decide) (by omega)
  unfold dw
  omega
theorem rune_iff (v : Nat) : Lib.validRune (v : Int) = true ↔ v < 55296 ∨ (57343 < v ∧ v ≤ 1114111) := by
  unfold Lib.validRune
  rw [decide_eq_true_eq]
  omega
theorem rune_no (v : Nat) (h : ¬ (v < 55296 ∨ (57343 < v ∧ v ≤ 1114111))) : Lib.validRune (v : Int) = false := by
  cases hx : Lib.validRune (v : Int) with
  | false => rfl
  | true => exact absurd ((rune_iff v).1 hx) h

set_option maxRecDepth 100000 in
set_option maxHeartbeats 8000000 in
theorem point_main (s : ByteArray) (i : Nat) (w : World) (hs : s.size ≤ 1000000) (hi : i ≤ s.size) :
    Calls Tryz.prog 128 #[.string s, .int .i64 (i : Int)] w fun e w' => e = .returned (.tuple #[.int .i64 (ptAt s.data.toList i (digs 6 (s.data.toList.drop i))).r, .int .i64 (ptAt s.data.toList i (digs 6 (s.data.toList.drop i))).k, .int .i64 (ptAt s.data.toList i (digs 6 (s.data.toList.drop i))).e]) ∧ w = w' := by
  have hat := Lib.hid (hex_at s i)
  have hend := Lib.hid (hex_end s i hi)
  have hbound := Lib.hid (dw_bound s i)
  obtain ⟨R, hR⟩ : ∃ R, ptAt s.data.toList i (digs 6 (s.data.toList.drop i)) = R := ⟨_, rfl⟩
  have HR : Hid (ptAt s.data.toList i (digs 6 (s.data.toList.drop i)) = R) := Lib.hid hR
  have hd6 := (digs_le 6 (s.data.toList.drop i)).1
  have hdl : i + digs 6 (s.data.toList.drop i) ≤ s.size := by
    have := (digs_le 6 (s.data.toList.drop i)).2
    rw [List.length_drop, show s.data.toList.length = s.size by simp] at this
    omega
  rw [hR]
  clear hR
  have hz0 := dw_zero s i
  have hst := Lib.hid (dw_step s i)
  obtain ⟨V, hV⟩ : ∃ V, dw s i = V := ⟨_, rfl⟩
  have HW : Hid (∀ n, hval ((s.data.toList.drop i).take n) = V n) := by intro n; rw [← hV]; rfl
  rw [hV] at hz0 hst hbound
  clear hV
  generalize digs 6 (s.data.toList.drop i) = d at *
  go_enter Tryz.func128, Tryz.ntmps128
  go_wp2_with fail
  go_loop [7, 8] (fun r n => ∃ j : Nat, j ≤ d ∧ n = .int .i64 (j : Int) ∧ r = .int .i64 (V j)) (fun _ n => d - (intOf n).toNat)
  case atStart => exact ⟨0, Nat.zero_le _, rfl, by rw [hz0]; rfl⟩
  case round =>
    obtain ⟨j, hj, rfl, rfl⟩ := hrel
    by_cases hlt : j < d
    · obtain ⟨a1, a2, a3⟩ := hat.out j hlt
      have a4 := a3 a2
      have st := Lib.hid (hst.out j a2)
      have bd := Lib.hid (hbound.out (j + 1) hlt)
      have b1 : (j : Int) < 6 := by omega
      have b2 : (i : Int) + (j : Int) < (s.size : Int) := by omega
      have n1 : 16 * (V j : Int) + (hexVal s[i + j] : Int) ≤ 16777215 := by have := st.out; have := bd.out; omega
      have n2 : 16 * (V j : Int) ≤ 16777215 := by omega
      clear hend HR HW
      go_wp2_with fail
      refine (hex_yes _ _ a4).mono ?_; rintro e w' ⟨rfl, rfl⟩
      go_wp2_with fail
      refine (hex_yes _ _ a4).mono ?_; rintro e w' ⟨rfl, rfl⟩
      go_wp2_with fail
      go_round
      case rel => exact ⟨j + 1, by omega, by go_num, by rw [st.out]; congr 1⟩
      case measure => simp [intOf]; omega
    · obtain rfl : d = j := by omega
      clear hlt hat
      have hv := Lib.hid (hbound.out d (Nat.le_refl _))
      by_cases hsz : i + d = s.size
      · have hnl : ¬ (i : Int) + (d : Int) < (s.size : Int) := by omega
        have hnl2 : (s.size : Int) ≤ (i : Int) + (d : Int) := by omega
        have e : R = ⟨0, 0, 40⟩ := by
          rw [← HR.out]; unfold ptAt; rw [if_pos (by simp; omega)]
        subst e
        clear HR hend hbound hv HW hst
        go_wp2_with fail
        go_ret3
        exact ⟨rfl, rfl⟩
      · have hin : i + d < s.size := by omega
        have hinz : (i : Int) + (d : Int) < (s.size : Int) := by omega
        have hinz2 : ¬ (s.size : Int) ≤ (i : Int) + (d : Int) := by omega
        have hiz : (i : Int) < (s.size : Int) := by omega
        have hi2 : i < s.size := by omega
        by_cases h6 : d = 6
        · subst h6
          clear hend hsz hdl
          by_cases hq : s[i + 6].toNat = 125
          · have hqz : ((s[i + 6].toNat : Int) != 125) = false := by rw [hq]; rfl
            by_cases hz : s[i].toNat = 48
            · have hzz : ((s[i].toNat : Int) == 48) = true := by rw [hz]; rfl
              have e : R = ⟨0, 0, 2⟩ := by
                rw [← HR.out]; unfold ptAt; rw [HW.out]
                rw [if_neg (by simp; omega), if_pos (.inr (.inr (.inl ⟨by omega, by rw [bt_get s i hi2]; exact hz⟩)))]
              subst e
              clear HR hbound HW hst
              try clear hq
              go_wp2_with fail
              go_ret3
              exact ⟨rfl, rfl⟩
            · have hzz : ((s[i].toNat : Int) == 48) = false := beq_eq_false_iff_ne.2 (by omega)
              by_cases v1 : (1114111 : Int) < (V 6 : Int)
              · have e : R = ⟨0, 0, 2⟩ := by
                  rw [← HR.out]; unfold ptAt; rw [HW.out]
                  rw [if_neg (by simp; omega), if_pos (.inr (.inr (.inr (rune_no _ (by omega)))))]
                subst e
                clear HR hbound HW hst
                try clear hq
                go_wp2_with fail
                go_ret3
                exact ⟨rfl, rfl⟩
              · by_cases v2 : (55296 : Int) ≤ (V 6 : Int)
                · by_cases v3 : (V 6 : Int) ≤ 57343
                  · have e : R = ⟨0, 0, 2⟩ := by
                      rw [← HR.out]; unfold ptAt; rw [HW.out]
                      rw [if_neg (by simp; omega), if_pos (.inr (.inr (.inr (rune_no _ (by omega)))))]
                    subst e
                    clear HR hbound HW hst
                    try clear hq
                    go_wp2_with fail
                    go_ret3
                    exact ⟨rfl, rfl⟩
                  · have e : R = ⟨(V 6 : Int), (i : Int) + ((6 : Nat) : Int) + 1, 0⟩ := by
                      rw [← HR.out]; unfold ptAt; rw [HW.out]
                      rw [if_neg (by simp; omega), if_neg (by rw [bt_get s (i + 6) hin, bt_get s i hi2]; rintro (h | h | h | h) <;> first | omega | exact absurd (((rune_iff _).2 (by omega)).symm.trans h) (by decide))]
                    subst e
                    clear HR hbound HW hst
                    try clear hq
                    go_wp2_with fail
                    go_ret3
                    exact ⟨rfl, rfl⟩
                · have e : R = ⟨(V 6 : Int), (i : Int) + ((6 : Nat) : Int) + 1, 0⟩ := by
                    rw [← HR.out]; unfold ptAt; rw [HW.out]
                    rw [if_neg (by simp; omega), if_neg (by rw [bt_get s (i + 6) hin, bt_get s i hi2]; rintro (h | h | h | h) <;> first | omega | exact absurd (((rune_iff _).2 (by omega)).symm.trans h) (by decide))]
                  subst e
                  clear HR hbound HW hst
                  try clear hq
                  have x1 : decide ((1114111 : Int) < (V 6 : Int)) = false := decide_eq_false v1
                  have x2 : decide ((55296 : Int) ≤ (V 6 : Int)) = false := decide_eq_false v2
                  clear v1 v2
                  go_wp2_with fail
                  go_ret3
                  exact ⟨rfl, rfl⟩
          · have hqz : ((s[i + 6].toNat : Int) != 125) = true := by rw [bne_iff_ne]; omega
            have e : R = ⟨0, 0, 2⟩ := by
              rw [← HR.out]; unfold ptAt; rw [HW.out]
              rw [if_neg (by simp; omega), if_pos (.inl (by rw [bt_get s (i + 6) hin]; exact hq))]
            subst e
            clear HR hbound HW hst
            try clear hq
            go_wp2_with fail
            go_ret3
            exact ⟨rfl, rfl⟩
        · have h9 : (d : Int) < 6 := by omega
          have hx : isHex s[i + d] = false := by
            rcases hend.out with h | h | h
            · exact absurd h h6
            · exact absurd h hsz
            · exact h.2 hin
          clear hend
          by_cases h0 : d = 0
          · subst h0
            have hin : i < s.size := hin
            have hx : isHex s[i] = false := hx
            have e : R = ⟨0, 0, 2⟩ := by
              rw [← HR.out]; unfold ptAt; rw [HW.out]
              rw [if_neg (by simp; omega), if_pos (.inr (.inl rfl))]
            subst e
            clear HR hbound hsz hdl h9 HW hst
            go_wp2_with fail
            refine (hex_no _ _ hx).mono ?_; rintro e w' ⟨rfl, rfl⟩
            clear hx
            go_wp2_with fail
            go_ret3
            exact ⟨rfl, rfl⟩
          · have h0' : ¬ (d : Int) = 0 := by omega
            have h03 : ((d : Int) == 0) = false := beq_eq_false_iff_ne.2 (by omega)
            go_wp2_with fail
            refine (hex_no _ _ hx).mono ?_; rintro e w' ⟨rfl, rfl⟩
            clear hx
            by_cases z1 : (1 : Int) < (d : Int)
            · by_cases hq : s[i + d].toNat = 125
              · have hqz : ((s[i + d].toNat : Int) != 125) = false := by rw [hq]; rfl
                by_cases hz : s[i].toNat = 48
                · have hzz : ((s[i].toNat : Int) == 48) = true := by rw [hz]; rfl
                  have e : R = ⟨0, 0, 2⟩ := by
                    rw [← HR.out]; unfold ptAt; rw [HW.out]
                    rw [if_neg (by simp; omega), if_pos (.inr (.inr (.inl ⟨by omega, by rw [bt_get s i hi2]; exact hz⟩)))]
                  subst e
                  clear HR hbound HW hst
                  try clear hq
                  go_wp2_with fail
                  go_ret3
                  exact ⟨rfl, rfl⟩
                · have hzz : ((s[i].toNat : Int) == 48) = false := beq_eq_false_iff_ne.2 (by omega)
                  by_cases v1 : (1114111 : Int) < (V d : Int)
                  · have e : R = ⟨0, 0, 2⟩ := by
                      rw [← HR.out]; unfold ptAt; rw [HW.out]
                      rw [if_neg (by simp; omega), if_pos (.inr (.inr (.inr (rune_no _ (by omega)))))]
                    subst e
                    clear HR hbound HW hst
                    try clear hq
                    go_wp2_with fail
                    go_ret3
                    exact ⟨rfl, rfl⟩
                  · by_cases v2 : (55296 : Int) ≤ (V d : Int)
                    · by_cases v3 : (V d : Int) ≤ 57343
                      · have e : R = ⟨0, 0, 2⟩ := by
                          rw [← HR.out]; unfold ptAt; rw [HW.out]
                          rw [if_neg (by simp; omega), if_pos (.inr (.inr (.inr (rune_no _ (by omega)))))]
                        subst e
                        clear HR hbound HW hst
                        try clear hq
                        go_wp2_with fail
                        go_ret3
                        exact ⟨rfl, rfl⟩
                      · have e : R = ⟨(V d : Int), (i : Int) + ((d : Nat) : Int) + 1, 0⟩ := by
                          rw [← HR.out]; unfold ptAt; rw [HW.out]
                          rw [if_neg (by simp; omega), if_neg (by rw [bt_get s (i + d) hin, bt_get s i hi2]; rintro (h | h | h | h) <;> first | omega | exact absurd (((rune_iff _).2 (by omega)).symm.trans h) (by decide))]
                        subst e
                        clear HR hbound HW hst
                        try clear hq
                        go_wp2_with fail
                        go_ret3
                        exact ⟨rfl, rfl⟩
                    · have e : R = ⟨(V d : Int), (i : Int) + ((d : Nat) : Int) + 1, 0⟩ := by
                        rw [← HR.out]; unfold ptAt; rw [HW.out]
                        rw [if_neg (by simp; omega), if_neg (by rw [bt_get s (i + d) hin, bt_get s i hi2]; rintro (h | h | h | h) <;> first | omega | exact absurd (((rune_iff _).2 (by omega)).symm.trans h) (by decide))]
                      subst e
                      clear HR hbound HW hst
                      try clear hq
                      have x1 : decide ((1114111 : Int) < (V d : Int)) = false := decide_eq_false v1
                      have x2 : decide ((55296 : Int) ≤ (V d : Int)) = false := decide_eq_false v2
                      clear v1 v2
                      go_wp2_with fail
                      go_ret3
                      exact ⟨rfl, rfl⟩
              · have hqz : ((s[i + d].toNat : Int) != 125) = true := by rw [bne_iff_ne]; omega
                have e : R = ⟨0, 0, 2⟩ := by
                  rw [← HR.out]; unfold ptAt; rw [HW.out]
                  rw [if_neg (by simp; omega), if_pos (.inl (by rw [bt_get s (i + d) hin]; exact hq))]
                subst e
                clear HR hbound HW hst
                try clear hq
                go_wp2_with fail
                go_ret3
                exact ⟨rfl, rfl⟩
            · by_cases hq : s[i + d].toNat = 125
              · have hqz : ((s[i + d].toNat : Int) != 125) = false := by rw [hq]; rfl
                by_cases v1 : (1114111 : Int) < (V d : Int)
                · have e : R = ⟨0, 0, 2⟩ := by
                    rw [← HR.out]; unfold ptAt; rw [HW.out]
                    rw [if_neg (by simp; omega), if_pos (.inr (.inr (.inr (rune_no _ (by omega)))))]
                  subst e
                  clear HR hbound HW hst
                  try clear hq
                  go_wp2_with fail
                  go_ret3
                  exact ⟨rfl, rfl⟩
                · by_cases v2 : (55296 : Int) ≤ (V d : Int)
                  · by_cases v3 : (V d : Int) ≤ 57343
                    · have e : R = ⟨0, 0, 2⟩ := by
                        rw [← HR.out]; unfold ptAt; rw [HW.out]
                        rw [if_neg (by simp; omega), if_pos (.inr (.inr (.inr (rune_no _ (by omega)))))]
                      subst e
                      clear HR hbound HW hst
                      try clear hq
                      go_wp2_with fail
                      go_ret3
                      exact ⟨rfl, rfl⟩
                    · have e : R = ⟨(V d : Int), (i : Int) + ((d : Nat) : Int) + 1, 0⟩ := by
                        rw [← HR.out]; unfold ptAt; rw [HW.out]
                        rw [if_neg (by simp; omega), if_neg (by rw [bt_get s (i + d) hin]; rintro (h | h | h | h) <;> first | omega | exact absurd (((rune_iff _).2 (by omega)).symm.trans h) (by decide))]
                      subst e
                      clear HR hbound HW hst
                      try clear hq
                      go_wp2_with fail
                      go_ret3
                      exact ⟨rfl, rfl⟩
                  · have e : R = ⟨(V d : Int), (i : Int) + ((d : Nat) : Int) + 1, 0⟩ := by
                      rw [← HR.out]; unfold ptAt; rw [HW.out]
                      rw [if_neg (by simp; omega), if_neg (by rw [bt_get s (i + d) hin]; rintro (h | h | h | h) <;> first | omega | exact absurd (((rune_iff _).2 (by omega)).symm.trans h) (by decide))]
                    subst e
                    clear HR hbound HW hst
                    try clear hq
                    have x1 : decide ((1114111 : Int) < (V d : Int)) = false := decide_eq_false v1
                    have x2 : decide ((55296 : Int) ≤ (V d : Int)) = false := decide_eq_false v2
                    clear v1 v2
                    go_wp2_with fail
                    go_ret3
                    exact ⟨rfl, rfl⟩
              · have hqz : ((s[i + d].toNat : Int) != 125) = true := by rw [bne_iff_ne]; omega
                have e : R = ⟨0, 0, 2⟩ := by
                  rw [← HR.out]; unfold ptAt; rw [HW.out]
                  rw [if_neg (by simp; omega), if_pos (.inl (by rw [bt_get s (i + d) hin]; exact hq))]
                subst e
                clear HR hbound HW hst
                try clear hq
                go_wp2_with fail
                go_ret3
                exact ⟨rfl, rfl⟩

theorem point_any (s : ByteArray) (i : Nat) (w : World) (hs : s.size ≤ 1000000) (hi : i ≤ s.size) :
    Calls Tryz.prog 128 #[.string s, .int .i64 (i : Int)] w fun e w' => e = .returned (.tuple #[.int .i64 (ptAt s.data.toList i (digs 6 (s.data.toList.drop i))).r, .int .i64 (ptAt s.data.toList i (digs 6 (s.data.toList.drop i))).k, .int .i64 (ptAt s.data.toList i (digs 6 (s.data.toList.drop i))).e]) ∧ w = w' := point_main s i w hs hi

end Go.Proofs.YthekabflbpfjoaaGreatDoor.lit
