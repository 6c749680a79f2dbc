/- Contracts of Sub, Mul, Div and Mod of package number, case by case. -/
import Derived.Test.YtapnnoedlkoilaaDoorAwake
import Derived.Test.YtapnnoedlkoilaaDoorMath
namespace Go.Proofs.YtapnnoedlkoilaaDoor.num
open Go.RowKit

/-- What a call does to the world at most: what was there is as it was. -/
def Q (w w' : World) : Prop := Below w.heap.size w w'
theorem Q.refl (w : World) : Q w w := Below.refl _ _
theorem Q.trans {a b c : World} (h : Q a b) (k : Q b c) : Q a c := Below.trans h (Below.mono k h.size)
theorem Q.drewN (w : World) (n : Nat) : Q w (w.drewN n) := ⟨rfl, rfl, rfl, by simp, fun _ _ => rfl⟩
theorem Q.tab {w w' : World} (h : Q w w') (ht : Tab w) : Tab w' := Joins.tab_stays (g := 0) (by kernel_rfl) ht h (Nat.le_refl _)

theorem not_bad {n : Int} (h : ¬ bad n) : good n := by unfold bad at h; unfold good; omega

set_option maxHeartbeats 400000 in
theorem sub_bad (a b : Int) (w : World) (h : bad a ∨ bad b) :
    Calls Tryd.prog 12 #[.int .i64 a, .int .i64 b] w fun e w' => e = .returned (.tuple #[.int .i64 0, .int .i64 1]) ∧ w = w' := by
  by_cases ha : bad a
  · go_enter Tryd.func12, Tryd.ntmps12
    go_wp2_with (go_at_call 23; ((with_reducible refine (valid_no a _ ha).mono ?_); rintro e w' ⟨rfl, rfl⟩))
    go_ret2
    exact ⟨rfl, rfl⟩
  · have hb : bad b := h.resolve_left ha
    obtain ⟨h0, h1⟩ := not_bad ha
    clear h ha
    go_enter Tryd.func12, Tryd.ntmps12
    go_wp2_with (first | (go_at_call 23; ((with_reducible refine (valid_no b _ hb).mono ?_); rintro e w' ⟨rfl, rfl⟩)) | (go_at_call 23; ((with_reducible refine (valid_yes _ _ ?_ ?_).mono ?_); omega; omega; rintro e w' ⟨rfl, rfl⟩)))
    go_ret2
    exact ⟨rfl, rfl⟩

set_option maxHeartbeats 400000 in
theorem sub_good (a b : Int) (w : World) (ha : good a) (hb : good b) (hc : good (a - b)) :
    Calls Tryd.prog 12 #[.int .i64 a, .int .i64 b] w fun e w' => e = .returned (.tuple #[.int .i64 (a - b), .int .i64 0]) ∧ w = w' := by
  have HC := Lib.hid hc; clear hc
  obtain ⟨h0, h1⟩ := ha
  obtain ⟨h2, h3⟩ := hb
  go_enter Tryd.func12, Tryd.ntmps12
  go_wp2_with (first | (go_at_call 27; ((with_reducible refine (range_yes _ _ HC.out).mono ?_); rintro e w' ⟨rfl, rfl⟩)) | (go_at_call 23; ((with_reducible refine (valid_yes _ _ ?_ ?_).mono ?_); omega; omega; rintro e w' ⟨rfl, rfl⟩)))
  go_ret2
  exact ⟨rfl, rfl⟩

set_option maxHeartbeats 400000 in
theorem sub_range (a b : Int) (w : World) (ha : good a) (hb : good b) (hc : bad (a - b)) :
    Calls Tryd.prog 12 #[.int .i64 a, .int .i64 b] w fun e w' => e = .returned (.tuple #[.int .i64 0, .int .i64 5]) ∧ w = w' := by
  have HC := Lib.hid hc; clear hc
  obtain ⟨h0, h1⟩ := ha
  obtain ⟨h2, h3⟩ := hb
  go_enter Tryd.func12, Tryd.ntmps12
  go_wp2_with (first | (go_at_call 27; ((with_reducible refine (range_no _ _ HC.out).mono ?_); rintro e w' ⟨rfl, rfl⟩)) | (go_at_call 23; ((with_reducible refine (valid_yes _ _ ?_ ?_).mono ?_); omega; omega; rintro e w' ⟨rfl, rfl⟩)))
  go_ret2
  exact ⟨rfl, rfl⟩

set_option maxHeartbeats 400000 in
theorem mul_bad (a b : Int) (w : World) (h : bad a ∨ bad b) :
    Calls Tryd.prog 14 #[.int .i64 a, .int .i64 b] w fun e w' => e = .returned (.tuple #[.int .i64 0, .int .i64 1]) ∧ w = w' := by
  by_cases ha : bad a
  · go_enter Tryd.func14, Tryd.ntmps14
    go_wp2_with (go_at_call 23; ((with_reducible refine (valid_no a _ ha).mono ?_); rintro e w' ⟨rfl, rfl⟩))
    go_ret2
    exact ⟨rfl, rfl⟩
  · have hb : bad b := h.resolve_left ha
    obtain ⟨h0, h1⟩ := not_bad ha
    clear h ha
    go_enter Tryd.func14, Tryd.ntmps14
    go_wp2_with (first | (go_at_call 23; ((with_reducible refine (valid_no b _ hb).mono ?_); rintro e w' ⟨rfl, rfl⟩)) | (go_at_call 23; ((with_reducible refine (valid_yes _ _ ?_ ?_).mono ?_); omega; omega; rintro e w' ⟨rfl, rfl⟩)))
    go_ret2
    exact ⟨rfl, rfl⟩

set_option maxHeartbeats 400000 in
theorem div_bad (a b : Int) (w : World) (h : bad a ∨ bad b) :
    Calls Tryd.prog 16 #[.int .i64 a, .int .i64 b] w fun e w' => e = .returned (.tuple #[.int .i64 0, .int .i64 1]) ∧ w = w' := by
  by_cases ha : bad a
  · go_enter Tryd.func16, Tryd.ntmps16
    go_wp2_with (go_at_call 23; ((with_reducible refine (valid_no a _ ha).mono ?_); rintro e w' ⟨rfl, rfl⟩))
    go_ret2
    exact ⟨rfl, rfl⟩
  · have hb : bad b := h.resolve_left ha
    obtain ⟨h0, h1⟩ := not_bad ha
    clear h ha
    go_enter Tryd.func16, Tryd.ntmps16
    go_wp2_with (first | (go_at_call 23; ((with_reducible refine (valid_no b _ hb).mono ?_); rintro e w' ⟨rfl, rfl⟩)) | (go_at_call 23; ((with_reducible refine (valid_yes _ _ ?_ ?_).mono ?_); omega; omega; rintro e w' ⟨rfl, rfl⟩)))
    go_ret2
    exact ⟨rfl, rfl⟩

set_option maxHeartbeats 400000 in
theorem div_zero (a b : Int) (w : World) (ha : good a) (hb : b = 0) :
    Calls Tryd.prog 16 #[.int .i64 a, .int .i64 b] w fun e w' => e = .returned (.tuple #[.int .i64 0, .int .i64 15]) ∧ w = w' := by
  subst hb
  obtain ⟨h0, h1⟩ := ha
  go_enter Tryd.func16, Tryd.ntmps16
  go_wp2_with (go_at_call 23; ((with_reducible refine (valid_yes _ _ ?_ ?_).mono ?_); omega; omega; rintro e w' ⟨rfl, rfl⟩))
  go_ret2
  exact ⟨rfl, rfl⟩

set_option maxHeartbeats 1000000 in
/-- The quotient that is rounded towards zero stays. -/
theorem div_same (a b : Int) (w : World) (ha : good a) (hb : good b) (hz : (b == 0) = false) (ht : good (a.tdiv b))
    (hx : (a.tmod b == 0) = true ∨ ∃ x : Bool, decide (a.tmod b < 0) = x ∧ decide (b < 0) = x) :
    Calls Tryd.prog 16 #[.int .i64 a, .int .i64 b] w fun e w' => e = .returned (.tuple #[.int .i64 (a.tdiv b), .int .i64 0]) ∧ Q w w' := by
  obtain ⟨h0, h1⟩ := ha
  obtain ⟨h2, h3⟩ := hb
  obtain ⟨h4, h5⟩ := ht
  have hz2 : ¬ b = 0 := by simpa using hz
  rcases hx with hx | ⟨x, hx, hy⟩
  · have hx' : (a.tmod b != 0) = false := by simpa using hx
    clear hx
    go_enter Tryd.func16, Tryd.ntmps16
    go_wp2_with (go_at_call 23; ((with_reducible refine (valid_yes _ _ ?_ ?_).mono ?_); omega; omega; rintro e w' ⟨rfl, rfl⟩))
    go_quiet (fail)
    go_wp2
    go_ret2
    exact ⟨rfl, Q.drewN _ _⟩
  · by_cases hm : (a.tmod b == 0) = true
    · have hx' : (a.tmod b != 0) = false := by simpa using hm
      clear hx hy hm
      go_enter Tryd.func16, Tryd.ntmps16
      go_wp2_with (go_at_call 23; ((with_reducible refine (valid_yes _ _ ?_ ?_).mono ?_); omega; omega; rintro e w' ⟨rfl, rfl⟩))
      go_quiet (fail)
      go_wp2
      go_ret2
      exact ⟨rfl, Q.drewN _ _⟩
    · have hx' : (a.tmod b != 0) = true := by simpa using hm
      clear hm
      cases x
      all_goals
        go_enter Tryd.func16, Tryd.ntmps16
        go_wp2_with (go_at_call 23; ((with_reducible refine (valid_yes _ _ ?_ ?_).mono ?_); omega; omega; rintro e w' ⟨rfl, rfl⟩))
        go_quiet (fail)
        go_wp2
        go_ret2
        exact ⟨rfl, Q.drewN _ _⟩

set_option maxHeartbeats 1000000 in
/-- One less than the quotient that is rounded towards zero. -/
theorem div_less (a b : Int) (w : World) (ha : good a) (hb : good b) (hz : (b == 0) = false) (ht : good (a.tdiv b)) (hm : (a.tmod b != 0) = true)
    (hx : ∃ x : Bool, decide (a.tmod b < 0) = x ∧ decide (b < 0) = !x) :
    Calls Tryd.prog 16 #[.int .i64 a, .int .i64 b] w fun e w' => e = .returned (.tuple #[.int .i64 (a.tdiv b - 1), .int .i64 0]) ∧ Q w w' := by
  obtain ⟨h0, h1⟩ := ha
  obtain ⟨h2, h3⟩ := hb
  obtain ⟨h4, h5⟩ := ht
  have hz2 : ¬ b = 0 := by simpa using hz
  obtain ⟨x, hx, hy⟩ := hx
  cases x
  all_goals
    simp only [Bool.not_true, Bool.not_false] at hy
    go_enter Tryd.func16, Tryd.ntmps16
    go_wp2_with (go_at_call 23; ((with_reducible refine (valid_yes _ _ ?_ ?_).mono ?_); omega; omega; rintro e w' ⟨rfl, rfl⟩))
    go_quiet (fail)
    go_wp2
    go_ret2
    exact ⟨rfl, Q.drewN _ _⟩

theorem div_good (a b : Int) (w : World) (ha : good a) (hb : good b) (hz : b ≠ 0) :
    Calls Tryd.prog 16 #[.int .i64 a, .int .i64 b] w fun e w' => e = .returned (.tuple #[.int .i64 (a.fdiv b), .int .i64 0]) ∧ Q w w' := by
  have ht : good (a.tdiv b) := td_size a b ha.1 ha.2
  have hz' : (b == 0) = false := by simpa using hz
  rcases Int.lt_trichotomy b 0 with h | h | h
  · by_cases hm : a.tmod b ≤ 0
    · rw [← fd_neg_same a b h hm]
      refine div_same a b w ha hb hz' ht ?_
      by_cases he : a.tmod b = 0
      · exact .inl (by simpa using he)
      · exact .inr ⟨true, by simp; omega, by simp; omega⟩
    · rw [← fd_neg_less a b h (by omega)]
      exact div_less a b w ha hb hz' ht (by simp; omega) ⟨false, by simp; omega, by simp; omega⟩
  · exact absurd h hz
  · by_cases hm : 0 ≤ a.tmod b
    · rw [← fd_pos_same a b h hm]
      exact div_same a b w ha hb hz' ht (.inr ⟨false, by simp; omega, by simp; omega⟩)
    · rw [← fd_pos_less a b h (by omega)]
      exact div_less a b w ha hb hz' ht (by simp; omega) ⟨true, by simp; omega, by simp; omega⟩

set_option maxHeartbeats 400000 in
/-- Where Div reports an error, Mod reports the same. -/
theorem mod_err (a b k : Int) (w : World) (hk : (k != 0) = true)
    (hd : Calls Tryd.prog 16 #[.int .i64 a, .int .i64 b] w fun e w' => e = .returned (.tuple #[.int .i64 0, .int .i64 k]) ∧ w = w') :
    Calls Tryd.prog 18 #[.int .i64 a, .int .i64 b] w fun e w' => e = .returned (.tuple #[.int .i64 0, .int .i64 k]) ∧ w = w' := by
  have HD := Lib.hid hd; clear hd
  go_enter Tryd.func18, Tryd.ntmps18
  go_wp2_with (go_at_call 16; ((with_reducible refine HD.out.mono ?_); rintro e w' ⟨rfl, rfl⟩))
  go_ret2
  exact ⟨rfl, rfl⟩
theorem mod_bad (a b : Int) (w : World) (h : bad a ∨ bad b) :
    Calls Tryd.prog 18 #[.int .i64 a, .int .i64 b] w fun e w' => e = .returned (.tuple #[.int .i64 0, .int .i64 1]) ∧ w = w' :=
  mod_err a b 1 w rfl (div_bad a b w h)
theorem mod_zero (a b : Int) (w : World) (ha : good a) (hb : b = 0) :
    Calls Tryd.prog 18 #[.int .i64 a, .int .i64 b] w fun e w' => e = .returned (.tuple #[.int .i64 0, .int .i64 15]) ∧ w = w' :=
  mod_err a b 15 w rfl (div_zero a b w ha hb)

theorem fm_size (a b : Int) (hb : good b) (hz : b ≠ 0) : good (a.fmod b) := by
  obtain ⟨h2, h3⟩ := hb
  rcases Int.lt_trichotomy b 0 with h | h | h
  · have := fm_neg a b h; constructor <;> omega
  · exact absurd h hz
  · have := fm_pos a b h; constructor <;> omega

set_option maxHeartbeats 400000 in
theorem mod_good (a b : Int) (w : World) (ha : good a) (hb : good b) (hz : b ≠ 0) :
    Calls Tryd.prog 18 #[.int .i64 a, .int .i64 b] w fun e w' => e = .returned (.tuple #[.int .i64 (a.fmod b), .int .i64 0]) ∧ Q w w' := by
  have hd := Lib.hid (div_good a b w ha hb hz)
  have hm := Lib.hid (fm_def a b)
  obtain ⟨h6, h7⟩ := fm_size a b hb hz
  have hp0 : -9223372036854775808 ≤ b * a.fdiv b := by have := hm.out; have := ha.1; omega
  have hp1 : b * a.fdiv b ≤ 9223372036854775807 := by have := hm.out; have := ha.2; omega
  have hp2 : -9223372036854775808 ≤ a - b * a.fdiv b := by have := hm.out; omega
  have hp3 : a - b * a.fdiv b ≤ 9223372036854775807 := by have := hm.out; omega
  obtain ⟨h0, h1⟩ := ha
  clear hb hz
  go_enter Tryd.func18, Tryd.ntmps18
  go_wp2_with (go_at_call 16; ((with_reducible refine hd.out.mono ?_); rintro e w' ⟨rfl, hq⟩))
  go_ret2
  refine ⟨?_, hq⟩
  show Ending.returned (.tuple #[.int .i64 (a - b * a.fdiv b), .int .i64 0]) = _
  rw [hm.out]


set_option maxHeartbeats 400000 in
theorem abs_any (n x : Int) (w : World) (h : good n) (hx : (0 ≤ n ∧ x = n) ∨ (n < 0 ∧ x = -n)) :
    Calls Tryd.prog 29 #[.int .i64 n] w fun e w' => e = .returned (.int .i64 x) ∧ w = w' := by
  obtain ⟨h0, h1⟩ := h
  rcases hx with ⟨hn, rfl⟩ | ⟨hn, rfl⟩
  · go_enter Tryd.func29, Tryd.ntmps29
    go_wp2
    go_ret
    exact ⟨rfl, rfl⟩
  · go_enter Tryd.func29, Tryd.ntmps29
    go_wp2
    go_ret
    exact ⟨rfl, rfl⟩

set_option maxHeartbeats 400000 in
theorem mul_zero (a b : Int) (w : World) (ha : good a) (hb : b = 0) :
    Calls Tryd.prog 14 #[.int .i64 a, .int .i64 b] w fun e w' => e = .returned (.tuple #[.int .i64 0, .int .i64 0]) ∧ w = w' := by
  subst hb
  obtain ⟨h0, h1⟩ := ha
  go_enter Tryd.func14, Tryd.ntmps14
  go_wp2_with (go_at_call 23; ((with_reducible refine (valid_yes _ _ ?_ ?_).mono ?_); omega; omega; rintro e w' ⟨rfl, rfl⟩))
  go_ret2
  exact ⟨by simp, rfl⟩

set_option maxHeartbeats 400000 in
theorem mul_over (a b x y : Int) (w : World) (ha : good a) (hb : good b) (hz : (b == 0) = false) (hx : (0 ≤ a ∧ x = a) ∨ (a < 0 ∧ x = -a)) (hy : (0 ≤ b ∧ y = b) ∨ (b < 0 ∧ y = -b)) (h : decide (9007199254740992 / y < x) = true) :
    Calls Tryd.prog 14 #[.int .i64 a, .int .i64 b] w fun e w' => e = .returned (.tuple #[.int .i64 0, .int .i64 5]) ∧ w = w' := by
  have hz2 : ¬ b = 0 := by simpa using hz
  have y1 : 1 ≤ y := by omega
  have y2 : ¬ y = 0 := by omega
  have HA := Lib.hid (abs_any a x · ha hx)
  have HB := Lib.hid (abs_any b y · hb hy)
  obtain ⟨h0, h1⟩ := ha
  obtain ⟨h2, h3⟩ := hb
  clear hx hy
  go_enter Tryd.func14, Tryd.ntmps14
  go_wp2_with (first | (go_at_call 29; ((with_reducible refine (HA.out _).mono ?_); rintro e w' ⟨rfl, rfl⟩)) | (go_at_call 29; ((with_reducible refine (HB.out _).mono ?_); rintro e w' ⟨rfl, rfl⟩)) | (go_at_call 23; ((with_reducible refine (valid_yes _ _ ?_ ?_).mono ?_); omega; omega; rintro e w' ⟨rfl, rfl⟩)))
  go_ret2
  exact ⟨rfl, rfl⟩

set_option maxHeartbeats 400000 in
theorem mul_fits (a b x y : Int) (w : World) (ha : good a) (hb : good b) (hz : (b == 0) = false) (hx : (0 ≤ a ∧ x = a) ∨ (a < 0 ∧ x = -a)) (hy : (0 ≤ b ∧ y = b) ∨ (b < 0 ∧ y = -b)) (h : decide (9007199254740992 / y < x) = false)
    (hp0 : -9007199254740992 ≤ a * b) (hp1 : a * b ≤ 9007199254740992) :
    Calls Tryd.prog 14 #[.int .i64 a, .int .i64 b] w fun e w' => e = .returned (.tuple #[.int .i64 (a * b), .int .i64 0]) ∧ w = w' := by
  have hz2 : ¬ b = 0 := by simpa using hz
  have y1 : 1 ≤ y := by omega
  have y2 : ¬ y = 0 := by omega
  have HA := Lib.hid (abs_any a x · ha hx)
  have HB := Lib.hid (abs_any b y · hb hy)
  obtain ⟨h0, h1⟩ := ha
  obtain ⟨h2, h3⟩ := hb
  clear hx hy
  go_enter Tryd.func14, Tryd.ntmps14
  go_wp2_with (first | (go_at_call 29; ((with_reducible refine (HA.out _).mono ?_); rintro e w' ⟨rfl, rfl⟩)) | (go_at_call 29; ((with_reducible refine (HB.out _).mono ?_); rintro e w' ⟨rfl, rfl⟩)) | (go_at_call 23; ((with_reducible refine (valid_yes _ _ ?_ ?_).mono ?_); omega; omega; rintro e w' ⟨rfl, rfl⟩)))
  go_ret2
  exact ⟨rfl, rfl⟩

theorem mul_good (a b : Int) (w : World) (ha : good a) (hb : good b) (hc : good (a * b)) :
    Calls Tryd.prog 14 #[.int .i64 a, .int .i64 b] w fun e w' => e = .returned (.tuple #[.int .i64 (a * b), .int .i64 0]) ∧ w = w' := by
  by_cases hz : b = 0
  · rw [show a * b = 0 by rw [hz]; simp]
    exact mul_zero a b w ha hz
  · have h := over_iff a b hz
    obtain ⟨h0, h1⟩ := hc
    exact mul_fits a b (abs a) (abs b) w ha hb (by simpa using hz) (abs_is a) (abs_is b) (by rw [decide_eq_false_iff_not]; omega) h0 h1

theorem mul_range (a b : Int) (w : World) (ha : good a) (hb : good b) (hc : bad (a * b)) :
    Calls Tryd.prog 14 #[.int .i64 a, .int .i64 b] w fun e w' => e = .returned (.tuple #[.int .i64 0, .int .i64 5]) ∧ w = w' := by
  have hz : b ≠ 0 := by intro h; subst h; unfold bad at hc; simp at hc
  have h := over_iff a b hz
  exact mul_over a b (abs a) (abs b) w ha hb (by simpa using hz) (abs_is a) (abs_is b) (by rw [decide_eq_true_iff]; exact h.2 hc)

end Go.Proofs.YtapnnoedlkoilaaDoor.num

