/- Contracts of the reference's Valid, Add, Sub, Mul, Div and Mod, case by case: the same results as those of package number. -/
import Derived.Test.YtapnnoedlkoilaaDoorAwk
namespace Go.Proofs.YtapnnoedlkoilaaDoor.refnum
open Go.RowKit
open Go.Proofs.YtapnnoedlkoilaaDoor.num (bad good abs abs_is not_bad over_iff fm_def fm_size td_size fd_neg_same fd_neg_less fd_pos_same fd_pos_less tm_pos tm_neg)

set_option maxHeartbeats 400000 in
theorem valid_yes (n : Int) (w : World) (h0 : -9007199254740992 ≤ n) (h1 : n ≤ 9007199254740992) :
    Calls Tryd.prog 24 #[.int .i64 n] w fun e w' => e = .returned (.bool true) ∧ w = w' := by
  go_enter Tryd.func24, Tryd.ntmps24
  go_wp2
  go_ret
  exact ⟨rfl, rfl⟩

set_option maxHeartbeats 400000 in
theorem valid_no (n : Int) (w : World) (h : bad n) :
    Calls Tryd.prog 24 #[.int .i64 n] w fun e w' => e = .returned (.bool false) ∧ w = w' := by
  rcases h with h | h
  · go_enter Tryd.func24, Tryd.ntmps24
    go_wp2
    go_ret
    exact ⟨rfl, rfl⟩
  · have h0 : -9007199254740992 ≤ n := by omega
    have hd : decide (n ≤ 9007199254740992) = false := by simp; omega
    go_enter Tryd.func24, Tryd.ntmps24
    go_wp2
    go_ret
    exact ⟨rfl, rfl⟩


set_option maxHeartbeats 400000 in
theorem range_yes (n : Int) (w : World) (h : good n) :
    Calls Tryd.prog 28 #[.int .i64 n] w fun e w' => e = .returned (.tuple #[.int .i64 n, .int .i64 0]) ∧ w = w' := by
  obtain ⟨h0, h1⟩ := h
  go_enter Tryd.func28, Tryd.ntmps28
  go_wp2
  go_ret2
  exact ⟨rfl, rfl⟩

set_option maxHeartbeats 400000 in
theorem range_no (n : Int) (w : World) (h : bad n) :
    Calls Tryd.prog 28 #[.int .i64 n] w fun e w' => e = .returned (.tuple #[.int .i64 0, .int .i64 5]) ∧ w = w' := by
  go_enter Tryd.func28, Tryd.ntmps28
  go_wp2_with (go_at_call 24; ((with_reducible refine (valid_no _ _ h).mono ?_); rintro e w' ⟨rfl, rfl⟩))
  go_ret2
  exact ⟨rfl, rfl⟩

set_option maxHeartbeats 400000 in
/-- Add of two arguments of which one is not valid. -/
theorem add_bad (a b : Int) (w : World) (h : bad a ∨ bad b) :
    Calls Tryd.prog 11 #[.int .i64 a, .int .i64 b] w fun e w' => e = .returned (.tuple #[.int .i64 0, .int .i64 1]) ∧ w = w' := by
  by_cases ha : bad a
  · go_enter Tryd.func11, Tryd.ntmps11
    go_wp2_with (go_at_call 24; ((with_reducible refine (valid_no a _ ha).mono ?_); rintro e w' ⟨rfl, rfl⟩))
    go_ret2
    exact ⟨rfl, rfl⟩
  · have hb : bad b := h.resolve_left ha
    have h0 : -9007199254740992 ≤ a := by unfold bad at ha; omega
    have h1 : a ≤ 9007199254740992 := by unfold bad at ha; omega
    clear h ha
    go_enter Tryd.func11, Tryd.ntmps11
    go_wp2_with (first | (go_at_call 24; ((with_reducible refine (valid_no b _ hb).mono ?_); rintro e w' ⟨rfl, rfl⟩)) | (go_at_call 24; ((with_reducible refine (valid_yes _ _ ?_ ?_).mono ?_); omega; omega; rintro e w' ⟨rfl, rfl⟩)))
    go_ret2
    exact ⟨rfl, rfl⟩

set_option maxHeartbeats 400000 in
theorem add_good (a b : Int) (w : World) (ha : good a) (hb : good b) (hc : good (a + b)) :
    Calls Tryd.prog 11 #[.int .i64 a, .int .i64 b] w fun e w' => e = .returned (.tuple #[.int .i64 (a + b), .int .i64 0]) ∧ w = w' := by
  have HC := Lib.hid hc; clear hc
  obtain ⟨h0, h1⟩ := ha
  obtain ⟨h2, h3⟩ := hb
  go_enter Tryd.func11, Tryd.ntmps11
  go_wp2_with (first | (go_at_call 28; ((with_reducible refine (range_yes _ _ HC.out).mono ?_); rintro e w' ⟨rfl, rfl⟩)) | (go_at_call 24; ((with_reducible refine (valid_yes _ _ ?_ ?_).mono ?_); omega; omega; rintro e w' ⟨rfl, rfl⟩)))
  go_ret2
  exact ⟨rfl, rfl⟩

set_option maxHeartbeats 400000 in
theorem add_range (a b : Int) (w : World) (ha : good a) (hb : good b) (hc : bad (a + b)) :
    Calls Tryd.prog 11 #[.int .i64 a, .int .i64 b] w fun e w' => e = .returned (.tuple #[.int .i64 0, .int .i64 5]) ∧ w = w' := by
  have HC := Lib.hid hc; clear hc
  obtain ⟨h0, h1⟩ := ha
  obtain ⟨h2, h3⟩ := hb
  go_enter Tryd.func11, Tryd.ntmps11
  go_wp2_with (first | (go_at_call 28; ((with_reducible refine (range_no _ _ HC.out).mono ?_); rintro e w' ⟨rfl, rfl⟩)) | (go_at_call 24; ((with_reducible refine (valid_yes _ _ ?_ ?_).mono ?_); omega; omega; rintro e w' ⟨rfl, rfl⟩)))
  go_ret2
  exact ⟨rfl, rfl⟩


set_option maxHeartbeats 400000 in
theorem sub_bad (a b : Int) (w : World) (h : bad a ∨ bad b) :
    Calls Tryd.prog 13 #[.int .i64 a, .int .i64 b] w fun e w' => e = .returned (.tuple #[.int .i64 0, .int .i64 1]) ∧ w = w' := by
  by_cases ha : bad a
  · go_enter Tryd.func13, Tryd.ntmps13
    go_wp2_with (go_at_call 24; ((with_reducible refine (valid_no a _ ha).mono ?_); rintro e w' ⟨rfl, rfl⟩))
    go_ret2
    exact ⟨rfl, rfl⟩
  · have hb : bad b := h.resolve_left ha
    obtain ⟨h0, h1⟩ := not_bad ha
    clear h ha
    go_enter Tryd.func13, Tryd.ntmps13
    go_wp2_with (first | (go_at_call 24; ((with_reducible refine (valid_no b _ hb).mono ?_); rintro e w' ⟨rfl, rfl⟩)) | (go_at_call 24; ((with_reducible refine (valid_yes _ _ ?_ ?_).mono ?_); omega; omega; rintro e w' ⟨rfl, rfl⟩)))
    go_ret2
    exact ⟨rfl, rfl⟩

set_option maxHeartbeats 400000 in
theorem sub_good (a b : Int) (w : World) (ha : good a) (hb : good b) (hc : good (a - b)) :
    Calls Tryd.prog 13 #[.int .i64 a, .int .i64 b] w fun e w' => e = .returned (.tuple #[.int .i64 (a - b), .int .i64 0]) ∧ w = w' := by
  have HC := Lib.hid hc; clear hc
  obtain ⟨h0, h1⟩ := ha
  obtain ⟨h2, h3⟩ := hb
  go_enter Tryd.func13, Tryd.ntmps13
  go_wp2_with (first | (go_at_call 28; ((with_reducible refine (range_yes _ _ HC.out).mono ?_); rintro e w' ⟨rfl, rfl⟩)) | (go_at_call 24; ((with_reducible refine (valid_yes _ _ ?_ ?_).mono ?_); omega; omega; rintro e w' ⟨rfl, rfl⟩)))
  go_ret2
  exact ⟨rfl, rfl⟩

set_option maxHeartbeats 400000 in
theorem sub_range (a b : Int) (w : World) (ha : good a) (hb : good b) (hc : bad (a - b)) :
    Calls Tryd.prog 13 #[.int .i64 a, .int .i64 b] w fun e w' => e = .returned (.tuple #[.int .i64 0, .int .i64 5]) ∧ w = w' := by
  have HC := Lib.hid hc; clear hc
  obtain ⟨h0, h1⟩ := ha
  obtain ⟨h2, h3⟩ := hb
  go_enter Tryd.func13, Tryd.ntmps13
  go_wp2_with (first | (go_at_call 28; ((with_reducible refine (range_no _ _ HC.out).mono ?_); rintro e w' ⟨rfl, rfl⟩)) | (go_at_call 24; ((with_reducible refine (valid_yes _ _ ?_ ?_).mono ?_); omega; omega; rintro e w' ⟨rfl, rfl⟩)))
  go_ret2
  exact ⟨rfl, rfl⟩

set_option maxHeartbeats 400000 in
theorem mul_bad (a b : Int) (w : World) (h : bad a ∨ bad b) :
    Calls Tryd.prog 15 #[.int .i64 a, .int .i64 b] w fun e w' => e = .returned (.tuple #[.int .i64 0, .int .i64 1]) ∧ w = w' := by
  by_cases ha : bad a
  · go_enter Tryd.func15, Tryd.ntmps15
    go_wp2_with (go_at_call 24; ((with_reducible refine (valid_no a _ ha).mono ?_); rintro e w' ⟨rfl, rfl⟩))
    go_ret2
    exact ⟨rfl, rfl⟩
  · have hb : bad b := h.resolve_left ha
    obtain ⟨h0, h1⟩ := not_bad ha
    clear h ha
    go_enter Tryd.func15, Tryd.ntmps15
    go_wp2_with (first | (go_at_call 24; ((with_reducible refine (valid_no b _ hb).mono ?_); rintro e w' ⟨rfl, rfl⟩)) | (go_at_call 24; ((with_reducible refine (valid_yes _ _ ?_ ?_).mono ?_); omega; omega; rintro e w' ⟨rfl, rfl⟩)))
    go_ret2
    exact ⟨rfl, rfl⟩

set_option maxHeartbeats 400000 in
theorem div_bad (a b : Int) (w : World) (h : bad a ∨ bad b) :
    Calls Tryd.prog 17 #[.int .i64 a, .int .i64 b] w fun e w' => e = .returned (.tuple #[.int .i64 0, .int .i64 1]) ∧ w = w' := by
  by_cases ha : bad a
  · go_enter Tryd.func17, Tryd.ntmps17
    go_wp2_with (go_at_call 24; ((with_reducible refine (valid_no a _ ha).mono ?_); rintro e w' ⟨rfl, rfl⟩))
    go_ret2
    exact ⟨rfl, rfl⟩
  · have hb : bad b := h.resolve_left ha
    obtain ⟨h0, h1⟩ := not_bad ha
    clear h ha
    go_enter Tryd.func17, Tryd.ntmps17
    go_wp2_with (first | (go_at_call 24; ((with_reducible refine (valid_no b _ hb).mono ?_); rintro e w' ⟨rfl, rfl⟩)) | (go_at_call 24; ((with_reducible refine (valid_yes _ _ ?_ ?_).mono ?_); omega; omega; rintro e w' ⟨rfl, rfl⟩)))
    go_ret2
    exact ⟨rfl, rfl⟩

set_option maxHeartbeats 400000 in
theorem div_zero (a b : Int) (w : World) (ha : good a) (hb : b = 0) :
    Calls Tryd.prog 17 #[.int .i64 a, .int .i64 b] w fun e w' => e = .returned (.tuple #[.int .i64 0, .int .i64 15]) ∧ w = w' := by
  subst hb
  obtain ⟨h0, h1⟩ := ha
  go_enter Tryd.func17, Tryd.ntmps17
  go_wp2_with (go_at_call 24; ((with_reducible refine (valid_yes _ _ ?_ ?_).mono ?_); omega; omega; rintro e w' ⟨rfl, rfl⟩))
  go_ret2
  exact ⟨rfl, rfl⟩


set_option maxHeartbeats 1000000 in
/-- The quotient that is rounded towards zero stays. -/
theorem div_exact (a b : Int) (w : World) (ha : good a) (hb : good b) (hz : (b == 0) = false) (ht : good (a.tdiv b)) (h6 : -9223372036854775808 ≤ a.tdiv b * b) (h7 : a.tdiv b * b ≤ 9223372036854775807)
    (hx : (a.tdiv b * b != a) = false) :
    Calls Tryd.prog 17 #[.int .i64 a, .int .i64 b] w fun e w' => e = .returned (.tuple #[.int .i64 (a.tdiv b), .int .i64 0]) ∧ w = w' := by
  obtain ⟨h0, h1⟩ := ha
  obtain ⟨h2, h3⟩ := hb
  obtain ⟨h4, h5⟩ := ht
  have hz2 : ¬ b = 0 := by simpa using hz
  go_enter Tryd.func17, Tryd.ntmps17
  go_wp2_with (go_at_call 24; ((with_reducible refine (valid_yes _ _ ?_ ?_).mono ?_); omega; omega; rintro e w' ⟨rfl, rfl⟩))
  go_ret2
  exact ⟨rfl, rfl⟩
set_option maxHeartbeats 1000000 in
/-- The quotient that is rounded towards zero stays. -/
theorem div_same (a b : Int) (w : World) (ha : good a) (hb : good b) (hz : (b == 0) = false) (ht : good (a.tdiv b)) (h6 : -9223372036854775808 ≤ a.tdiv b * b) (h7 : a.tdiv b * b ≤ 9223372036854775807)
    (hx : (a.tdiv b * b != a) = true) (hs : ∃ x : Bool, decide (a < 0) = x ∧ decide (b < 0) = x) :
    Calls Tryd.prog 17 #[.int .i64 a, .int .i64 b] w fun e w' => e = .returned (.tuple #[.int .i64 (a.tdiv b), .int .i64 0]) ∧ w = w' := by
  obtain ⟨h0, h1⟩ := ha
  obtain ⟨h2, h3⟩ := hb
  obtain ⟨h4, h5⟩ := ht
  have hz2 : ¬ b = 0 := by simpa using hz
  obtain ⟨x, hs, hy⟩ := hs
  cases x
  all_goals
    go_enter Tryd.func17, Tryd.ntmps17
    go_wp2_with (go_at_call 24; ((with_reducible refine (valid_yes _ _ ?_ ?_).mono ?_); omega; omega; rintro e w' ⟨rfl, rfl⟩))
    go_ret2
    exact ⟨rfl, rfl⟩
set_option maxHeartbeats 1000000 in
/-- One less than the quotient that is rounded towards zero. -/
theorem div_less (a b : Int) (w : World) (ha : good a) (hb : good b) (hz : (b == 0) = false) (ht : good (a.tdiv b)) (h6 : -9223372036854775808 ≤ a.tdiv b * b) (h7 : a.tdiv b * b ≤ 9223372036854775807)
    (hx : (a.tdiv b * b != a) = true) (hs : ∃ x : Bool, decide (a < 0) = x ∧ decide (b < 0) = !x) :
    Calls Tryd.prog 17 #[.int .i64 a, .int .i64 b] w fun e w' => e = .returned (.tuple #[.int .i64 (a.tdiv b - 1), .int .i64 0]) ∧ w = w' := by
  obtain ⟨h0, h1⟩ := ha
  obtain ⟨h2, h3⟩ := hb
  obtain ⟨h4, h5⟩ := ht
  have hz2 : ¬ b = 0 := by simpa using hz
  obtain ⟨x, hs, hy⟩ := hs
  cases x
  all_goals
    simp only [Bool.not_true, Bool.not_false] at hy
    go_enter Tryd.func17, Tryd.ntmps17
    go_wp2_with (go_at_call 24; ((with_reducible refine (valid_yes _ _ ?_ ?_).mono ?_); omega; omega; rintro e w' ⟨rfl, rfl⟩))
    go_ret2
    exact ⟨rfl, rfl⟩

theorem tm_nonpos (a b : Int) (h : a ≤ 0) : a.tmod b ≤ 0 := by
  have h' := Int.tmod_nonneg b (show 0 ≤ -a by omega)
  rw [Int.neg_tmod] at h'
  omega
theorem div_good (a b : Int) (w : World) (ha : good a) (hb : good b) (hz : b ≠ 0) :
    Calls Tryd.prog 17 #[.int .i64 a, .int .i64 b] w fun e w' => e = .returned (.tuple #[.int .i64 (a.fdiv b), .int .i64 0]) ∧ w = w' := by
  have ht : good (a.tdiv b) := td_size a b ha.1 ha.2
  have hz' : (b == 0) = false := by simpa using hz
  have hp : a.tdiv b * b = a - a.tmod b := by rw [Int.mul_comm]; have := Int.tmod_add_mul_tdiv a b; omega
  have hn := tm_nonpos a b
  have hm := Int.tmod_nonneg (a := a) b
  have g0 := ha.1
  have g1 := ha.2
  have g2 := hb.1
  have g3 := hb.2
  rcases Int.lt_trichotomy b 0 with h | h | h
  · have hs := tm_neg a b h
    have h6 : -9223372036854775808 ≤ a.tdiv b * b := by omega
    have h7 : a.tdiv b * b ≤ 9223372036854775807 := by omega
    by_cases he : a.tmod b = 0
    · rw [← fd_neg_same a b h (by omega)]
      exact div_exact a b w ha hb hz' ht h6 h7 (by rw [bne_eq_false_iff_eq]; omega)
    · have hx : (a.tdiv b * b != a) = true := by rw [bne_iff_ne]; omega
      by_cases hm' : a < 0
      · rw [← fd_neg_same a b h (by omega)]
        exact div_same a b w ha hb hz' ht h6 h7 hx ⟨true, by simp; omega, by simp; omega⟩
      · rw [← fd_neg_less a b h (by omega)]
        exact div_less a b w ha hb hz' ht h6 h7 hx ⟨false, by simp; omega, by simp; omega⟩
  · exact absurd h hz
  · have hs := tm_pos a b h
    have h6 : -9223372036854775808 ≤ a.tdiv b * b := by omega
    have h7 : a.tdiv b * b ≤ 9223372036854775807 := by omega
    by_cases he : a.tmod b = 0
    · rw [← fd_pos_same a b h (by omega)]
      exact div_exact a b w ha hb hz' ht h6 h7 (by rw [bne_eq_false_iff_eq]; omega)
    · have hx : (a.tdiv b * b != a) = true := by rw [bne_iff_ne]; omega
      by_cases hm' : a < 0
      · rw [← fd_pos_less a b h (by omega)]
        exact div_less a b w ha hb hz' ht h6 h7 hx ⟨true, by simp; omega, by simp; omega⟩
      · rw [← fd_pos_same a b h (by omega)]
        exact div_same a b w ha hb hz' ht h6 h7 hx ⟨false, by simp; omega, by simp; omega⟩

set_option maxHeartbeats 400000 in
/-- Where Div reports an error, Mod reports the same. -/
theorem mod_err (a b k : Int) (w : World) (hk : (k != 0) = true)
    (hd : Calls Tryd.prog 17 #[.int .i64 a, .int .i64 b] w fun e w' => e = .returned (.tuple #[.int .i64 0, .int .i64 k]) ∧ w = w') :
    Calls Tryd.prog 19 #[.int .i64 a, .int .i64 b] w fun e w' => e = .returned (.tuple #[.int .i64 0, .int .i64 k]) ∧ w = w' := by
  have HD := Lib.hid hd; clear hd
  go_enter Tryd.func19, Tryd.ntmps19
  go_wp2_with (go_at_call 17; ((with_reducible refine HD.out.mono ?_); rintro e w' ⟨rfl, rfl⟩))
  go_ret2
  exact ⟨rfl, rfl⟩
theorem mod_bad (a b : Int) (w : World) (h : bad a ∨ bad b) :
    Calls Tryd.prog 19 #[.int .i64 a, .int .i64 b] w fun e w' => e = .returned (.tuple #[.int .i64 0, .int .i64 1]) ∧ w = w' :=
  mod_err a b 1 w rfl (div_bad a b w h)
theorem mod_zero (a b : Int) (w : World) (ha : good a) (hb : b = 0) :
    Calls Tryd.prog 19 #[.int .i64 a, .int .i64 b] w fun e w' => e = .returned (.tuple #[.int .i64 0, .int .i64 15]) ∧ w = w' :=
  mod_err a b 15 w rfl (div_zero a b w ha hb)

set_option maxHeartbeats 400000 in
theorem mod_good (a b : Int) (w : World) (ha : good a) (hb : good b) (hz : b ≠ 0) :
    Calls Tryd.prog 19 #[.int .i64 a, .int .i64 b] w fun e w' => e = .returned (.tuple #[.int .i64 (a.fmod b), .int .i64 0]) ∧ w = w' := by
  have hd := Lib.hid (div_good a b w ha hb hz)
  have hm := Lib.hid (fm_def a b)
  obtain ⟨h6, h7⟩ := fm_size a b hb hz
  have hp0 : -9223372036854775808 ≤ b * a.fdiv b := by have := hm.out; have := ha.1; omega
  have hp1 : b * a.fdiv b ≤ 9223372036854775807 := by have := hm.out; have := ha.2; omega
  have hp2 : -9223372036854775808 ≤ a - b * a.fdiv b := by have := hm.out; omega
  have hp3 : a - b * a.fdiv b ≤ 9223372036854775807 := by have := hm.out; omega
  obtain ⟨h0, h1⟩ := ha
  clear hb hz
  go_enter Tryd.func19, Tryd.ntmps19
  go_wp2_with (go_at_call 17; ((with_reducible refine hd.out.mono ?_); rintro e w' ⟨rfl, rfl⟩))
  go_ret2
  refine ⟨?_, rfl⟩
  show Ending.returned (.tuple #[.int .i64 (a - b * a.fdiv b), .int .i64 0]) = _
  rw [hm.out]


set_option maxHeartbeats 400000 in
theorem abs_any (n x : Int) (w : World) (h : good n) (hx : (0 ≤ n ∧ x = n) ∨ (n < 0 ∧ x = -n)) :
    Calls Tryd.prog 30 #[.int .i64 n] w fun e w' => e = .returned (.int .i64 x) ∧ w = w' := by
  obtain ⟨h0, h1⟩ := h
  rcases hx with ⟨hn, rfl⟩ | ⟨hn, rfl⟩
  · go_enter Tryd.func30, Tryd.ntmps30
    go_wp2
    go_ret
    exact ⟨rfl, rfl⟩
  · go_enter Tryd.func30, Tryd.ntmps30
    go_wp2
    go_ret
    exact ⟨rfl, rfl⟩


set_option maxHeartbeats 400000 in
theorem mul_zero (a b : Int) (w : World) (ha : a = 0) (hb : good b) :
    Calls Tryd.prog 15 #[.int .i64 a, .int .i64 b] w fun e w' => e = .returned (.tuple #[.int .i64 0, .int .i64 0]) ∧ w = w' := by
  subst ha
  obtain ⟨h0, h1⟩ := hb
  go_enter Tryd.func15, Tryd.ntmps15
  go_wp2_with (go_at_call 24; ((with_reducible refine (valid_yes _ _ ?_ ?_).mono ?_); omega; omega; rintro e w' ⟨rfl, rfl⟩))
  go_ret2
  exact ⟨by simp, rfl⟩

set_option maxHeartbeats 400000 in
theorem mul_over (a b x y : Int) (w : World) (ha : good a) (hb : good b) (hz : (a != 0) = true) (hx : (0 ≤ a ∧ x = a) ∨ (a < 0 ∧ x = -a)) (hy : (0 ≤ b ∧ y = b) ∨ (b < 0 ∧ y = -b)) (h : decide (9007199254740992 / x < y) = true) :
    Calls Tryd.prog 15 #[.int .i64 a, .int .i64 b] w fun e w' => e = .returned (.tuple #[.int .i64 0, .int .i64 5]) ∧ w = w' := by
  have hz2 : ¬ a = 0 := by simpa using hz
  have y1 : 1 ≤ x := by omega
  have y2 : ¬ x = 0 := by omega
  have HA := Lib.hid (abs_any a x · ha hx)
  have HB := Lib.hid (abs_any b y · hb hy)
  obtain ⟨h0, h1⟩ := ha
  obtain ⟨h2, h3⟩ := hb
  clear hx hy
  go_enter Tryd.func15, Tryd.ntmps15
  go_wp2_with (first | (go_at_call 30; ((with_reducible refine (HA.out _).mono ?_); rintro e w' ⟨rfl, rfl⟩)) | (go_at_call 30; ((with_reducible refine (HB.out _).mono ?_); rintro e w' ⟨rfl, rfl⟩)) | (go_at_call 24; ((with_reducible refine (valid_yes _ _ ?_ ?_).mono ?_); omega; omega; rintro e w' ⟨rfl, rfl⟩)))
  go_ret2
  exact ⟨rfl, rfl⟩

set_option maxHeartbeats 400000 in
theorem mul_fits (a b x y : Int) (w : World) (ha : good a) (hb : good b) (hz : (a != 0) = true) (hx : (0 ≤ a ∧ x = a) ∨ (a < 0 ∧ x = -a)) (hy : (0 ≤ b ∧ y = b) ∨ (b < 0 ∧ y = -b)) (h : decide (9007199254740992 / x < y) = false)
    (hp0 : -9007199254740992 ≤ a * b) (hp1 : a * b ≤ 9007199254740992) :
    Calls Tryd.prog 15 #[.int .i64 a, .int .i64 b] w fun e w' => e = .returned (.tuple #[.int .i64 (a * b), .int .i64 0]) ∧ w = w' := by
  have hz2 : ¬ a = 0 := by simpa using hz
  have y1 : 1 ≤ x := by omega
  have y2 : ¬ x = 0 := by omega
  have HA := Lib.hid (abs_any a x · ha hx)
  have HB := Lib.hid (abs_any b y · hb hy)
  obtain ⟨h0, h1⟩ := ha
  obtain ⟨h2, h3⟩ := hb
  clear hx hy
  go_enter Tryd.func15, Tryd.ntmps15
  go_wp2_with (first | (go_at_call 30; ((with_reducible refine (HA.out _).mono ?_); rintro e w' ⟨rfl, rfl⟩)) | (go_at_call 30; ((with_reducible refine (HB.out _).mono ?_); rintro e w' ⟨rfl, rfl⟩)) | (go_at_call 24; ((with_reducible refine (valid_yes _ _ ?_ ?_).mono ?_); omega; omega; rintro e w' ⟨rfl, rfl⟩)))
  go_ret2
  exact ⟨rfl, rfl⟩

theorem mul_good (a b : Int) (w : World) (ha : good a) (hb : good b) (hc : good (a * b)) :
    Calls Tryd.prog 15 #[.int .i64 a, .int .i64 b] w fun e w' => e = .returned (.tuple #[.int .i64 (a * b), .int .i64 0]) ∧ w = w' := by
  by_cases hz : a = 0
  · rw [show a * b = 0 by rw [hz]; simp]
    exact mul_zero a b w hz hb
  · have h := over_iff b a hz
    rw [Int.mul_comm b a] at h
    obtain ⟨h0, h1⟩ := hc
    exact mul_fits a b (abs a) (abs b) w ha hb (by simpa using hz) (abs_is a) (abs_is b) (by rw [decide_eq_false_iff_not]; omega) h0 h1

theorem mul_range (a b : Int) (w : World) (ha : good a) (hb : good b) (hc : bad (a * b)) :
    Calls Tryd.prog 15 #[.int .i64 a, .int .i64 b] w fun e w' => e = .returned (.tuple #[.int .i64 0, .int .i64 5]) ∧ w = w' := by
  have hz : a ≠ 0 := by intro h; subst h; unfold bad at hc; simp at hc
  have h := over_iff b a hz
  rw [Int.mul_comm b a] at h
  exact mul_over a b (abs a) (abs b) w ha hb (by simpa using hz) (abs_is a) (abs_is b) (by rw [decide_eq_true_iff]; exact h.2 hc)

end Go.Proofs.YtapnnoedlkoilaaDoor.refnum
