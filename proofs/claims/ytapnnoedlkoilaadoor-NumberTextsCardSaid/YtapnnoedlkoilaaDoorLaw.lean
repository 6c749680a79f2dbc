/- The law NumberErrors returns true for all integers. -/
import Derived.Test.YtapnnoedlkoilaaDoorAwk
import Derived.Stop.LaidErr
import Derived.Lib.LaidTab
import Derived.Test.YtapnnoedlkoilaaDoorRows
namespace Go.Proofs.YtapnnoedlkoilaaDoor.num
open Go.RowKit

/-- The facts of the walk out of the row's list of tables. -/
theorem tab_of {W : World} (h : laidMetH Tryd.prog Rows.numberErrorsRow.laid W) : Tab W :=
  Lib.tabIs_of_head (rest := []) (g := 0) (t := 46) (e := 40) (n := 20) (by kernel_rfl) (by kernel_rfl) Tryd.underlying46 Tryd.underlying40 (by kernel_rfl) (by kernel_rfl) (laidMet.tail (laidMet.tail h))

set_option maxHeartbeats 1000000 in
theorem errors_bad_a (a b : Int) (w : World) (ht : Tab w) (h : bad a) :
    Calls Tryd.prog 9 #[.int .i64 a, .int .i64 b] w fun e w' => e = .returned (.bool true) ∧ Q w w' := by
  have HT := Lib.hid ht; clear ht
  have HA := Lib.hid h
  have H : Hid (bad a ∨ bad b) := Lib.hid (.inl h)
  clear h
  go_enter Tryd.func9, Tryd.ntmps9
  go_wp2_with fail
  refine (add_bad a b _ H.out).mono ?_; rintro e w' ⟨rfl, rfl⟩
  go_wp2_with fail
  refine (sub_bad a b _ H.out).mono ?_; rintro e w' ⟨rfl, rfl⟩
  go_wp2_with fail
  refine (mul_bad a b _ H.out).mono ?_; rintro e w' ⟨rfl, rfl⟩
  go_wp2_with fail
  refine (div_bad a b _ H.out).mono ?_; rintro e w' ⟨rfl, rfl⟩
  go_wp2_with fail
  refine (mod_bad a b _ H.out).mono ?_; rintro e w' ⟨rfl, rfl⟩
  go_wp2_with fail
  refine (valid_no a _ HA.out).mono ?_; rintro e w' ⟨rfl, rfl⟩
  go_wp2_with fail
  refine (awake_true _ HT.out).mono ?_; rintro e w1 ⟨rfl, q1⟩
  go_wp2_with fail
  go_ret
  exact ⟨rfl, q1⟩

set_option maxHeartbeats 1000000 in
theorem errors_bad_b (a b : Int) (w : World) (ht : Tab w) (ha : good a) (h : bad b) :
    Calls Tryd.prog 9 #[.int .i64 a, .int .i64 b] w fun e w' => e = .returned (.bool true) ∧ Q w w' := by
  have HT := Lib.hid ht; clear ht
  have HA := Lib.hid ha
  have HB := Lib.hid h
  have H : Hid (bad a ∨ bad b) := Lib.hid (.inr h)
  clear h ha
  go_enter Tryd.func9, Tryd.ntmps9
  go_wp2_with fail
  refine (add_bad a b _ H.out).mono ?_; rintro e w' ⟨rfl, rfl⟩
  go_wp2_with fail
  refine (sub_bad a b _ H.out).mono ?_; rintro e w' ⟨rfl, rfl⟩
  go_wp2_with fail
  refine (mul_bad a b _ H.out).mono ?_; rintro e w' ⟨rfl, rfl⟩
  go_wp2_with fail
  refine (div_bad a b _ H.out).mono ?_; rintro e w' ⟨rfl, rfl⟩
  go_wp2_with fail
  refine (mod_bad a b _ H.out).mono ?_; rintro e w' ⟨rfl, rfl⟩
  go_wp2_with fail
  refine (valid_yes a _ HA.out.1 HA.out.2).mono ?_; rintro e w' ⟨rfl, rfl⟩
  go_wp2_with fail
  refine (valid_no b _ HB.out).mono ?_; rintro e w' ⟨rfl, rfl⟩
  go_wp2_with fail
  refine (awake_true _ HT.out).mono ?_; rintro e w1 ⟨rfl, q1⟩
  go_wp2_with fail
  go_ret
  exact ⟨rfl, q1⟩

theorem add_nil (a : Int) (w : World) (ha : good a) : Calls Tryd.prog 10 #[.int .i64 a, .int .i64 0] w fun e w' => e = .returned (.tuple #[.int .i64 a, .int .i64 0]) ∧ w = w' := by
  have h := add_good a 0 w ha (by unfold good; omega) (by simpa using ha)
  simpa using h
theorem sub_nil (a : Int) (w : World) (ha : good a) : Calls Tryd.prog 12 #[.int .i64 a, .int .i64 0] w fun e w' => e = .returned (.tuple #[.int .i64 a, .int .i64 0]) ∧ w = w' := by
  have h := sub_good a 0 w ha (by unfold good; omega) (by simpa using ha)
  simpa using h

set_option maxHeartbeats 1000000 in
theorem errors_zero (a : Int) (w : World) (ht : Tab w) (ha : good a) :
    Calls Tryd.prog 9 #[.int .i64 a, .int .i64 0] w fun e w' => e = .returned (.bool true) ∧ Q w w' := by
  have HT := Lib.hid ht; clear ht
  have HA := Lib.hid ha
  clear ha
  go_enter Tryd.func9, Tryd.ntmps9
  go_wp2_with fail
  refine (add_nil a _ HA.out).mono ?_; rintro e w' ⟨rfl, rfl⟩
  go_wp2_with fail
  refine (sub_nil a _ HA.out).mono ?_; rintro e w' ⟨rfl, rfl⟩
  go_wp2_with fail
  refine (mul_zero a 0 _ HA.out rfl).mono ?_; rintro e w' ⟨rfl, rfl⟩
  go_wp2_with fail
  refine (div_zero a 0 _ HA.out rfl).mono ?_; rintro e w' ⟨rfl, rfl⟩
  go_wp2_with fail
  refine (mod_zero a 0 _ HA.out rfl).mono ?_; rintro e w' ⟨rfl, rfl⟩
  go_wp2_with fail
  refine (valid_yes a _ HA.out.1 HA.out.2).mono ?_; rintro e w' ⟨rfl, rfl⟩
  go_wp2_with fail
  refine (valid_yes 0 _ (by omega) (by omega)).mono ?_; rintro e w' ⟨rfl, rfl⟩
  go_wp2_with fail
  refine (awake_true _ HT.out).mono ?_; rintro e w1 ⟨rfl, q1⟩
  go_wp2_with fail
  go_ret
  exact ⟨rfl, q1⟩

/-- What an operation of two valid numbers returns: the result, or nothing and an error. -/
def res (c : Int) : Int := if -9007199254740992 ≤ c ∧ c ≤ 9007199254740992 then c else 0
def err (c : Int) : Int := if -9007199254740992 ≤ c ∧ c ≤ 9007199254740992 then 0 else 5
theorem res_cases (c : Int) : (good c ∧ res c = c ∧ err c = 0) ∨ (bad c ∧ res c = 0 ∧ err c = 5) := by
  unfold res err good bad
  by_cases h : -9007199254740992 ≤ c ∧ c ≤ 9007199254740992
  · exact .inl ⟨h, if_pos h, if_pos h⟩
  · exact .inr ⟨by omega, if_neg h, if_neg h⟩

theorem add_res (a b : Int) (w : World) (ha : good a) (hb : good b) : Calls Tryd.prog 10 #[.int .i64 a, .int .i64 b] w fun e w' => e = .returned (.tuple #[.int .i64 (res (a + b)), .int .i64 (err (a + b))]) ∧ w = w' := by
  rcases res_cases (a + b) with ⟨h, h1, h2⟩ | ⟨h, h1, h2⟩
  · rw [h1, h2]; exact add_good a b w ha hb h
  · rw [h1, h2]; exact add_range a b w ha hb h
theorem sub_res (a b : Int) (w : World) (ha : good a) (hb : good b) : Calls Tryd.prog 12 #[.int .i64 a, .int .i64 b] w fun e w' => e = .returned (.tuple #[.int .i64 (res (a - b)), .int .i64 (err (a - b))]) ∧ w = w' := by
  rcases res_cases (a - b) with ⟨h, h1, h2⟩ | ⟨h, h1, h2⟩
  · rw [h1, h2]; exact sub_good a b w ha hb h
  · rw [h1, h2]; exact sub_range a b w ha hb h
theorem mul_res (a b : Int) (w : World) (ha : good a) (hb : good b) : Calls Tryd.prog 14 #[.int .i64 a, .int .i64 b] w fun e w' => e = .returned (.tuple #[.int .i64 (res (a * b)), .int .i64 (err (a * b))]) ∧ w = w' := by
  rcases res_cases (a * b) with ⟨h, h1, h2⟩ | ⟨h, h1, h2⟩
  · rw [h1, h2]; exact mul_good a b w ha hb h
  · rw [h1, h2]; exact mul_range a b w ha hb h

set_option maxHeartbeats 2000000 in
theorem errors_core (a b x1 y1 x2 y2 x3 y3 : Int) (w : World) (ht : Tab w) (ha : good a) (hb : good b) (hz : (b == 0) = false)
    (h1 : ∀ w, Calls Tryd.prog 10 #[.int .i64 a, .int .i64 b] w fun e w' => e = .returned (.tuple #[.int .i64 x1, .int .i64 y1]) ∧ w = w')
    (h2 : ∀ w, Calls Tryd.prog 12 #[.int .i64 a, .int .i64 b] w fun e w' => e = .returned (.tuple #[.int .i64 x2, .int .i64 y2]) ∧ w = w')
    (h3 : ∀ w, Calls Tryd.prog 14 #[.int .i64 a, .int .i64 b] w fun e w' => e = .returned (.tuple #[.int .i64 x3, .int .i64 y3]) ∧ w = w')
    (k1 : y1 = 0 ∨ (x1 = 0 ∧ y1 = 5)) (k2 : y2 = 0 ∨ (x2 = 0 ∧ y2 = 5)) (k3 : y3 = 0 ∨ (x3 = 0 ∧ y3 = 5)) :
    Calls Tryd.prog 9 #[.int .i64 a, .int .i64 b] w fun e w' => e = .returned (.bool true) ∧ Q w w' := by
  have HT := Lib.hid ht
  have HA := Lib.hid ha
  have HB := Lib.hid hb
  have H1 := Lib.hid h1
  have H2 := Lib.hid h2
  have H3 := Lib.hid h3
  have HD := Lib.hid (div_good a b · ha hb (by simpa using hz))
  have HM := Lib.hid (mod_good a b · ha hb (by simpa using hz))
  clear ht ha hb h1 h2 h3
  rcases k1 with rfl | ⟨rfl, rfl⟩ <;> rcases k2 with rfl | ⟨rfl, rfl⟩ <;> rcases k3 with rfl | ⟨rfl, rfl⟩
  all_goals
    go_enter Tryd.func9, Tryd.ntmps9
    go_wp2_with fail
    refine (H1.out _).mono ?_; rintro e w' ⟨rfl, rfl⟩
    go_wp2_with fail
    refine (H2.out _).mono ?_; rintro e w' ⟨rfl, rfl⟩
    go_wp2_with fail
    refine (H3.out _).mono ?_; rintro e w' ⟨rfl, rfl⟩
    go_wp2_with fail
    refine (HD.out _).mono ?_; rintro e w1 ⟨rfl, q1⟩
    go_wp2_with fail
    refine (HM.out _).mono ?_; rintro e w2 ⟨rfl, q2⟩
    go_wp2_with fail
    refine (valid_yes a _ HA.out.1 HA.out.2).mono ?_; rintro e w' ⟨rfl, rfl⟩
    go_wp2_with fail
    refine (valid_yes b _ HB.out.1 HB.out.2).mono ?_; rintro e w' ⟨rfl, rfl⟩
    go_wp2_with fail
    refine (awake_true _ (q2.tab (q1.tab HT.out))).mono ?_; rintro e w3 ⟨rfl, q3⟩
    go_wp2_with fail
    go_ret
    exact ⟨rfl, (q1.trans q2).trans q3⟩

theorem res_err (c : Int) : err c = 0 ∨ (res c = 0 ∧ err c = 5) := by rcases res_cases c with ⟨_, _, h⟩ | ⟨_, h⟩ <;> first | exact .inl h | exact .inr h
theorem errors_any (a b : Int) (w : World) (ht : Tab w) : Calls Tryd.prog 9 #[.int .i64 a, .int .i64 b] w fun e w' => e = .returned (.bool true) ∧ Q w w' := by
  by_cases ha : bad a
  · exact errors_bad_a a b w ht ha
  · by_cases hb : bad b
    · exact errors_bad_b a b w ht (not_bad ha) hb
    · by_cases hz : b = 0
      · subst hz; exact errors_zero a w ht (not_bad ha)
      · exact errors_core a b _ _ _ _ _ _ w ht (not_bad ha) (not_bad hb) (by simpa using hz) (add_res a b · (not_bad ha) (not_bad hb)) (sub_res a b · (not_bad ha) (not_bad hb)) (mul_res a b · (not_bad ha) (not_bad hb)) (res_err _) (res_err _) (res_err _)
theorem errors_walk (a b : Int) (w : World) (_ : -9223372036854775808 ≤ a ∧ a ≤ 9223372036854775807) (_ : -9223372036854775808 ≤ b ∧ b ≤ 9223372036854775807) (ht : Tab w) :
    Calls Tryd.prog 9 #[.int .i64 a, .int .i64 b] w fun e w' => e = .returned (.bool true) ∧ Below w.heap.size w w' := errors_any a b w ht

end Go.Proofs.YtapnnoedlkoilaaDoor.num
