/- The statements' function awake returns true: the examples of the chapter. -/
import Derived.Test.YtapnnoedlkoilaaDoorDiv
namespace Go.Proofs.YtapnnoedlkoilaaDoor.num
open Go.RowKit

theorem add_ex (w : World) : Calls Tryd.prog 10 #[.int .i64 9007199254740992, .int .i64 1] w fun e w' => e = .returned (.tuple #[.int .i64 0, .int .i64 5]) ∧ w = w' :=
  add_range 9007199254740992 1 w (by unfold good; omega) (by unfold good; omega) (by unfold bad; omega)
theorem div_ex (w : World) : Calls Tryd.prog 16 #[.int .i64 (-7), .int .i64 2] w fun e w' => e = .returned (.tuple #[.int .i64 (-4), .int .i64 0]) ∧ Q w w' :=
  div_good (-7) 2 w (by unfold good; omega) (by unfold good; omega) (by omega)
theorem mod_ex1 (w : World) : Calls Tryd.prog 18 #[.int .i64 (-7), .int .i64 2] w fun e w' => e = .returned (.tuple #[.int .i64 1, .int .i64 0]) ∧ Q w w' :=
  mod_good (-7) 2 w (by unfold good; omega) (by unfold good; omega) (by omega)
theorem mod_ex2 (w : World) : Calls Tryd.prog 18 #[.int .i64 7, .int .i64 (-2)] w fun e w' => e = .returned (.tuple #[.int .i64 (-1), .int .i64 0]) ∧ Q w w' :=
  mod_good 7 (-2) w (by unfold good; omega) (by unfold good; omega) (by omega)
theorem valid_ex1 (w : World) : Calls Tryd.prog 23 #[.int .i64 9007199254740992] w fun e w' => e = .returned (.bool true) ∧ w = w' := valid_yes _ w (by omega) (by omega)
theorem valid_ex2 (w : World) : Calls Tryd.prog 23 #[.int .i64 9007199254740993] w fun e w' => e = .returned (.bool false) ∧ w = w' := valid_no _ w (by unfold bad; omega)

set_option maxHeartbeats 1000000 in
theorem awake_true (w : World) (ht : Tab w) : Calls Tryd.prog 20 #[] w fun e w' => e = .returned (.bool true) ∧ Q w w' := by
  have HT := Lib.hid ht; clear ht
  go_enter Tryd.func20, Tryd.ntmps20
  go_wp2_with fail
  refine (parse_007 _).mono ?_; rintro e w' ⟨rfl, rfl⟩
  go_wp2_with fail
  refine (add_ex _).mono ?_; rintro e w' ⟨rfl, rfl⟩
  go_wp2_with fail
  refine (div_ex _).mono ?_; rintro e w1 ⟨rfl, q1⟩
  go_wp2_with fail
  refine (mod_ex1 _).mono ?_; rintro e w2 ⟨rfl, q2⟩
  go_wp2_with fail
  refine (mod_ex2 _).mono ?_; rintro e w3 ⟨rfl, q3⟩
  go_wp2_with fail
  refine (valid_ex1 _).mono ?_; rintro e w4 ⟨rfl, rfl⟩
  go_wp2_with fail
  refine (valid_ex2 _).mono ?_; rintro e w4 ⟨rfl, rfl⟩
  go_wp2_with fail
  refine (format_m120 _ (q3.tab (q2.tab (q1.tab HT.out)))).mono ?_; rintro e w4 ⟨rfl, q4⟩
  go_wp2_with fail
  go_ret
  exact ⟨rfl, ((q1.trans q2).trans q3).trans q4⟩

end Go.Proofs.YtapnnoedlkoilaaDoor.num
