/- The statements' function awake returns true: the examples of the chapter. -/
import Derived.Test.YtnhnondljackmaaDoorLlen
namespace Go.Proofs.YtnhnondljackmaaDoor.lit
open Go.RowKit

theorem unq_ex1 : unq [34, 97, 34, 32, 98] = ([97], 3, 0) := unq_quote [97] [32, 98] (by decide +kernel) (by decide)
theorem unq_ex2 : unq [34, 92, 117, 123, 48, 52, 49, 125, 34] = ([], 0, 2) := by
  unfold unq
  rw [if_neg (by decide), if_neg (by decide)]
  exact unqGo_bad [92, 117, 123, 48, 52, 49, 125, 34] 1 [] (by decide) (by decide) (by decide)
theorem unq_ex3 : unq [34, 92, 117, 123, 52] = ([], 0, 40) := by
  unfold unq
  rw [if_neg (by decide), if_neg (by decide)]
  exact unqGo_bad [92, 117, 123, 52] 1 [] (by decide) (by decide) (by decide)

theorem unquote_ex1 (w : World) (f : Fx w) : Calls Tryd.prog 18 #[.string ⟨#[34, 97, 34, 32, 98]⟩] w fun e w' => e = .returned (.tuple #[.string ⟨#[97]⟩, .int .i64 3, .int .i64 0]) ∧ Q w w' := by
  have h := unquote_any ⟨#[34, 97, 34, 32, 98]⟩ w f (by decide)
  rw [unq_ex1] at h
  exact h
theorem unquote_ex2 (w : World) (f : Fx w) : Calls Tryd.prog 18 #[.string ⟨#[34, 92, 117, 123, 48, 52, 49, 125, 34]⟩] w fun e w' => e = .returned (.tuple #[.string ⟨#[]⟩, .int .i64 0, .int .i64 2]) ∧ Q w w' := by
  have h := unquote_any ⟨#[34, 92, 117, 123, 48, 52, 49, 125, 34]⟩ w f (by decide)
  rw [unq_ex2] at h
  exact h
theorem unquote_ex3 (w : World) (f : Fx w) : Calls Tryd.prog 18 #[.string ⟨#[34, 92, 117, 123, 52]⟩] w fun e w' => e = .returned (.tuple #[.string ⟨#[]⟩, .int .i64 0, .int .i64 40]) ∧ Q w w' := by
  have h := unquote_any ⟨#[34, 92, 117, 123, 52]⟩ w f (by decide)
  rw [unq_ex3] at h
  exact h
theorem quote_ex (w : World) (f : Fx w) : Calls Tryd.prog 12 #[.string ⟨#[97, 10, 1]⟩] w fun e w' => e = .returned (.string ⟨#[34, 97, 92, 110, 92, 117, 123, 49, 125, 34]⟩) ∧ Q w w' :=
  quote_any ⟨#[97, 10, 1]⟩ w f (by decide)
theorem escape_ex (w : World) (f : Fx w) : Calls Tryd.prog 14 #[.string ⟨#[97, 36, 123, 98]⟩] w fun e w' => e = .returned (.string ⟨#[97, 36, 36, 123, 98]⟩) ∧ Q w w' :=
  escape_text ⟨#[97, 36, 123, 98]⟩ w f (by decide)
theorem length_ex (w : World) : Calls Tryd.prog 16 #[.string ⟨#[195, 169]⟩] w fun e w' => e = .returned (.int .i64 1) ∧ Q w w' := by
  have h := length_any ⟨#[195, 169]⟩ w (by decide)
  rw [show lenL (⟨#[195, 169]⟩ : ByteArray).data.toList = 1 by decide +kernel] at h
  exact h
theorem valid_ex1 (w : World) (f : Fx w) : Calls Tryd.prog 10 #[.string ⟨#[195]⟩] w fun e w' => e = .returned (.bool false) ∧ Q w w' := by
  have h := valid_any ⟨#[195]⟩ w f (by decide)
  rw [show okL (⟨#[195]⟩ : ByteArray).data.toList = false by decide +kernel] at h
  exact h
theorem valid_ex2 (w : World) (f : Fx w) : Calls Tryd.prog 10 #[.string ⟨#[195, 169]⟩] w fun e w' => e = .returned (.bool true) ∧ Q w w' := by
  have h := valid_any ⟨#[195, 169]⟩ w f (by decide)
  rw [show okL (⟨#[195, 169]⟩ : ByteArray).data.toList = true by decide +kernel] at h
  exact h

set_option maxHeartbeats 2000000 in
theorem awake_true (w : World) (f : Fx w) : Calls Tryd.prog 9 #[] w fun e w' => e = .returned (.bool true) ∧ Q w w' := by
  have F := Lib.hid f; clear f
  go_enter Tryd.func9, Tryd.ntmps9
  go_wp2_with fail
  refine (unquote_ex1 _ F.out).mono ?_; rintro e w1 ⟨rfl, q1⟩
  have F1 := Lib.hid (Q.fx q1 F.out)
  go_wp2_with fail
  refine (unquote_ex2 _ F1.out).mono ?_; rintro e w2 ⟨rfl, q2⟩
  have F2 := Lib.hid (Q.fx q2 F1.out)
  go_wp2_with fail
  refine (unquote_ex3 _ F2.out).mono ?_; rintro e w3 ⟨rfl, q3⟩
  have F3 := Lib.hid (Q.fx q3 F2.out)
  go_wp2_with fail
  refine (quote_ex _ F3.out).mono ?_; rintro e w4 ⟨rfl, q4⟩
  have F4 := Lib.hid (Q.fx q4 F3.out)
  go_wp2_with fail
  refine (escape_ex _ F4.out).mono ?_; rintro e w5 ⟨rfl, q5⟩
  have F5 := Lib.hid (Q.fx q5 F4.out)
  go_wp2_with fail
  refine (length_ex _).mono ?_; rintro e w6 ⟨rfl, q6⟩
  have F6 := Lib.hid (Q.fx q6 F5.out)
  go_wp2_with fail
  refine (valid_ex1 _ F6.out).mono ?_; rintro e w7 ⟨rfl, q7⟩
  have F7 := Lib.hid (Q.fx q7 F6.out)
  go_wp2_with fail
  refine (valid_ex2 _ F7.out).mono ?_; rintro e w8 ⟨rfl, q8⟩
  go_wp2_with fail
  go_ret
  exact ⟨rfl, ((((((q1.trans q2).trans q3).trans q4).trans q5).trans q6).trans q7).trans q8⟩

end Go.Proofs.YtnhnondljackmaaDoor.lit
