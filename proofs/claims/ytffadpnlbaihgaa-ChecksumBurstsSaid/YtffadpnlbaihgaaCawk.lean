/- The statements' function awake returns true: the examples of the chapter. -/
import Derived.Test.YtffadpnlbaihgaaCver
namespace Go.Proofs.Ytffadpnlbaihgaa.crc
open Go.RowKit

theorem append_ex (w : World) : Calls Try.prog 13 #[.string ⟨#[97]⟩] w fun e w' => e = .returned (.string ⟨#[97, 67, 190, 183, 232]⟩) ∧ Q w w' := by
  have h := append_any ⟨#[97]⟩ w (by decide)
  rw [show (⟨#[97]⟩ : ByteArray) ++ mark ⟨#[97]⟩ = ⟨#[97, 67, 190, 183, 232]⟩ by decide +kernel] at h
  exact h
theorem append_ex0 (w : World) : Calls Try.prog 13 #[.string ⟨#[]⟩] w fun e w' => e = .returned (.string ⟨#[0, 0, 0, 0]⟩) ∧ Q w w' := by
  have h := append_any ⟨#[]⟩ w (by decide)
  rw [show (⟨#[]⟩ : ByteArray) ++ mark ⟨#[]⟩ = ⟨#[0, 0, 0, 0]⟩ by decide +kernel] at h
  exact h
theorem verify_ex (w : World) : Calls Try.prog 14 #[.string ⟨#[97, 67, 190, 183, 232]⟩] w fun e w' => e = .returned (.tuple #[.string ⟨#[97]⟩, .int .i64 0]) ∧ Q w w' := by
  have h := verify_any ⟨#[97, 67, 190, 183, 232]⟩ w (by decide)
  rw [show opened ⟨#[97, 67, 190, 183, 232]⟩ = ⟨#[97]⟩ by decide +kernel, show opens ⟨#[97, 67, 190, 183, 232]⟩ = 0 by decide +kernel] at h
  exact h
theorem verify_ex3 (w : World) : Calls Try.prog 14 #[.string ⟨#[97, 98, 99]⟩] w fun e w' => e = .returned (.tuple #[.string ⟨#[]⟩, .int .i64 40]) ∧ Q w w' :=
  verify_short _ w (by decide)
theorem sum_ex (w : World) : Calls Try.prog 9 #[.string ⟨#[97]⟩] w fun e w' => e = .returned (.int .u32 3904355907) ∧ w = w' := by
  have h := sum_any ⟨#[97]⟩ w (by decide)
  rw [show sum (⟨#[97]⟩ : ByteArray).data.toList = 3904355907 by decide +kernel] at h
  exact h
theorem sum_ex9 (w : World) : Calls Try.prog 9 #[.string ⟨#[49, 50, 51, 52, 53, 54, 55, 56, 57]⟩] w fun e w' => e = .returned (.int .u32 3421780262) ∧ w = w' := by
  have h := sum_any ⟨#[49, 50, 51, 52, 53, 54, 55, 56, 57]⟩ w (by decide)
  rw [show sum (⟨#[49, 50, 51, 52, 53, 54, 55, 56, 57]⟩ : ByteArray).data.toList = 3421780262 by decide +kernel] at h
  exact h

set_option maxRecDepth 100000 in
set_option maxHeartbeats 2000000 in
theorem awake_true (w : World) : Calls Try.prog 8 #[] w fun e w' => e = .returned (.bool true) ∧ Q w w' := by
  go_enter Try.func8, Try.ntmps8
  go_wp2_with fail
  refine (append_ex _).mono ?_; rintro e w1 ⟨rfl, q1⟩
  go_wp2_with fail
  refine (verify_ex _).mono ?_; rintro e w2 ⟨rfl, q2⟩
  go_wp2_with fail
  refine (verify_ex3 _).mono ?_; rintro e w3 ⟨rfl, q3⟩
  go_wp2_with fail
  refine (sum_ex9 _).mono ?_; rintro e w' ⟨rfl, rfl⟩
  go_wp2_with fail
  refine (sum_ex _).mono ?_; rintro e w' ⟨rfl, rfl⟩
  go_wp2_with fail
  refine (append_ex0 _).mono ?_; rintro e w4 ⟨rfl, q4⟩
  go_wp2_with fail
  go_ret
  exact ⟨rfl, ((q1.trans q2).trans q3).trans q4⟩

end Go.Proofs.Ytffadpnlbaihgaa.crc
