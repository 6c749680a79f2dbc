/- The statements' function awake returns true: the example of the chapter. -/
import Derived.Test.YtnbloidiojedoaaWn
import Derived.Test.YtnbloidiojedoaaWa
namespace Go.Proofs.Ytnbloidiojedoaa.wir
open Go.RowKit

theorem enc_ex : encN (-3) = ⟨#[5]⟩ := by
  unfold encN
  rw [show zig (-3) = 5 by decide, encU_small 5 (by decide)]
  rfl
theorem enc_ex1 : encS ⟨#[97]⟩ = ⟨#[2, 97]⟩ := by
  unfold encS encN
  rw [show zig (((⟨#[97]⟩ : ByteArray).size : Nat) : Int) = 2 by decide, encU_small 2 (by decide)]
  decide +kernel
theorem num_ex : nxN ⟨#[5, 2, 97]⟩ 0 = (-3, ⟨#[2, 97]⟩, 0) := by decide +kernel
theorem str_ex : nxS ⟨#[2, 97]⟩ 0 = (⟨#[97]⟩, ⟨#[]⟩, 0) := by decide +kernel
theorem end_ex : nxN ⟨#[]⟩ 0 = (0, ⟨#[]⟩, 40) := by decide +kernel

set_option maxRecDepth 100000 in
set_option maxHeartbeats 2000000 in
theorem awake_true (w : World) : Calls Try.prog 10 #[] w fun e w' => e = .returned (.bool true) ∧ Q w w' := by
  have cA : Hid (∀ w, Calls Try.prog 11 #[.string ⟨#[]⟩, .int .i64 (-3)] w fun e w' => e = .returned (.string ⟨#[5]⟩) ∧ Q w w') := fun w => by
    have h := appendNumber_any ⟨#[]⟩ (-3) w (by decide) (by decide)
    rw [enc_ex] at h
    exact h
  have cB : Hid (∀ w, Calls Try.prog 13 #[.string ⟨#[5]⟩, .string ⟨#[97]⟩] w fun e w' => e = .returned (.string ⟨#[5, 2, 97]⟩) ∧ Q w w') := fun w => by
    have h := appendString_any ⟨#[5]⟩ ⟨#[97]⟩ w (by decide) (by decide)
    rw [enc_ex1] at h
    exact h
  have cN : Hid (∀ p w, Rd p ⟨#[5, 2, 97]⟩ 0 true w → Calls Try.prog 18 #[ptr p] w fun r w' => r = .returned (.int .i64 (-3)) ∧ Hid (After p ⟨#[2, 97]⟩ 0 w w')) := fun p w h => by
    have h := number_any p _ _ w h (by decide)
    rw [num_ex] at h
    exact h
  have cS : Hid (∀ p w, Rd p ⟨#[2, 97]⟩ 0 true w → Calls Try.prog 20 #[ptr p] w fun r w' => r = .returned (.string ⟨#[97]⟩) ∧ Hid (After p ⟨#[]⟩ 0 w w')) := fun p w h => by
    have h := string_any p _ _ w h (by decide)
    rw [str_ex] at h
    exact h
  have cE : Hid (∀ p w, Rd p ⟨#[]⟩ 0 true w → Calls Try.prog 18 #[ptr p] w fun r w' => r = .returned (.int .i64 0) ∧ Hid (After p ⟨#[]⟩ 40 w w')) := fun p w h => by
    have h := number_any p _ _ w h (by decide)
    rw [end_ex] at h
    exact h
  have cL : Hid (∀ p s e m w, Rd p s e m w → Calls Try.prog 23 #[ptr p] w fun r w' => r = .returned (.int .i64 (s.size : Int)) ∧ w = w') := fun p s e m w h => left_any p s e m w h
  have cR : Hid (∀ p s e w, Rd p s e true w → Calls Try.prog 25 #[ptr p] w fun r w' => r = .returned (.int .i64 e) ∧ w = w') := fun p s e w h => err_any p s e w h
  unfold ptr at *
  go_enter Try.func10, Try.ntmps10
  go_wp2_with fail
  refine (cA.out _).mono ?_; rintro e w1 ⟨rfl, q1⟩
  go_wp2_with fail
  refine (cB.out _).mono ?_; rintro e w2 ⟨rfl, q2⟩
  have Q2 := Lib.hid (q1.trans q2)
  clear q1 q2
  go_wp2_with fail
  refine (newReader_any _ _).mono ?_; rintro e w3 ⟨rfl, r3, q3⟩
  have h2 := Q2.out.size
  have H3 := Lib.hid (And.intro r3 (Q2.out.trans q3))
  clear r3 q3 Q2
  unfold ptr
  go_wp2_with fail
  refine (cN.out _ _ H3.out.1).mono ?_; rintro e w4 ⟨rfl, h4⟩
  have H4 := Lib.hid (And.intro h4.out.1 (H3.out.2.thenM h4.out.2 h2))
  clear h4 H3
  go_wp2_with fail
  refine (cS.out _ _ H4.out.1).mono ?_; rintro e w5 ⟨rfl, h5⟩
  have H5 := Lib.hid (And.intro h5.out.1 (H4.out.2.thenM h5.out.2 h2))
  clear h5 H4
  go_wp2_with fail
  refine (cL.out _ _ _ _ _ H5.out.1).mono ?_; rintro e w' ⟨rfl, rfl⟩
  go_wp2_with fail
  refine (cR.out _ _ _ _ H5.out.1).mono ?_; rintro e w' ⟨rfl, rfl⟩
  go_wp2_with fail
  refine (cE.out _ _ H5.out.1).mono ?_; rintro e w6 ⟨rfl, h6⟩
  have H6 := Lib.hid (And.intro h6.out.1 (H5.out.2.thenM h6.out.2 h2))
  clear h6 H5
  go_wp2_with fail
  refine (cR.out _ _ _ _ H6.out.1).mono ?_; rintro e w' ⟨rfl, rfl⟩
  go_wp2_with fail
  go_ret
  exact ⟨rfl, H6.out.2⟩

end Go.Proofs.Ytnbloidiojedoaa.wir
