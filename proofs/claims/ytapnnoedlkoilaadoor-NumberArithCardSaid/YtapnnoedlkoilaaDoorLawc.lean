/- The law NumberArith returns true for all integers. -/
import Derived.Test.YtapnnoedlkoilaaDoorRef
import Derived.Test.YtapnnoedlkoilaaDoorLaw
namespace Go.Proofs.YtapnnoedlkoilaaDoor.num
open Go.RowKit

set_option maxHeartbeats 2000000 in
theorem arith_core (a b x1 e1 x2 e2 x3 e3 x4 e4 x5 e5 : Int) (w : World) (ht : Tab w)
    (h1 : ∀ w, Calls Tryd.prog 10 #[.int .i64 a, .int .i64 b] w fun x w' => x = .returned (.tuple #[.int .i64 x1, .int .i64 e1]) ∧ w = w')
    (r1 : ∀ w, Calls Tryd.prog 11 #[.int .i64 a, .int .i64 b] w fun x w' => x = .returned (.tuple #[.int .i64 x1, .int .i64 e1]) ∧ w = w')
    (h2 : ∀ w, Calls Tryd.prog 12 #[.int .i64 a, .int .i64 b] w fun x w' => x = .returned (.tuple #[.int .i64 x2, .int .i64 e2]) ∧ w = w')
    (r2 : ∀ w, Calls Tryd.prog 13 #[.int .i64 a, .int .i64 b] w fun x w' => x = .returned (.tuple #[.int .i64 x2, .int .i64 e2]) ∧ w = w')
    (h3 : ∀ w, Calls Tryd.prog 14 #[.int .i64 a, .int .i64 b] w fun x w' => x = .returned (.tuple #[.int .i64 x3, .int .i64 e3]) ∧ w = w')
    (r3 : ∀ w, Calls Tryd.prog 15 #[.int .i64 a, .int .i64 b] w fun x w' => x = .returned (.tuple #[.int .i64 x3, .int .i64 e3]) ∧ w = w')
    (h4 : ∀ w, Calls Tryd.prog 16 #[.int .i64 a, .int .i64 b] w fun x w' => x = .returned (.tuple #[.int .i64 x4, .int .i64 e4]) ∧ Q w w')
    (r4 : ∀ w, Calls Tryd.prog 17 #[.int .i64 a, .int .i64 b] w fun x w' => x = .returned (.tuple #[.int .i64 x4, .int .i64 e4]) ∧ w = w')
    (h5 : ∀ w, Calls Tryd.prog 18 #[.int .i64 a, .int .i64 b] w fun x w' => x = .returned (.tuple #[.int .i64 x5, .int .i64 e5]) ∧ Q w w')
    (r5 : ∀ w, Calls Tryd.prog 19 #[.int .i64 a, .int .i64 b] w fun x w' => x = .returned (.tuple #[.int .i64 x5, .int .i64 e5]) ∧ w = w') :
    Calls Tryd.prog 3 #[.int .i64 a, .int .i64 b] w fun e w' => e = .returned (.bool true) ∧ Q w w' := by
  have HT := Lib.hid ht
  have H1 := Lib.hid h1
  have R1 := Lib.hid r1
  have H2 := Lib.hid h2
  have R2 := Lib.hid r2
  have H3 := Lib.hid h3
  have R3 := Lib.hid r3
  have H4 := Lib.hid h4
  have R4 := Lib.hid r4
  have H5 := Lib.hid h5
  have R5 := Lib.hid r5
  clear ht h1 r1 h2 r2 h3 r3 h4 r4 h5 r5
  go_enter Tryd.func3, Tryd.ntmps3
  go_wp2_with fail
  refine (H1.out _).mono ?_; rintro e w' ⟨rfl, rfl⟩
  go_wp2_with fail
  refine (R1.out _).mono ?_; rintro e w' ⟨rfl, rfl⟩
  go_wp2_with fail
  refine (H2.out _).mono ?_; rintro e w' ⟨rfl, rfl⟩
  go_wp2_with fail
  refine (R2.out _).mono ?_; rintro e w' ⟨rfl, rfl⟩
  go_wp2_with fail
  refine (H3.out _).mono ?_; rintro e w' ⟨rfl, rfl⟩
  go_wp2_with fail
  refine (R3.out _).mono ?_; rintro e w' ⟨rfl, rfl⟩
  go_wp2_with fail
  refine (H4.out _).mono ?_; rintro e w4 ⟨rfl, q4⟩
  go_wp2_with fail
  refine (R4.out _).mono ?_; rintro e w' ⟨rfl, rfl⟩
  go_wp2_with fail
  refine (H5.out _).mono ?_; rintro e w5 ⟨rfl, q5⟩
  go_wp2_with fail
  refine (R5.out _).mono ?_; rintro e w' ⟨rfl, rfl⟩
  go_wp2_with fail
  refine (awake_true _ (q5.tab (q4.tab HT.out))).mono ?_; rintro e w6 ⟨rfl, q6⟩
  go_wp2_with fail
  go_ret
  exact ⟨rfl, (q4.trans q5).trans q6⟩

theorem to_q {f : Nat} {args : Array Value} {w : World} {v : Value} (h : Calls Tryd.prog f args w fun e w' => e = .returned v ∧ w = w') : Calls Tryd.prog f args w fun e w' => e = .returned v ∧ Q w w' :=
  h.mono fun _ _ ⟨he, hw⟩ => ⟨he, hw ▸ Q.refl w⟩

theorem radd_res (a b : Int) (w : World) (ha : good a) (hb : good b) : Calls Tryd.prog 11 #[.int .i64 a, .int .i64 b] w fun e w' => e = .returned (.tuple #[.int .i64 (res (a + b)), .int .i64 (err (a + b))]) ∧ w = w' := by
  rcases res_cases (a + b) with ⟨h, h1, h2⟩ | ⟨h, h1, h2⟩
  · rw [h1, h2]; exact refnum.add_good a b w ha hb h
  · rw [h1, h2]; exact refnum.add_range a b w ha hb h
theorem rsub_res (a b : Int) (w : World) (ha : good a) (hb : good b) : Calls Tryd.prog 13 #[.int .i64 a, .int .i64 b] w fun e w' => e = .returned (.tuple #[.int .i64 (res (a - b)), .int .i64 (err (a - b))]) ∧ w = w' := by
  rcases res_cases (a - b) with ⟨h, h1, h2⟩ | ⟨h, h1, h2⟩
  · rw [h1, h2]; exact refnum.sub_good a b w ha hb h
  · rw [h1, h2]; exact refnum.sub_range a b w ha hb h
theorem rmul_res (a b : Int) (w : World) (ha : good a) (hb : good b) : Calls Tryd.prog 15 #[.int .i64 a, .int .i64 b] w fun e w' => e = .returned (.tuple #[.int .i64 (res (a * b)), .int .i64 (err (a * b))]) ∧ w = w' := by
  rcases res_cases (a * b) with ⟨h, h1, h2⟩ | ⟨h, h1, h2⟩
  · rw [h1, h2]; exact refnum.mul_good a b w ha hb h
  · rw [h1, h2]; exact refnum.mul_range a b w ha hb h

theorem arith_any (a b : Int) (w : World) (ht : Tab w) : Calls Tryd.prog 3 #[.int .i64 a, .int .i64 b] w fun e w' => e = .returned (.bool true) ∧ Q w w' := by
  by_cases h : bad a ∨ bad b
  · exact arith_core a b _ _ _ _ _ _ _ _ _ _ w ht (add_bad a b · h) (refnum.add_bad a b · h) (sub_bad a b · h) (refnum.sub_bad a b · h) (mul_bad a b · h) (refnum.mul_bad a b · h) (fun w => to_q (div_bad a b w h)) (refnum.div_bad a b · h) (fun w => to_q (mod_bad a b w h)) (refnum.mod_bad a b · h)
  · have ha : good a := not_bad fun x => h (.inl x)
    have hb : good b := not_bad fun x => h (.inr x)
    by_cases hz : b = 0
    · exact arith_core a b _ _ _ _ _ _ _ _ _ _ w ht (add_res a b · ha hb) (radd_res a b · ha hb) (sub_res a b · ha hb) (rsub_res a b · ha hb) (mul_res a b · ha hb) (rmul_res a b · ha hb) (fun w => to_q (div_zero a b w ha hz)) (refnum.div_zero a b · ha hz) (fun w => to_q (mod_zero a b w ha hz)) (refnum.mod_zero a b · ha hz)
    · exact arith_core a b _ _ _ _ _ _ _ _ _ _ w ht (add_res a b · ha hb) (radd_res a b · ha hb) (sub_res a b · ha hb) (rsub_res a b · ha hb) (mul_res a b · ha hb) (rmul_res a b · ha hb) (div_good a b · ha hb hz) (refnum.div_good a b · ha hb hz) (mod_good a b · ha hb hz) (refnum.mod_good a b · ha hb hz)
theorem arith_walk (a b : Int) (w : World) (_ : -9223372036854775808 ≤ a ∧ a ≤ 9223372036854775807) (_ : -9223372036854775808 ≤ b ∧ b ≤ 9223372036854775807) (ht : Tab w) :
    Calls Tryd.prog 3 #[.int .i64 a, .int .i64 b] w fun e w' => e = .returned (.bool true) ∧ Below w.heap.size w w' := arith_any a b w ht

end Go.Proofs.YtapnnoedlkoilaaDoor.num
