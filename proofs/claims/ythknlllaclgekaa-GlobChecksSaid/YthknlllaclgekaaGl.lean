/- The laws GlobChecks, GlobLiterals and GlobWidens. -/
import Derived.Test.YthknlllaclgekaaGf
namespace Go.Proofs.Ythknlllaclgekaa.glo
open Go.RowKit

set_option maxRecDepth 100000 in
set_option maxHeartbeats 2000000 in
theorem checks_any (p : ByteArray) (w : World) (_hp : p.size ≤ maxLen) (mx : MX w) :
    Calls Try.prog 3 #[.string p] w fun e w' => e = .returned (.bool true) ∧ Below w.heap.size w w' := by
  have cA := Lib.hid (awake_true w mx)
  by_cases h : 3000 < p.size
  · have f1 : (3000 : Int) < (p.size : Int) := by omega
    clear mx h _hp
    go_enter Try.func3, Try.ntmps3
    go_wp2_with fail
    refine (cA.out).mono ?_; rintro e w1 ⟨rfl, q⟩
    have q := Lib.hid q
    go_wp2_with fail
    go_ret
    exact ⟨rfl, q.out⟩
  · have f1 : ¬ (3000 : Int) < (p.size : Int) := by omega
    have c1 := Lib.hid (check_any p w mx (by omega))
    have c2 := Lib.hid (refCheck_any p w (by omega))
    have c3 := Lib.hid (literal_any p w)
    have c4 := Lib.hid (refLiteral_any p w (by omega))
    generalize chk p.data.toList = C at *
    generalize plain p.data.toList = L at *
    clear mx h _hp
    go_enter Try.func3, Try.ntmps3
    go_wp2_with fail
    refine (c1.out).mono ?_; rintro e w1 ⟨rfl, rfl⟩
    go_wp2_with fail
    refine (c2.out).mono ?_; rintro e w1 ⟨rfl, rfl⟩
    go_wp2_with fail
    refine (c3.out).mono ?_; rintro e w1 ⟨rfl, rfl⟩
    go_wp2_with fail
    refine (c4.out).mono ?_; rintro e w1 ⟨rfl, rfl⟩
    go_wp2_with fail
    refine (cA.out).mono ?_; rintro e w1 ⟨rfl, q⟩
    have q := Lib.hid q
    go_wp2_with fail
    go_ret
    exact ⟨rfl, q.out⟩

end Go.Proofs.Ythknlllaclgekaa.glo
