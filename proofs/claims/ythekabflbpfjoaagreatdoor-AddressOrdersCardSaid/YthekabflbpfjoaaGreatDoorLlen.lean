/- Valid of package strlit: what they return for any bytes. -/
import Derived.Test.YthekabflbpfjoaaGreatDoorLunq
import Derived.Test.YthekabflbpfjoaaGreatDoorLvs
import Derived.Lib.RuneCount
import Derived.Laws.RangeString
import Derived.Laws.RangeAny
namespace Go.Proofs.YthekabflbpfjoaaGreatDoor.lit
open Go.RowKit

/-- Whether a string is valid. -/
def okL (l : List UInt8) : Bool := decide (l.length ≤ 4096) && Lib.validD l
theorem okL_iff (l : List UInt8) : okL l = true ↔ l.length ≤ 4096 ∧ Lib.validD l = true := by simp [okL]

set_option maxHeartbeats 1000000 in
theorem valid_any (s : ByteArray) (w : World) (f : Fx w) (hs : s.size ≤ 1000000) :
    Calls Tryz.prog 61 #[.string s] w fun e w' => e = .returned (.bool (okL s.data.toList)) ∧ Q w w' := by
  have cV := Lib.hid (valid_text s w (by omega) f.tabs)
  unfold okL
  rw [show s.data.toList.length = s.size by simp]
  generalize Lib.validD s.data.toList = V at *
  clear f
  by_cases h : s.size ≤ 4096
  · rw [decide_eq_true h, Bool.true_and]
    have hz : (s.size : Int) ≤ 4096 := by omega
    go_enter Tryz.func61, Tryz.ntmps61
    go_wp2_with fail
    refine cV.out.mono ?_; rintro e w1 ⟨rfl, q1⟩
    go_wp2_with fail
    go_ret
    exact ⟨rfl, q1⟩
  · rw [decide_eq_false h, Bool.false_and]
    have hz : ¬ (s.size : Int) ≤ 4096 := by omega
    go_enter Tryz.func61, Tryz.ntmps61
    go_wp2_with fail
    go_ret
    exact ⟨rfl, Q.refl _⟩

end Go.Proofs.YthekabflbpfjoaaGreatDoor.lit
