/- The law StrlitReads returns true for all texts. -/
import Derived.Test.YtnhnondljackmaaDoorRone
namespace Go.Proofs.YtnhnondljackmaaDoor.lit
open Go.RowKit

theorem reads_long (s : ByteArray) (w : World) (f : Fx w) (hs : s.size ≤ maxLen) (h : 20000 < s.size) :
    Calls Tryd.prog 4 #[.string s] w fun e w' => e = .returned (.bool true) ∧ Q w w' := by
  have F := Lib.hid f; clear f
  unfold maxLen at hs
  have z1 : (20000 : Int) < (s.size : Int) := by omega
  clear h
  go_enter Tryd.func4, Tryd.ntmps4
  go_wp2_with fail
  refine (awake_true _ F.out).mono ?_; rintro e w1 ⟨rfl, q1⟩
  go_wp2_with fail
  go_ret
  exact ⟨rfl, q1⟩
set_option maxHeartbeats 1000000 in
theorem reads_short (s : ByteArray) (w : World) (f : Fx w) (hs : s.size ≤ 20000) :
    Calls Tryd.prog 4 #[.string s] w fun e w' => e = .returned (.bool true) ∧ Q w w' := by
  have F := Lib.hid f; clear f
  have z1 : ¬ (20000 : Int) < (s.size : Int) := by omega
  have a1 : Hid (∀ w, Fx w → Calls Tryd.prog 18 #[.string s] w fun e w' => e = .returned (.tuple #[.string ⟨(unq s.data.toList).1.toArray⟩, .int .i64 (unq s.data.toList).2.1, .int .i64 (unq s.data.toList).2.2]) ∧ Q w w') := fun w f => unquote_any s w f (by omega)
  have a2 : Hid (∀ w, Calls Tryd.prog 19 #[.string s] w fun e w' => e = .returned (.tuple #[.string ⟨(unq s.data.toList).1.toArray⟩, .int .i64 (unq s.data.toList).2.1, .int .i64 (unq s.data.toList).2.2]) ∧ Q w w') := fun w => ref_unquote s w (by omega)
  generalize (⟨(unq s.data.toList).1.toArray⟩ : ByteArray) = T at *
  generalize (unq s.data.toList).2.1 = N at *
  generalize (unq s.data.toList).2.2 = E at *
  go_enter Tryd.func4, Tryd.ntmps4
  go_wp2_with fail
  refine (a1.out _ F.out).mono ?_; rintro e w1 ⟨rfl, q1⟩
  have F1 := Lib.hid (Q.fx q1 F.out)
  go_wp2_with fail
  refine (a2.out _).mono ?_; rintro e w2 ⟨rfl, q2⟩
  have F2 := Lib.hid (Q.fx q2 F1.out)
  go_wp2_with fail
  refine (awake_true _ F2.out).mono ?_; rintro e w3 ⟨rfl, q3⟩
  go_wp2_with fail
  go_ret
  exact ⟨rfl, (q1.trans q2).trans q3⟩
theorem reads_any (s : ByteArray) (w : World) (hs : s.size ≤ maxLen) (f : Fx w) :
    Calls Tryd.prog 4 #[.string s] w fun e w' => e = .returned (.bool true) ∧ Q w w' := by
  by_cases h : 20000 < s.size
  · exact reads_long s w f hs h
  · exact reads_short s w f (by omega)

end Go.Proofs.YtnhnondljackmaaDoor.lit
