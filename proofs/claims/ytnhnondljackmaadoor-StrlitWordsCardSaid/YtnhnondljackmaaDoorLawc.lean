/- The law StrlitWords returns true for all strings. -/
import Derived.Test.YtnhnondljackmaaDoorRqt
namespace Go.Proofs.YtnhnondljackmaaDoor.lit
open Go.RowKit

theorem words_long (s : ByteArray) (w : World) (f : Fx w) (hs : s.size ≤ maxLen) (h : 5000 < s.size) :
    Calls Tryd.prog 3 #[.string s] w fun e w' => e = .returned (.bool true) ∧ Q w w' := by
  have F := Lib.hid f; clear f
  unfold maxLen at hs
  have z1 : (5000 : Int) < (s.size : Int) := by omega
  clear h
  go_enter Tryd.func3, Tryd.ntmps3
  go_wp2_with fail
  refine (awake_true _ F.out).mono ?_; rintro e w1 ⟨rfl, q1⟩
  go_wp2_with fail
  go_ret
  exact ⟨rfl, q1⟩
set_option maxHeartbeats 2000000 in
theorem words_short (s : ByteArray) (w : World) (f : Fx w) (hs : s.size ≤ 5000) :
    Calls Tryd.prog 3 #[.string s] w fun e w' => e = .returned (.bool true) ∧ Q w w' := by
  have F := Lib.hid f; clear f
  have z1 : ¬ (5000 : Int) < (s.size : Int) := by omega
  have a1 : Hid (∀ w, Fx w → Calls Tryd.prog 10 #[.string s] w fun e w' => e = .returned (.bool (okL s.data.toList)) ∧ Q w w') := fun w f => valid_any s w f (by omega)
  have a2 : Hid (∀ w, Calls Tryd.prog 11 #[.string s] w fun e w' => e = .returned (.bool (okL s.data.toList)) ∧ Q w w') := fun w => ref_valid s w (by omega)
  have b1 : Hid (∀ w, Fx w → Calls Tryd.prog 12 #[.string s] w fun e w' => e = .returned (.string ⟨(quoteL s.data.toList).toArray⟩) ∧ Q w w') := fun w f => quote_any s w f (by omega)
  have b2 : Hid (∀ w, Calls Tryd.prog 13 #[.string s] w fun e w' => e = .returned (.string ⟨(quoteL s.data.toList).toArray⟩) ∧ Q w w') := fun w => ref_quote s w (by omega)
  have c1 : Hid (∀ w, Fx w → Calls Tryd.prog 14 #[.string s] w fun e w' => e = .returned (.string ⟨(utf.escL s.data.toList).toArray⟩) ∧ Q w w') := fun w f => escape_text s w f (by omega)
  have c2 : Hid (∀ w, Calls Tryd.prog 15 #[.string s] w fun e w' => e = .returned (.string ⟨(utf.escL s.data.toList).toArray⟩) ∧ w = w') := fun w => ref_escape s w (by omega)
  have d1 : Hid (∀ w, Calls Tryd.prog 16 #[.string s] w fun e w' => e = .returned (.int .i64 (lenL s.data.toList)) ∧ Q w w') := fun w => length_any s w (by omega)
  have d2 : Hid (∀ w, Calls Tryd.prog 17 #[.string s] w fun e w' => e = .returned (.int .i64 (lenL s.data.toList)) ∧ Q w w') := fun w => ref_length s w (by omega)
  generalize okL s.data.toList = V at *
  generalize (⟨(quoteL s.data.toList).toArray⟩ : ByteArray) = QB at *
  generalize (⟨(utf.escL s.data.toList).toArray⟩ : ByteArray) = EB at *
  generalize lenL s.data.toList = LN at *
  go_enter Tryd.func3, Tryd.ntmps3
  go_wp2_with fail
  refine (a1.out _ F.out).mono ?_; rintro e w1 ⟨rfl, q1⟩
  have F1 := Lib.hid (Q.fx q1 F.out)
  go_wp2_with fail
  refine (a2.out _).mono ?_; rintro e w2 ⟨rfl, q2⟩
  have F2 := Lib.hid (Q.fx q2 F1.out)
  go_wp2_with fail
  refine (b1.out _ F2.out).mono ?_; rintro e w3 ⟨rfl, q3⟩
  have F3 := Lib.hid (Q.fx q3 F2.out)
  go_wp2_with fail
  refine (b2.out _).mono ?_; rintro e w4 ⟨rfl, q4⟩
  have F4 := Lib.hid (Q.fx q4 F3.out)
  go_wp2_with fail
  refine (c1.out _ F4.out).mono ?_; rintro e w5 ⟨rfl, q5⟩
  have F5 := Lib.hid (Q.fx q5 F4.out)
  go_wp2_with fail
  refine (c2.out _).mono ?_; rintro e w' ⟨rfl, rfl⟩
  go_wp2_with fail
  refine (d1.out _).mono ?_; rintro e w6 ⟨rfl, q6⟩
  have F6 := Lib.hid (Q.fx q6 F5.out)
  go_wp2_with fail
  refine (d2.out _).mono ?_; rintro e w7 ⟨rfl, q7⟩
  have F7 := Lib.hid (Q.fx q7 F6.out)
  go_wp2_with fail
  refine (awake_true _ F7.out).mono ?_; rintro e w8 ⟨rfl, q8⟩
  go_wp2_with fail
  go_ret
  exact ⟨rfl, ((((((q1.trans q2).trans q3).trans q4).trans q5).trans q6).trans q7).trans q8⟩
theorem words_any (s : ByteArray) (w : World) (hs : s.size ≤ maxLen) (f : Fx w) :
    Calls Tryd.prog 3 #[.string s] w fun e w' => e = .returned (.bool true) ∧ Q w w' := by
  by_cases h : 5000 < s.size
  · exact words_long s w f hs h
  · exact words_short s w f (by omega)

end Go.Proofs.YtnhnondljackmaaDoor.lit
