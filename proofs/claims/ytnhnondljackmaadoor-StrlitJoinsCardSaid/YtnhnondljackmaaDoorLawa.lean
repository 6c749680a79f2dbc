/- The laws StrlitBack and StrlitJoins return true for all strings. -/
import Derived.Test.YtnhnondljackmaaDoorLawk
namespace Go.Proofs.YtnhnondljackmaaDoor.lit
open Go.RowKit

theorem back_long (s more : ByteArray) (w : World) (f : Fx w) (hs : s.size ≤ maxLen) (hm : more.size ≤ maxLen) (h : 5000 < s.size ∨ 5000 < more.size) :
    Calls Tryd.prog 5 #[.string s, .string more] w fun e w' => e = .returned (.bool true) ∧ Q w w' := by
  have F := Lib.hid f; clear f
  unfold maxLen at hs hm
  by_cases h1 : 5000 < s.size
  · have z1 : (5000 : Int) < (s.size : Int) := by omega
    clear h
    go_enter Tryd.func5, Tryd.ntmps5
    go_wp2_with fail
    refine (awake_true _ F.out).mono ?_; rintro e w1 ⟨rfl, q1⟩
    go_wp2_with fail
    go_ret
    exact ⟨rfl, q1⟩
  · have z1 : ¬ (5000 : Int) < (s.size : Int) := by omega
    have z2 : (5000 : Int) < (more.size : Int) := by omega
    clear h
    go_enter Tryd.func5, Tryd.ntmps5
    go_wp2_with fail
    refine (awake_true _ F.out).mono ?_; rintro e w1 ⟨rfl, q1⟩
    go_wp2_with fail
    go_ret
    exact ⟨rfl, q1⟩
set_option maxHeartbeats 1000000 in
theorem back_short (s more : ByteArray) (w : World) (f : Fx w) (hs : s.size ≤ 5000) (hm : more.size ≤ 5000) :
    Calls Tryd.prog 5 #[.string s, .string more] w fun e w' => e = .returned (.bool true) ∧ Q w w' := by
  have F := Lib.hid f; clear f
  have z1 : ¬ (5000 : Int) < (s.size : Int) := by omega
  have z2 : ¬ (5000 : Int) < (more.size : Int) := by omega
  have cV : Hid (∀ w, Fx w → Calls Tryd.prog 10 #[.string s] w fun e w' => e = .returned (.bool (okL s.data.toList)) ∧ Q w w') := fun w f => valid_any s w f (by omega)
  cases hv : okL s.data.toList with
  | false =>
    rw [hv] at cV
    clear hv
    go_enter Tryd.func5, Tryd.ntmps5
    go_wp2_with fail
    refine (cV.out _ F.out).mono ?_; rintro e w1 ⟨rfl, q1⟩
    have F1 := Lib.hid (Q.fx q1 F.out)
    go_wp2_with fail
    refine (awake_true _ F1.out).mono ?_; rintro e w2 ⟨rfl, q2⟩
    go_wp2_with fail
    go_ret
    exact ⟨rfl, q1.trans q2⟩
  | true =>
    rw [hv] at cV
    obtain ⟨hl, hvd⟩ := (okL_iff _).1 hv
    clear hv
    have hlen : s.data.toList.length = s.size := by simp
    have hql := quote_len s.data.toList
    have cQ : Hid (∀ w, Fx w → Calls Tryd.prog 12 #[.string s] w fun e w' => e = .returned (.string ⟨(quoteL s.data.toList).toArray⟩) ∧ Q w w') := fun w f => quote_any s w f (by omega)
    have hun := unq_quote s.data.toList more.data.toList hvd hl
    obtain ⟨QB, hQB⟩ : ∃ QB : ByteArray, (⟨(quoteL s.data.toList).toArray⟩ : ByteArray) = QB := ⟨_, rfl⟩
    have hsz : QB.size = (quoteL s.data.toList).length := by rw [← hQB]; simp [ByteArray.size]
    rw [hQB] at cQ
    have cU : Hid (∀ w, Fx w → Calls Tryd.prog 18 #[.string (QB ++ more)] w fun e w' => e = .returned (.tuple #[.string s, .int .i64 (QB.size : Int), .int .i64 0]) ∧ Q w w') := fun w f => by
      have h := unquote_any (QB ++ more) w f (by rw [ByteArray.size_append]; omega)
      have e : (QB ++ more).data.toList = quoteL s.data.toList ++ more.data.toList := by rw [← hQB]; simp
      rw [e, hun, list_whole, ← hsz] at h
      exact h
    have b1 : QB.size ≤ 40000 := by omega
    clear hun hQB hql hvd hl hsz hlen
    go_enter Tryd.func5, Tryd.ntmps5
    go_wp2_with fail
    refine (cV.out _ F.out).mono ?_; rintro e w1 ⟨rfl, q1⟩
    have F1 := Lib.hid (Q.fx q1 F.out)
    go_wp2_with fail
    refine (cQ.out _ F1.out).mono ?_; rintro e w2 ⟨rfl, q2⟩
    have F2 := Lib.hid (Q.fx q2 F1.out)
    go_wp2_with fail
    refine (cU.out _ F2.out).mono ?_; rintro e w3 ⟨rfl, q3⟩
    have F3 := Lib.hid (Q.fx q3 F2.out)
    clear cU
    generalize QB ++ more = X at *
    go_wp2_with fail
    refine (awake_true _ F3.out).mono ?_; rintro e w4 ⟨rfl, q4⟩
    go_wp2_with fail
    go_ret
    exact ⟨rfl, ((q1.trans q2).trans q3).trans q4⟩
theorem back_any (s more : ByteArray) (w : World) (hs : s.size ≤ maxLen) (hm : more.size ≤ maxLen) (f : Fx w) :
    Calls Tryd.prog 5 #[.string s, .string more] w fun e w' => e = .returned (.bool true) ∧ Q w w' := by
  by_cases h : 5000 < s.size ∨ 5000 < more.size
  · exact back_long s more w f hs hm h
  · exact back_short s more w f (by omega) (by omega)

theorem joins_long (s more : ByteArray) (w : World) (f : Fx w) (hs : s.size ≤ maxLen) (hm : more.size ≤ maxLen) (h : 5000 < s.size ∨ 5000 < more.size) :
    Calls Tryd.prog 8 #[.string s, .string more] w fun e w' => e = .returned (.bool true) ∧ Q w w' := by
  have F := Lib.hid f; clear f
  unfold maxLen at hs hm
  by_cases h1 : 5000 < s.size
  · have z1 : (5000 : Int) < (s.size : Int) := by omega
    clear h
    go_enter Tryd.func8, Tryd.ntmps8
    go_wp2_with fail
    refine (awake_true _ F.out).mono ?_; rintro e w1 ⟨rfl, q1⟩
    go_wp2_with fail
    go_ret
    exact ⟨rfl, q1⟩
  · have z1 : ¬ (5000 : Int) < (s.size : Int) := by omega
    have z2 : (5000 : Int) < (more.size : Int) := by omega
    clear h
    go_enter Tryd.func8, Tryd.ntmps8
    go_wp2_with fail
    refine (awake_true _ F.out).mono ?_; rintro e w1 ⟨rfl, q1⟩
    go_wp2_with fail
    go_ret
    exact ⟨rfl, q1⟩
set_option maxHeartbeats 1000000 in
theorem joins_short (a b : ByteArray) (w : World) (f : Fx w) (ha : a.size ≤ 5000) (hb : b.size ≤ 5000) :
    Calls Tryd.prog 8 #[.string a, .string b] w fun e w' => e = .returned (.bool true) ∧ Q w w' := by
  have F := Lib.hid f; clear f
  have z1 : ¬ (5000 : Int) < (a.size : Int) := by omega
  have z2 : ¬ (5000 : Int) < (b.size : Int) := by omega
  have cA : Hid (∀ w, Fx w → Calls Tryd.prog 10 #[.string a] w fun e w' => e = .returned (.bool (okL a.data.toList)) ∧ Q w w') := fun w f => valid_any a w f (by omega)
  have cB : Hid (∀ w, Fx w → Calls Tryd.prog 10 #[.string b] w fun e w' => e = .returned (.bool (okL b.data.toList)) ∧ Q w w') := fun w f => valid_any b w f (by omega)
  cases hv : okL a.data.toList with
  | false =>
    rw [hv] at cA
    clear hv
    go_enter Tryd.func8, Tryd.ntmps8
    go_wp2_with fail
    refine (cA.out _ F.out).mono ?_; rintro e w1 ⟨rfl, q1⟩
    have F1 := Lib.hid (Q.fx q1 F.out)
    go_wp2_with fail
    refine (awake_true _ F1.out).mono ?_; rintro e w2 ⟨rfl, q2⟩
    go_wp2_with fail
    go_ret
    exact ⟨rfl, q1.trans q2⟩
  | true =>
    cases hv2 : okL b.data.toList with
    | false =>
      rw [hv] at cA
      rw [hv2] at cB
      clear hv hv2
      go_enter Tryd.func8, Tryd.ntmps8
      go_wp2_with fail
      refine (cA.out _ F.out).mono ?_; rintro e w1 ⟨rfl, q1⟩
      have F1 := Lib.hid (Q.fx q1 F.out)
      go_wp2_with fail
      refine (cB.out _ F1.out).mono ?_; rintro e w2 ⟨rfl, q2⟩
      have F2 := Lib.hid (Q.fx q2 F1.out)
      go_wp2_with fail
      refine (awake_true _ F2.out).mono ?_; rintro e w3 ⟨rfl, q3⟩
      go_wp2_with fail
      go_ret
      exact ⟨rfl, (q1.trans q2).trans q3⟩
    | true =>
      rw [hv] at cA
      rw [hv2] at cB
      obtain ⟨hl, hvd⟩ := (okL_iff _).1 hv
      obtain ⟨hl2, hvd2⟩ := (okL_iff _).1 hv2
      have hlen : a.data.toList.length = a.size := by simp
      have hlen2 : b.data.toList.length = b.size := by simp
      have e : (a ++ b).data.toList = a.data.toList ++ b.data.toList := by simp
      have hsum : (a ++ b).size = a.size + b.size := ByteArray.size_append
      have cV : Hid (∀ w, Fx w → Calls Tryd.prog 10 #[.string (a ++ b)] w fun e w' => e = .returned (.bool (decide (a.size + b.size ≤ 4096))) ∧ Q w w') := fun w f => by
        have h := valid_any (a ++ b) w f (by omega)
        rw [show okL (a ++ b).data.toList = decide (a.size + b.size ≤ 4096) by
          unfold okL
          rw [e, join_valid _ _ hvd, hvd2, List.length_append, hlen, hlen2, Bool.and_true]] at h
        exact h
      have cLA : Hid (∀ w, Calls Tryd.prog 16 #[.string a] w fun e w' => e = .returned (.int .i64 (lenL a.data.toList)) ∧ Q w w') := fun w => length_any a w (by omega)
      have cLB : Hid (∀ w, Calls Tryd.prog 16 #[.string b] w fun e w' => e = .returned (.int .i64 (lenL b.data.toList)) ∧ Q w w') := fun w => length_any b w (by omega)
      have cLC : Hid (∀ w, Calls Tryd.prog 16 #[.string (a ++ b)] w fun e w' => e = .returned (.int .i64 ((lenL a.data.toList : Int) + (lenL b.data.toList : Int))) ∧ Q w w') := fun w => by
        have h := length_any (a ++ b) w (by omega)
        rw [e, join_len _ _ hvd, Int.natCast_add] at h
        exact h
      have hbA : lenL a.data.toList ≤ 5000 := by
        have h := Lib.runeCount_le a
        rw [← Lib.runeCountL_eq] at h
        exact Nat.le_trans h ha
      have hbB : lenL b.data.toList ≤ 5000 := by
        have h := Lib.runeCount_le b
        rw [← Lib.runeCountL_eq] at h
        exact Nat.le_trans h hb
      clear hv hv2 hl hl2 hvd hvd2 hlen hlen2 e hsum
      generalize lenL a.data.toList = LA at *
      generalize lenL b.data.toList = LB at *
      by_cases ht : a.size + b.size ≤ 4096
      · rw [decide_eq_true ht] at cV
        have htz : (a.size : Int) + (b.size : Int) ≤ 4096 := by omega
        go_enter Tryd.func8, Tryd.ntmps8
        go_wp2_with fail
        refine (cA.out _ F.out).mono ?_; rintro e w1 ⟨rfl, q1⟩
        have F1 := Lib.hid (Q.fx q1 F.out)
        go_wp2_with fail
        refine (cB.out _ F1.out).mono ?_; rintro e w2 ⟨rfl, q2⟩
        have F2 := Lib.hid (Q.fx q2 F1.out)
        go_wp2_with fail
        refine (cV.out _ F2.out).mono ?_; rintro e w3 ⟨rfl, q3⟩
        have F3 := Lib.hid (Q.fx q3 F2.out)
        go_wp2_with fail
        refine (cLC.out _).mono ?_; rintro e w4 ⟨rfl, q4⟩
        have F4 := Lib.hid (Q.fx q4 F3.out)
        go_wp2_with fail
        refine (cLA.out _).mono ?_; rintro e w5 ⟨rfl, q5⟩
        have F5 := Lib.hid (Q.fx q5 F4.out)
        go_wp2_with fail
        refine (cLB.out _).mono ?_; rintro e w6 ⟨rfl, q6⟩
        have F6 := Lib.hid (Q.fx q6 F5.out)
        go_wp2_with fail
        refine (awake_true _ F6.out).mono ?_; rintro e w7 ⟨rfl, q7⟩
        go_wp2_with fail
        go_ret
        exact ⟨rfl, (((((q1.trans q2).trans q3).trans q4).trans q5).trans q6).trans q7⟩
      · rw [decide_eq_false ht] at cV
        have htz : ¬ (a.size : Int) + (b.size : Int) ≤ 4096 := by omega
        go_enter Tryd.func8, Tryd.ntmps8
        go_wp2_with fail
        refine (cA.out _ F.out).mono ?_; rintro e w1 ⟨rfl, q1⟩
        have F1 := Lib.hid (Q.fx q1 F.out)
        go_wp2_with fail
        refine (cB.out _ F1.out).mono ?_; rintro e w2 ⟨rfl, q2⟩
        have F2 := Lib.hid (Q.fx q2 F1.out)
        go_wp2_with fail
        refine (cV.out _ F2.out).mono ?_; rintro e w3 ⟨rfl, q3⟩
        have F3 := Lib.hid (Q.fx q3 F2.out)
        go_wp2_with fail
        refine (cLC.out _).mono ?_; rintro e w4 ⟨rfl, q4⟩
        have F4 := Lib.hid (Q.fx q4 F3.out)
        go_wp2_with fail
        refine (cLA.out _).mono ?_; rintro e w5 ⟨rfl, q5⟩
        have F5 := Lib.hid (Q.fx q5 F4.out)
        go_wp2_with fail
        refine (cLB.out _).mono ?_; rintro e w6 ⟨rfl, q6⟩
        have F6 := Lib.hid (Q.fx q6 F5.out)
        go_wp2_with fail
        refine (awake_true _ F6.out).mono ?_; rintro e w7 ⟨rfl, q7⟩
        go_wp2_with fail
        go_ret
        refine ⟨?_, (((((q1.trans q2).trans q3).trans q4).trans q5).trans q6).trans q7⟩
        show Ending.returned (Value.bool (!decide ((a.size : Int) + (b.size : Int) ≤ 4096))) = _
        rw [decide_eq_false (show ¬ ((a.size : Int) + (b.size : Int) ≤ 4096) by omega)]
        rfl
theorem joins_any (s more : ByteArray) (w : World) (hs : s.size ≤ maxLen) (hm : more.size ≤ maxLen) (f : Fx w) :
    Calls Tryd.prog 8 #[.string s, .string more] w fun e w' => e = .returned (.bool true) ∧ Q w w' := by
  by_cases h : 5000 < s.size ∨ 5000 < more.size
  · exact joins_long s more w f hs hm h
  · exact joins_short s more w f (by omega) (by omega)

end Go.Proofs.YtnhnondljackmaaDoor.lit
