/- The reference's Key and FormatKey. -/
import Derived.Test.YthekabflbpfjoaaGreatDoorAwbm
import Derived.Test.YthekabflbpfjoaaGreatDoorRvalm
import Derived.Test.YthekabflbpfjoaaGreatDoorRqtm
import Derived.Test.YthekabflbpfjoaaGreatDoorRfmtm
namespace Go.Proofs.YthekabflbpfjoaaGreatDoor.adr
open Go.RowKit
open Go.Proofs.YthekabflbpfjoaaGreatDoor

set_option maxHeartbeats 2000000 in
theorem refKey_num (n : Int) (s : ByteArray) (w : World) :
    Calls Tryz.prog 29 #[.agg #[.int .i64 1, .int .i64 n, .string s]] w fun e w' => e = .returned (.bool (decide (0 ≤ n) && decide (n ≤ 9007199254740992) && s.toList.isEmpty)) ∧ Q w w' := by
  by_cases h0 : 0 ≤ n
  · by_cases h1 : n ≤ 9007199254740992
    · rw [decide_eq_true h0, decide_eq_true h1, Bool.true_and, Bool.true_and]
      cases hy : s.toList.isEmpty
      all_goals
        go_enter Tryz.func29, Tryz.ntmps29
        go_wp2_with fail
        go_ret
        exact ⟨rfl, Q.alloc _ _⟩
    · rw [decide_eq_false h1, Bool.and_false, Bool.false_and]
      go_enter Tryz.func29, Tryz.ntmps29
      go_wp2_with fail
      go_ret
      exact ⟨rfl, Q.alloc _ _⟩
  · rw [decide_eq_false h0, Bool.false_and, Bool.false_and]
    go_enter Tryz.func29, Tryz.ntmps29
    go_wp2_with fail
    go_ret
    exact ⟨rfl, Q.alloc _ _⟩
set_option maxHeartbeats 2000000 in
theorem refKey_str (n : Int) (s : ByteArray) (w : World) (hs : s.size ≤ 1000000) :
    Calls Tryz.prog 29 #[.agg #[.int .i64 2, .int .i64 n, .string s]] w fun e w' => e = .returned (.bool ((n == 0) && okS s.data.toList)) ∧ Q w w' := by
  have cV : Hid (∀ w', Calls Tryz.prog 58 #[.string s] w' fun e w'' => e = .returned (.bool (okS s.data.toList)) ∧ Q w' w'') := fun w' => lit.ref_valid s w' hs
  cases hx : (n == 0) with
  | false =>
    go_enter Tryz.func29, Tryz.ntmps29
    go_wp2_with fail
    go_ret
    exact ⟨rfl, Q.alloc _ _⟩
  | true =>
    go_enter Tryz.func29, Tryz.ntmps29
    go_wp2_with fail
    refine (cV.out _).mono ?_; rintro e w1 ⟨rfl, q1⟩
    go_wp2_with fail
    go_ret
    exact ⟨rfl, (Q.alloc _ _).trans q1⟩
set_option maxHeartbeats 2000000 in
theorem refKey_none (n : Int) (s : ByteArray) (w : World) :
    Calls Tryz.prog 29 #[.agg #[.int .i64 0, .int .i64 n, .string s]] w fun e w' => e = .returned (.bool ((n == 0) && s.toList.isEmpty)) ∧ Q w w' := by
  cases hx : (n == 0)
  all_goals
    cases hy : s.toList.isEmpty
    all_goals
      go_enter Tryz.func29, Tryz.ntmps29
      go_wp2_with fail
      go_ret
      exact ⟨rfl, Q.alloc _ _⟩
set_option maxHeartbeats 2000000 in
theorem refKey_other (kd n : Int) (s : ByteArray) (w : World) (h0 : (kd == 0) = false) (h1 : (kd == 1) = false) (h2 : (kd == 2) = false) :
    Calls Tryz.prog 29 #[.agg #[.int .i64 kd, .int .i64 n, .string s]] w fun e w' => e = .returned (.bool false) ∧ Q w w' := by
  go_enter Tryz.func29, Tryz.ntmps29
  go_wp2_with fail
  go_ret
  exact ⟨rfl, Q.alloc _ _⟩
theorem refKey_any (k : K) (w : World) (hs : k.str.size ≤ 1000000) :
    Calls Tryz.prog 29 #[kv k] w fun e w' => e = .returned (.bool (okK k)) ∧ Q w w' := by
  obtain ⟨kd, n, s⟩ := k
  unfold okK kv
  simp only at hs ⊢
  rw [← isEmpty_size, dec_beq n 0]
  by_cases h0 : kd = 0
  · subst h0
    rw [if_pos rfl]
    exact refKey_none n s w
  rw [if_neg h0]
  by_cases h1 : kd = 1
  · subst h1
    rw [if_pos rfl]
    exact refKey_num n s w
  rw [if_neg h1]
  by_cases h2 : kd = 2
  · subst h2
    rw [if_pos rfl]
    exact refKey_str n s w hs
  rw [if_neg h2]
  exact refKey_other kd n s w (by simpa using h0) (by simpa using h1) (by simpa using h2)

set_option maxHeartbeats 2000000 in
theorem refFormatKey_no (kd n : Int) (t : ByteArray) (w : World) (cK : Hid (∀ w', Q w w' → Calls Tryz.prog 29 #[.agg #[.int .i64 kd, .int .i64 n, .string t]] w' fun e w'' => e = .returned (.bool false) ∧ Q w' w'')) :
    Calls Tryz.prog 14 #[.agg #[.int .i64 kd, .int .i64 n, .string t]] w fun e w' => e = .returned (.string ⟨#[]⟩) ∧ Q w w' := by
  go_enter Tryz.func14, Tryz.ntmps14
  go_wp2_with fail
  refine (cK.out _ (Q.alloc _ _)).mono ?_; rintro e w1 ⟨rfl, q1⟩
  go_wp2_with fail
  go_ret
  exact ⟨rfl, (Q.alloc _ _).trans q1⟩
set_option maxHeartbeats 2000000 in
theorem refFormatKey_num (n : Int) (t I : ByteArray) (w : World) (hI : I.size ≤ 1000000) (cK : Hid (∀ w', Q w w' → Calls Tryz.prog 29 #[.agg #[.int .i64 1, .int .i64 n, .string t]] w' fun e w'' => e = .returned (.bool true) ∧ Q w' w''))
  (cF : Hid (∀ w', Q w w' → Calls Tryz.prog 37 #[.int .i64 n] w' fun e w'' => e = .returned (.string I) ∧ Q w' w'')) :
    Calls Tryz.prog 14 #[.agg #[.int .i64 1, .int .i64 n, .string t]] w fun e w' => e = .returned (.string ((⟨#[91]⟩ ++ I) ++ ⟨#[93]⟩)) ∧ Q w w' := by
  go_enter Tryz.func14, Tryz.ntmps14
  go_wp2_with fail
  refine (cK.out _ (Q.alloc _ _)).mono ?_; rintro e w1 ⟨rfl, q1⟩
  have c0 := box_cells q1 0 _ rfl
  have c1 := box_cells q1 1 _ rfl
  have c2 := box_cells q1 2 _ rfl
  have Q1 := Lib.hid ((Q.alloc w _).trans q1)
  clear q1
  go_wp2_with fail
  refine (cF.out _ Q1.out).mono ?_; rintro e w2 ⟨rfl, q2⟩
  have Q2 := Lib.hid (Q1.out.trans q2)
  clear q2
  go_wp2_with fail
  go_ret
  exact ⟨rfl, Q2.out⟩
set_option maxHeartbeats 2000000 in
theorem refFormatKey_str (n : Int) (t I : ByteArray) (w : World) (hI : I.size ≤ 1000000) (cK : Hid (∀ w', Q w w' → Calls Tryz.prog 29 #[.agg #[.int .i64 2, .int .i64 n, .string t]] w' fun e w'' => e = .returned (.bool true) ∧ Q w' w''))
  (cF : Hid (∀ w', Q w w' → Calls Tryz.prog 38 #[.string t] w' fun e w'' => e = .returned (.string I) ∧ Q w' w'')) :
    Calls Tryz.prog 14 #[.agg #[.int .i64 2, .int .i64 n, .string t]] w fun e w' => e = .returned (.string ((⟨#[91]⟩ ++ I) ++ ⟨#[93]⟩)) ∧ Q w w' := by
  go_enter Tryz.func14, Tryz.ntmps14
  go_wp2_with fail
  refine (cK.out _ (Q.alloc _ _)).mono ?_; rintro e w1 ⟨rfl, q1⟩
  have c0 := box_cells q1 0 _ rfl
  have c1 := box_cells q1 1 _ rfl
  have c2 := box_cells q1 2 _ rfl
  have Q1 := Lib.hid ((Q.alloc w _).trans q1)
  clear q1
  go_wp2_with fail
  refine (cF.out _ Q1.out).mono ?_; rintro e w2 ⟨rfl, q2⟩
  have Q2 := Lib.hid (Q1.out.trans q2)
  clear q2
  go_wp2_with fail
  go_ret
  exact ⟨rfl, Q2.out⟩
set_option maxHeartbeats 2000000 in
theorem refFormatKey_none (n : Int) (t : ByteArray) (w : World) (cK : Hid (∀ w', Q w w' → Calls Tryz.prog 29 #[.agg #[.int .i64 0, .int .i64 n, .string t]] w' fun e w'' => e = .returned (.bool true) ∧ Q w' w'')) :
    Calls Tryz.prog 14 #[.agg #[.int .i64 0, .int .i64 n, .string t]] w fun e w' => e = .returned (.string ⟨#[]⟩) ∧ Q w w' := by
  go_enter Tryz.func14, Tryz.ntmps14
  go_wp2_with fail
  refine (cK.out _ (Q.alloc _ _)).mono ?_; rintro e w1 ⟨rfl, q1⟩
  have c0 := box_cells q1 0 _ rfl
  have c1 := box_cells q1 1 _ rfl
  have c2 := box_cells q1 2 _ rfl
  have Q1 := Lib.hid ((Q.alloc w _).trans q1)
  clear q1
  go_wp2_with fail
  go_ret
  exact ⟨rfl, Q1.out⟩
theorem refFormatKey_any (k : K) (w : World) (hk : Kb k) :
    Calls Tryz.prog 14 #[kv k] w fun e w' => e = .returned (.string ⟨(fK k).toArray⟩) ∧ Q w w' := by
  have cK : Hid (∀ w', Q w w' → Calls Tryz.prog 29 #[.agg #[.int .i64 k.kind, .int .i64 k.num, .string k.str]] w' fun e w'' => e = .returned (.bool (okK k)) ∧ Q w' w'') := fun w' _ => refKey_any k w' hk.str
  cases ho : okK k with
  | false =>
    rw [ho] at cK
    rw [fK_case k _ ho, if_pos rfl]
    exact refFormatKey_no _ _ _ w cK
  | true =>
    rw [ho] at cK
    rw [fK_case k _ ho, if_neg (by decide)]
    have hK := okK_kinds k ho
    obtain ⟨kd, n, t⟩ := k
    unfold kv
    simp only at hK cK ⊢
    rcases hK with rfl | rfl | ⟨rfl, h2⟩
    · rw [if_neg (by decide), if_neg (by decide)]
      exact refFormatKey_none n t w cK
    · rw [if_pos rfl]
      have hl := itoa_le n hk.num.1 hk.num.2
      have h := refFormatKey_num n t ⟨(Lib.itoa n).toArray⟩ w (by rw [ba_size]; omega) cK (fun w' _ => num.rformat n.natAbs n w' (Nat.le_refl _) hk.num.1 hk.num.2)
      have e : ((⟨#[91]⟩ ++ (⟨(Lib.itoa n).toArray⟩ : ByteArray)) ++ ⟨#[93]⟩ : ByteArray) = ⟨(91 :: (Lib.itoa n ++ [93])).toArray⟩ := ba_ext (by rw [ba_app, ba_app, ba_list, ba_list]; rfl)
      rwa [e] at h
    · rw [if_neg (by decide), if_pos rfl]
      have hl := (lit.quote_len t.data.toList).2
      have hl2 := ((okS_iff _).1 h2).1
      have h := refFormatKey_str n t ⟨(lit.quoteL t.data.toList).toArray⟩ w (by rw [ba_size]; omega) cK (fun w' _ => lit.ref_quote t w' hk.str)
      have e : ((⟨#[91]⟩ ++ (⟨(lit.quoteL t.data.toList).toArray⟩ : ByteArray)) ++ ⟨#[93]⟩ : ByteArray) = ⟨(91 :: (lit.quoteL t.data.toList ++ [93])).toArray⟩ := ba_ext (by rw [ba_app, ba_app, ba_list, ba_list]; rfl)
      rwa [e] at h


end Go.Proofs.YthekabflbpfjoaaGreatDoor.adr
