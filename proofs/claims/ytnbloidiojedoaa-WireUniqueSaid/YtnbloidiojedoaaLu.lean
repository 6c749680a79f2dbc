/- The law WireUnique returns true for every input. -/
import Derived.Test.YtnbloidiojedoaaLp
namespace Go.Proofs.Ytnbloidiojedoaa.wir
open Go.RowKit

set_option maxRecDepth 100000 in
set_option maxHeartbeats 8000000 in
theorem unique_any (s : ByteArray) (w : World) (hs : s.size ≤ maxLen) :
    Calls Try.prog 6 #[.string s] w fun e w' => e = .returned (.bool true) ∧ Q w w' := by
  unfold maxLen at hs
  by_cases h : 400 < s.size
  · have z1 : (400 : Int) < (s.size : Int) := by omega
    clear h
    go_enter Try.func6, Try.ntmps6
    go_wp2_with fail
    refine (awake_true _).mono ?_; rintro e w1 ⟨rfl, q1⟩
    go_wp2_with fail
    go_ret
    exact ⟨rfl, q1⟩
  · have z1 : ¬ (400 : Int) < (s.size : Int) := by omega
    have z2 : (s.size : Int) ≤ 400 := by omega
    have cN : Hid (∀ p w, Rd p s 0 true w → Calls Try.prog 18 #[ptr p] w fun r w' => r = .returned (.int .i64 (nxN s 0).1) ∧ Hid (After p (nxN s 0).2.1 (nxN s 0).2.2 w w')) := fun p w h => number_any p s 0 w h (by omega)
    have cS : Hid (∀ p w, Rd p s 0 true w → Calls Try.prog 20 #[ptr p] w fun r w' => r = .returned (.string (nxS s 0).1) ∧ Hid (After p (nxS s 0).2.1 (nxS s 0).2.2 w w')) := fun p w h => string_any p s 0 w h (by omega)
    have cL : Hid (∀ p s e m w, Rd p s e m w → Calls Try.prog 23 #[ptr p] w fun r w' => r = .returned (.int .i64 (s.size : Int)) ∧ w = w') := fun p s e m w h => left_any p s e m w h
    have cR : Hid (∀ p s e w, Rd p s e true w → Calls Try.prog 25 #[ptr p] w fun r w' => r = .returned (.int .i64 e) ∧ w = w') := fun p s e w h => err_any p s e w h
    have UN := uniqN_all s
    have US := uniqS_all s
    generalize nxN s 0 = a at *
    generalize nxS s 0 = b at *
    obtain ⟨n, S, e⟩ := a
    obtain ⟨t, T, f⟩ := b
    dsimp only at *
    have cA : Hid (∀ w, -9223372036854775808 ≤ n ∧ n ≤ 9223372036854775807 → Calls Try.prog 11 #[.string ⟨#[]⟩, .int .i64 n] w fun e w' => e = .returned (.string (encN n)) ∧ Q w w') := fun w hn => by
      have h := appendNumber_any ⟨#[]⟩ n w (by decide) hn
      rw [none_app] at h
      exact h
    have cB : Hid (∀ w, t.size ≤ s.size → Calls Try.prog 13 #[.string ⟨#[]⟩, .string t] w fun e w' => e = .returned (.string (encS t)) ∧ Q w w') := fun w ht => by
      have h := appendString_any ⟨#[]⟩ t w (by decide) (by omega)
      rw [none_app] at h
      exact h
    clear h hs
    unfold ptr at *
    rcases UN with ⟨rfl, k, h1, h2, h3, h4, h5, h6⟩ | ⟨h1, rfl, hSS⟩
    · have a1 : decide ((s.size : Int) - (S.size : Int) < 1) = false := decide_eq_false (by omega)
      have a2 : decide (10 < (s.size : Int) - (S.size : Int)) = false := decide_eq_false (by omega)
      have a3 : (0 : Int) ≤ (s.size : Int) - (S.size : Int) := by omega
      have a4 : (s.size : Int) - (S.size : Int) ≤ (s.size : Int) := by omega
      have a5 : (s.size : Int) - (S.size : Int) ≤ 400 := by omega
      have a6 : (S.size : Int) ≤ (s.size : Int) := by omega
      rw [show k = s.size - S.size by omega] at h5
      have cA' : Hid (∀ w, Calls Try.prog 11 #[.string ⟨#[]⟩, .int .i64 n] w fun e w' => e = .returned (.string (s.extract 0 (s.size - S.size))) ∧ Q w w') := fun w => by
        have h := cA.out w h6
        rw [h5] at h
        exact h
      clear cA h1 h2 h3 h4 h5 h6
      rcases US with ⟨rfl, j, g1, g2, g3, g4, g5⟩ | ⟨g1, rfl, hTT⟩
      · have b1 : decide ((s.size : Int) - (T.size : Int) < 1) = false := decide_eq_false (by omega)
        have b2 : decide ((s.size : Int) < (s.size : Int) - (T.size : Int)) = false := decide_eq_false (by omega)
        have b3 : (0 : Int) ≤ (s.size : Int) - (T.size : Int) := by omega
        have b4 : (s.size : Int) - (T.size : Int) ≤ (s.size : Int) := by omega
        have b5 : (s.size : Int) - (T.size : Int) ≤ 400 := by omega
        have b6 : (T.size : Int) ≤ (s.size : Int) := by omega
        rw [show j = s.size - T.size by omega] at g4
        have cB' : Hid (∀ w, Calls Try.prog 13 #[.string ⟨#[]⟩, .string t] w fun e w' => e = .returned (.string (s.extract 0 (s.size - T.size))) ∧ Q w w') := fun w => by
          have h := cB.out w g5
          rw [g4] at h
          exact h
        clear cB g1 g2 g3 g4 g5
        go_enter Try.func6, Try.ntmps6
        go_wp2_with fail
        refine (newReader_any _ _).mono ?_; rintro r w1 ⟨rfl, r1, q1⟩
        have hw1 := q1.size
        have H1 := Lib.hid (And.intro r1 q1)
        clear r1 q1
        unfold ptr
        go_wp2_with fail
        refine (newReader_any _ _).mono ?_; rintro r w2 ⟨rfl, r2, q2⟩
        have hne : w.heap.size < w1.heap.size := H1.out.1.lt
        have H2 := Lib.hid (And.intro (H1.out.1.stays q2) (And.intro r2 (H1.out.2.trans q2)))
        clear r2 q2 H1
        unfold ptr
        go_wp2_with fail
        refine (cN.out _ _ H2.out.1).mono ?_; rintro r w3 ⟨rfl, h3⟩
        have H3 := Lib.hid (And.intro h3.out.1 (And.intro (H2.out.2.1.beside h3.out.2 (by omega)) (H2.out.2.2.thenM h3.out.2 (Nat.le_refl _))))
        clear h3 H2
        go_wp2_with fail
        refine (cS.out _ _ H3.out.2.1).mono ?_; rintro r w4 ⟨rfl, h4⟩
        have H4 := Lib.hid (And.intro (H3.out.1.beside h4.out.2 (by omega)) (And.intro h4.out.1 (H3.out.2.2.thenM h4.out.2 hw1)))
        clear h4 H3
        go_wp2_with fail
        refine (cR.out _ _ _ _ H4.out.1).mono ?_; rintro r w' ⟨rfl, rfl⟩
        go_wp2_with fail
        refine (cL.out _ _ _ _ _ H4.out.1).mono ?_; rintro r w' ⟨rfl, rfl⟩
        go_wp2_with fail
        go_region_held3 (fun _ => True) (trivial) (first | (go_at_call 11; refine (cA'.out _).mono ?_; rintro r w5 ⟨rfl, q5⟩))
        have H5 := Lib.hid (And.intro (H4.out.1.stays ((Q.drewN _ 1).trans q5)) (And.intro (H4.out.2.1.stays ((Q.drewN _ 1).trans q5)) (H4.out.2.2.trans ((Q.drewN _ 1).trans q5))))
        clear q5 H4
        go_wp2_with fail
        refine (cR.out _ _ _ _ H5.out.2.1).mono ?_; rintro r w' ⟨rfl, rfl⟩
        go_wp2_with fail
        refine (cL.out _ _ _ _ _ H5.out.2.1).mono ?_; rintro r w' ⟨rfl, rfl⟩
        go_wp2_with fail
        go_region_held3 (fun _ => True) (trivial) (first | (go_at_call 13; refine (cB'.out _).mono ?_; rintro r w6 ⟨rfl, q6⟩))
        have H6 := Lib.hid (H5.out.2.2.trans ((Q.drewN _ 1).trans q6))
        clear q6 H5
        go_wp2_with fail
        refine (awake_true _).mono ?_; rintro r w7 ⟨rfl, q7⟩
        go_wp2_with fail
        go_ret
        exact ⟨rfl, H6.out.trans q7⟩
      · subst T
        have b1 : (f == 0) = false := by rw [beq_eq_false_iff_ne]; exact g1
        clear cB g1
        go_enter Try.func6, Try.ntmps6
        go_wp2_with fail
        refine (newReader_any _ _).mono ?_; rintro r w1 ⟨rfl, r1, q1⟩
        have hw1 := q1.size
        have H1 := Lib.hid (And.intro r1 q1)
        clear r1 q1
        unfold ptr
        go_wp2_with fail
        refine (newReader_any _ _).mono ?_; rintro r w2 ⟨rfl, r2, q2⟩
        have hne : w.heap.size < w1.heap.size := H1.out.1.lt
        have H2 := Lib.hid (And.intro (H1.out.1.stays q2) (And.intro r2 (H1.out.2.trans q2)))
        clear r2 q2 H1
        unfold ptr
        go_wp2_with fail
        refine (cN.out _ _ H2.out.1).mono ?_; rintro r w3 ⟨rfl, h3⟩
        have H3 := Lib.hid (And.intro h3.out.1 (And.intro (H2.out.2.1.beside h3.out.2 (by omega)) (H2.out.2.2.thenM h3.out.2 (Nat.le_refl _))))
        clear h3 H2
        go_wp2_with fail
        refine (cS.out _ _ H3.out.2.1).mono ?_; rintro r w4 ⟨rfl, h4⟩
        have H4 := Lib.hid (And.intro (H3.out.1.beside h4.out.2 (by omega)) (And.intro h4.out.1 (H3.out.2.2.thenM h4.out.2 hw1)))
        clear h4 H3
        go_wp2_with fail
        refine (cR.out _ _ _ _ H4.out.1).mono ?_; rintro r w' ⟨rfl, rfl⟩
        go_wp2_with fail
        refine (cL.out _ _ _ _ _ H4.out.1).mono ?_; rintro r w' ⟨rfl, rfl⟩
        go_wp2_with fail
        go_region_held3 (fun _ => True) (trivial) (first | (go_at_call 11; refine (cA'.out _).mono ?_; rintro r w5 ⟨rfl, q5⟩))
        have H5 := Lib.hid (And.intro (H4.out.1.stays ((Q.drewN _ 1).trans q5)) (And.intro (H4.out.2.1.stays ((Q.drewN _ 1).trans q5)) (H4.out.2.2.trans ((Q.drewN _ 1).trans q5))))
        clear q5 H4
        go_wp2_with fail
        refine (cR.out _ _ _ _ H5.out.2.1).mono ?_; rintro r w' ⟨rfl, rfl⟩
        go_wp2_with fail
        refine (cL.out _ _ _ _ _ H5.out.2.1).mono ?_; rintro r w' ⟨rfl, rfl⟩
        go_wp2_with fail
        have H6 := Lib.hid H5.out.2.2
        refine (awake_true _).mono ?_; rintro r w7 ⟨rfl, q7⟩
        go_wp2_with fail
        go_ret
        exact ⟨rfl, H6.out.trans q7⟩
    · subst S
      have a1 : (e == 0) = false := by rw [beq_eq_false_iff_ne]; exact h1
      clear cA h1
      rcases US with ⟨rfl, j, g1, g2, g3, g4, g5⟩ | ⟨g1, rfl, hTT⟩
      · have b1 : decide ((s.size : Int) - (T.size : Int) < 1) = false := decide_eq_false (by omega)
        have b2 : decide ((s.size : Int) < (s.size : Int) - (T.size : Int)) = false := decide_eq_false (by omega)
        have b3 : (0 : Int) ≤ (s.size : Int) - (T.size : Int) := by omega
        have b4 : (s.size : Int) - (T.size : Int) ≤ (s.size : Int) := by omega
        have b5 : (s.size : Int) - (T.size : Int) ≤ 400 := by omega
        have b6 : (T.size : Int) ≤ (s.size : Int) := by omega
        rw [show j = s.size - T.size by omega] at g4
        have cB' : Hid (∀ w, Calls Try.prog 13 #[.string ⟨#[]⟩, .string t] w fun e w' => e = .returned (.string (s.extract 0 (s.size - T.size))) ∧ Q w w') := fun w => by
          have h := cB.out w g5
          rw [g4] at h
          exact h
        clear cB g1 g2 g3 g4 g5
        go_enter Try.func6, Try.ntmps6
        go_wp2_with fail
        refine (newReader_any _ _).mono ?_; rintro r w1 ⟨rfl, r1, q1⟩
        have hw1 := q1.size
        have H1 := Lib.hid (And.intro r1 q1)
        clear r1 q1
        unfold ptr
        go_wp2_with fail
        refine (newReader_any _ _).mono ?_; rintro r w2 ⟨rfl, r2, q2⟩
        have hne : w.heap.size < w1.heap.size := H1.out.1.lt
        have H2 := Lib.hid (And.intro (H1.out.1.stays q2) (And.intro r2 (H1.out.2.trans q2)))
        clear r2 q2 H1
        unfold ptr
        go_wp2_with fail
        refine (cN.out _ _ H2.out.1).mono ?_; rintro r w3 ⟨rfl, h3⟩
        have H3 := Lib.hid (And.intro h3.out.1 (And.intro (H2.out.2.1.beside h3.out.2 (by omega)) (H2.out.2.2.thenM h3.out.2 (Nat.le_refl _))))
        clear h3 H2
        go_wp2_with fail
        refine (cS.out _ _ H3.out.2.1).mono ?_; rintro r w4 ⟨rfl, h4⟩
        have H4 := Lib.hid (And.intro (H3.out.1.beside h4.out.2 (by omega)) (And.intro h4.out.1 (H3.out.2.2.thenM h4.out.2 hw1)))
        clear h4 H3
        go_wp2_with fail
        refine (cR.out _ _ _ _ H4.out.1).mono ?_; rintro r w' ⟨rfl, rfl⟩
        go_wp2_with fail
        refine (cL.out _ _ _ _ _ H4.out.1).mono ?_; rintro r w' ⟨rfl, rfl⟩
        go_wp2_with fail
        have H5 := Lib.hid H4.out
        refine (cR.out _ _ _ _ H5.out.2.1).mono ?_; rintro r w' ⟨rfl, rfl⟩
        go_wp2_with fail
        refine (cL.out _ _ _ _ _ H5.out.2.1).mono ?_; rintro r w' ⟨rfl, rfl⟩
        go_wp2_with fail
        go_region_held3 (fun _ => True) (trivial) (first | (go_at_call 13; refine (cB'.out _).mono ?_; rintro r w6 ⟨rfl, q6⟩))
        have H6 := Lib.hid (H5.out.2.2.trans ((Q.drewN _ 1).trans q6))
        clear q6 H5
        go_wp2_with fail
        refine (awake_true _).mono ?_; rintro r w7 ⟨rfl, q7⟩
        go_wp2_with fail
        go_ret
        exact ⟨rfl, H6.out.trans q7⟩
      · subst T
        have b1 : (f == 0) = false := by rw [beq_eq_false_iff_ne]; exact g1
        clear cB g1
        go_enter Try.func6, Try.ntmps6
        go_wp2_with fail
        refine (newReader_any _ _).mono ?_; rintro r w1 ⟨rfl, r1, q1⟩
        have hw1 := q1.size
        have H1 := Lib.hid (And.intro r1 q1)
        clear r1 q1
        unfold ptr
        go_wp2_with fail
        refine (newReader_any _ _).mono ?_; rintro r w2 ⟨rfl, r2, q2⟩
        have hne : w.heap.size < w1.heap.size := H1.out.1.lt
        have H2 := Lib.hid (And.intro (H1.out.1.stays q2) (And.intro r2 (H1.out.2.trans q2)))
        clear r2 q2 H1
        unfold ptr
        go_wp2_with fail
        refine (cN.out _ _ H2.out.1).mono ?_; rintro r w3 ⟨rfl, h3⟩
        have H3 := Lib.hid (And.intro h3.out.1 (And.intro (H2.out.2.1.beside h3.out.2 (by omega)) (H2.out.2.2.thenM h3.out.2 (Nat.le_refl _))))
        clear h3 H2
        go_wp2_with fail
        refine (cS.out _ _ H3.out.2.1).mono ?_; rintro r w4 ⟨rfl, h4⟩
        have H4 := Lib.hid (And.intro (H3.out.1.beside h4.out.2 (by omega)) (And.intro h4.out.1 (H3.out.2.2.thenM h4.out.2 hw1)))
        clear h4 H3
        go_wp2_with fail
        refine (cR.out _ _ _ _ H4.out.1).mono ?_; rintro r w' ⟨rfl, rfl⟩
        go_wp2_with fail
        refine (cL.out _ _ _ _ _ H4.out.1).mono ?_; rintro r w' ⟨rfl, rfl⟩
        go_wp2_with fail
        have H5 := Lib.hid H4.out
        refine (cR.out _ _ _ _ H5.out.2.1).mono ?_; rintro r w' ⟨rfl, rfl⟩
        go_wp2_with fail
        refine (cL.out _ _ _ _ _ H5.out.2.1).mono ?_; rintro r w' ⟨rfl, rfl⟩
        go_wp2_with fail
        have H6 := Lib.hid H5.out.2.2
        refine (awake_true _).mono ?_; rintro r w7 ⟨rfl, q7⟩
        go_wp2_with fail
        go_ret
        exact ⟨rfl, H6.out.trans q7⟩

end Go.Proofs.Ytnbloidiojedoaa.wir
