/- The laws GlobLiterals and GlobWidens. -/
import Derived.Test.YthknlllaclgekaaGf
namespace Go.Proofs.Ythknlllaclgekaa.glo
open Go.RowKit

theorem hitB_plain (p s : List UInt8) (h : plain p = true) : hitB p s = ((chk p == 0) && decide (s = p)) := by
  rw [Bool.eq_iff_iff, hitB_iff, Bool.and_eq_true, beq_iff_eq, decide_eq_true_iff]
  exact hit_plain p s ((plain_iff p).1 h)
theorem bytes_eq (p s : ByteArray) : (s.toList == p.toList) = decide (s.data.toList = p.data.toList) := by
  rw [Lib.toList_data, Lib.toList_data, Bool.eq_iff_iff, beq_iff_eq, decide_eq_true_iff]

set_option maxRecDepth 100000 in
set_option maxHeartbeats 2000000 in
theorem literals_any (p s : ByteArray) (w : World) (_hp : p.size ≤ maxLen) (_hs : s.size ≤ maxLen) (mx : MX w) :
    Calls Try.prog 6 #[.string p, .string s] w fun e w' => e = .returned (.bool true) ∧ Below w.heap.size w w' := by
  have cA := Lib.hid (awake_true w mx)
  by_cases h1 : 1100 < p.size
  · have f1 : (1100 : Int) < (p.size : Int) := by omega
    clear mx h1 _hp _hs
    go_enter Try.func6, Try.ntmps6
    go_wp2_with fail
    refine (cA.out).mono ?_; rintro e w1 ⟨rfl, q⟩
    have q := Lib.hid q
    go_wp2_with fail
    go_ret
    exact ⟨rfl, q.out⟩
  · by_cases h2 : 1100 < s.size
    · have f1 : ¬ (1100 : Int) < (p.size : Int) := by omega
      have f2 : (1100 : Int) < (s.size : Int) := by omega
      clear mx h1 h2 _hp _hs
      go_enter Try.func6, Try.ntmps6
      go_wp2_with fail
      refine (cA.out).mono ?_; rintro e w1 ⟨rfl, q⟩
      have q := Lib.hid q
      go_wp2_with fail
      go_ret
      exact ⟨rfl, q.out⟩
    · have f1 : ¬ (1100 : Int) < (p.size : Int) := by omega
      have f2 : decide ((1100 : Int) < (s.size : Int)) = false := decide_eq_false (by omega)
      have cL := Lib.hid (literal_any p w)
      cases hl : plain p.data.toList with
      | false =>
        rw [hl] at cL
        clear mx h1 h2 _hp _hs hl
        go_enter Try.func6, Try.ntmps6
        go_wp2_with fail
        refine (cL.out).mono ?_; rintro e w1 ⟨rfl, rfl⟩
        go_wp2_with fail
        refine (cA.out).mono ?_; rintro e w1 ⟨rfl, q⟩
        have q := Lib.hid q
        go_wp2_with fail
        go_ret
        exact ⟨rfl, q.out⟩
      | true =>
        rw [hl] at cL
        have cC := Lib.hid (check_any p w mx (by omega))
        have c1 : Hid (Calls Try.prog 13 #[.string p, .string p] w fun e w' => e = .returned (.bool (chk p.data.toList == 0)) ∧ Q w w') := by
          have h := match_any p p w mx (by omega) (by omega)
          rw [hitB_plain _ _ hl, decide_eq_true (rfl : p.data.toList = p.data.toList), Bool.and_true] at h
          exact h
        have c2 : Hid (∀ w1, Q w w1 → Calls Try.prog 13 #[.string p, .string s] w1 fun e w' => e = .returned (.bool ((chk p.data.toList == 0) && (s.toList == p.toList))) ∧ Q w w') := fun w1 q => by
          have h := match_any p s w1 (mx.stays q) (by omega) (by omega)
          rw [hitB_plain _ _ hl, ← bytes_eq] at h
          exact h.mono fun e w' h => ⟨h.1, q.trans h.2⟩
        have cA2 : Hid (∀ w1, Q w w1 → Calls Try.prog 8 #[] w1 fun e w' => e = .returned (.bool true) ∧ Q w w') := fun w1 q => by
          exact (awake_true w1 (mx.stays q)).mono fun e w' h => ⟨h.1, q.trans h.2⟩
        clear mx h1 h2 _hp _hs hl cA
        generalize chk p.data.toList = C at *
        cases hc : (C == 0) with
        | true =>
          rw [hc] at c1 c2
          simp only [Bool.true_and] at c2
          go_enter Try.func6, Try.ntmps6
          go_wp2_with fail
          refine (cL.out).mono ?_; rintro e w1 ⟨rfl, rfl⟩
          go_wp2_with fail
          refine (cC.out).mono ?_; rintro e w1 ⟨rfl, rfl⟩
          go_wp2_with fail
          refine (c1.out).mono ?_; rintro e w1 ⟨rfl, q⟩
          have q1 := Lib.hid q; clear q c1
          go_wp2_with fail
          refine (c2.out _ q1.out).mono ?_; rintro e w2 ⟨rfl, q⟩
          have q2 := Lib.hid q; clear q c2
          go_wp2_with fail
          refine (cA2.out _ q2.out).mono ?_; rintro e w3 ⟨rfl, q⟩
          have q3 := Lib.hid q; clear q cA2
          go_wp2_with fail
          go_ret
          exact ⟨rfl, q3.out⟩
        | false =>
          rw [hc] at c1 c2
          simp only [Bool.false_and] at c2
          go_enter Try.func6, Try.ntmps6
          go_wp2_with fail
          refine (cL.out).mono ?_; rintro e w1 ⟨rfl, rfl⟩
          go_wp2_with fail
          refine (cC.out).mono ?_; rintro e w1 ⟨rfl, rfl⟩
          go_wp2_with fail
          refine (c1.out).mono ?_; rintro e w1 ⟨rfl, q⟩
          have q1 := Lib.hid q; clear q c1
          go_wp2_with fail
          refine (c2.out _ q1.out).mono ?_; rintro e w2 ⟨rfl, q⟩
          have q2 := Lib.hid q; clear q c2
          go_wp2_with fail
          refine (cA2.out _ q2.out).mono ?_; rintro e w3 ⟨rfl, q⟩
          have q3 := Lib.hid q; clear q cA2
          go_wp2_with fail
          go_ret
          exact ⟨rfl, q3.out⟩

end Go.Proofs.Ythknlllaclgekaa.glo
