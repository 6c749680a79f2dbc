/- The law GlobMatches. -/
import Derived.Test.YthknlllaclgekaaGx
namespace Go.Proofs.Ythknlllaclgekaa.glo
open Go.RowKit

set_option maxRecDepth 100000 in
set_option maxHeartbeats 4000000 in
theorem refAny_any (A : Option Addr) (n c : Nat) (S : Nat → ByteArray) (s : ByteArray) (w : World) (hn : n ≤ 1000) (hA : StrArg A n S w) (hS : ∀ i, i < n → (S i).size ≤ 2000) (hs : s.size ≤ 1000) :
    Calls Try.prog 16 #[.slice A n c, .string s] w fun e w' => e = .returned (.bool (anyB S s.data.toList n)) ∧ Q w w' := by
  have HA := Lib.hid hA
  have HS := Lib.hid hS
  clear hA hS
  go_enter Try.func16, Try.ntmps16
  go_wp2_with fail
  go_loopw [5] (fun i wr => ∃ k : Nat, k ≤ n ∧ i = .int .i64 k ∧ Hid (anyB S s.data.toList k = false ∧ Q w wr)) (fun i _ => n - (intOf i).toNat)
  case atStart => exact ⟨0, Nat.zero_le _, rfl, rfl, Q.refl _⟩
  case round =>
    obtain ⟨k, hk, rfl, HG⟩ := hrel
    by_cases hlt : k < n
    · have f1 : (k : Int) < (n : Int) := by omega
      obtain ⟨b, o, rfl, hI⟩ := HA.out (by omega)
      have a0 := (hI.later HG.out.2).2 k hlt
      have cM := Lib.hid (refMatch_any (S k) s wr (HS.out k hlt) hs)
      have h1 : Hid (hitB (S k).data.toList s.data.toList = true → anyB S s.data.toList n = true) := anyB_yes hlt
      have h2 : Hid (anyB S s.data.toList (k + 1) = (anyB S s.data.toList k || hitB (S k).data.toList s.data.toList)) := rfl
      generalize hitB (S k).data.toList s.data.toList = H at *
      clear hI
      cases H with
      | true =>
        have HR := Lib.hid (h1.out rfl)
        clear h1 h2
        go_wp2_with fail
        refine (cM.out).mono ?_; rintro e w' ⟨rfl, q⟩
        have HQ := Lib.hid (HG.out.2.trans q)
        clear q HG a0 cM
        go_wp2_with fail
        go_ret
        exact ⟨by rw [HR.out]; rfl, HQ.out⟩
      | false =>
        have HN : Hid (anyB S s.data.toList (k + 1) = false) := by
          have := h2.out
          rw [HG.out.1, Bool.or_false] at this
          exact this
        clear h1 h2
        go_wp2_with fail
        refine (cM.out).mono ?_; rintro e w' ⟨rfl, q⟩
        have HQ := Lib.hid (And.intro HN.out (HG.out.2.trans q))
        clear q HG a0 cM
        go_wp2_with fail
        go_roundw
        case rel => exact ⟨k + 1, by omega, by go_num, HQ⟩
        case measure => simp [intOf]; omega
    · obtain rfl : k = n := by omega
      clear HA HS hlt
      go_wp2_with fail
      go_ret
      exact ⟨by rw [HG.out.1]; rfl, HG.out.2⟩

theorem sees {w w' : World} {a : Addr} {u : Value} (h1 : w.cell? a = some u) (q : Hid (Q w w')) : w'.cell? a = some u ∧ Hid (Q w w') := by
  have lt : a.block < w.heap.size := by
    rcases Nat.lt_or_ge a.block w.heap.size with h' | h'
    · exact h'
    · unfold World.cell? at h1
      rw [Array.getElem?_eq_none h'] at h1
      cases h1
  exact ⟨(Below.cell q.out lt).trans h1, q⟩

set_option maxRecDepth 100000 in
set_option maxHeartbeats 4000000 in
theorem matchesLaw_any (A : Option Addr) (n c : Nat) (s : ByteArray) (w : World) (_hn : n ≤ maxLen) (hA : ∃ S, StrArg A n S w) (_hs : s.size ≤ maxLen) (mx : MX w) :
    Calls Try.prog 4 #[.slice A n c, .string s] w fun e w' => e = .returned (.bool true) ∧ Below w.heap.size w w' := by
  have cA : Hid (∀ w1, Q w w1 → Calls Try.prog 8 #[] w1 fun e w' => e = .returned (.bool true) ∧ Hid (Q w w')) := fun w1 q => by
    exact (awake_true w1 (mx.stays q)).mono fun e w' h => ⟨h.1, q.trans h.2⟩
  have q0 := Lib.hid (Q.refl w)
  by_cases h1 : 6 < n
  · have f1 : (6 : Int) < (n : Int) := by omega
    clear mx h1 _hn _hs hA
    go_enter Try.func4, Try.ntmps4
    go_wp2_with fail
    refine (cA.out _ q0.out).mono ?_; rintro e w1 ⟨rfl, q⟩
    go_wp2_with fail
    go_ret
    exact ⟨rfl, q.out⟩
  · have f1 : ¬ (6 : Int) < (n : Int) := by omega
    by_cases h2 : 300 < s.size
    · have f2 : (300 : Int) < (s.size : Int) := by omega
      clear mx h1 h2 _hn _hs hA
      go_enter Try.func4, Try.ntmps4
      go_wp2_with fail
      refine (cA.out _ q0.out).mono ?_; rintro e w1 ⟨rfl, q⟩
      go_wp2_with fail
      go_ret
      exact ⟨rfl, q.out⟩
    · have f2 : ¬ (300 : Int) < (s.size : Int) := by omega
      obtain ⟨S, hA⟩ := hA
      have HA := Lib.hid hA
      have HM := Lib.hid mx
      have hn6 : n ≤ 6 := by omega
      have hs3 : s.size ≤ 300 := by omega
      clear hA mx _hn _hs h1 h2
      go_enter Try.func4, Try.ntmps4
      go_wp2_with fail
      go_loopw [5] (fun i wr => ∃ k : Nat, k ≤ n ∧ i = .int .i64 k ∧ Hid (Q w wr ∧ ∀ j, j < k → (S j).size ≤ 1100)) (fun i _ => n - (intOf i).toNat)
      case atStart => exact ⟨0, Nat.zero_le _, rfl, q0.out, fun j h => absurd h (by omega)⟩
      case round =>
        obtain ⟨k, hk, rfl, HK⟩ := hrel
        clear q0
        by_cases hlt : k < n
        · have q1 : (k : Int) < (n : Int) := by omega
          obtain ⟨b, o, rfl, hI⟩ := HA.out (by omega)
          have a0 := (hI.later HK.out.1).2 k hlt
          clear hI
          by_cases hb : 1100 < (S k).size
          · have f3 : (1100 : Int) < ((S k).size : Int) := by omega
            have cA1 : Hid (∀ m, Calls Try.prog 8 #[] (wr.drewN m) fun e w' => e = .returned (.bool true) ∧ Hid (Q w w')) := fun m => cA.out _ (HK.out.1.trans (Q.drewN wr m))
            clear hb HK HM HA cA
            go_wp2_with fail
            go_quiet (fail)
            go_wp2_with fail
            refine (cA1.out _).mono ?_; rintro e w1 ⟨rfl, q⟩
            go_wp2_with fail
            go_ret
            exact ⟨rfl, q.out⟩
          · have f3 : decide ((1100 : Int) < ((S k).size : Int)) = false := decide_eq_false (by omega)
            have cM : Hid (∀ w1, Hid (Q wr w1) → Calls Try.prog 13 #[.string (S k), .string s] w1 fun e w' => e = .returned (.bool (hitB (S k).data.toList s.data.toList)) ∧ Hid (Q wr w')) := fun w1 q => by
              exact (match_any (S k) s w1 ((HM.out.stays HK.out.1).stays q.out) (by omega) (by omega)).mono fun e w' h => ⟨h.1, q.out.trans h.2⟩
            have cR : Hid (∀ w1, Hid (Q wr w1) → Calls Try.prog 14 #[.string (S k), .string s] w1 fun e w' => e = .returned (.bool (hitB (S k).data.toList s.data.toList)) ∧ Hid (Q wr w')) := fun w1 q => by
              exact (refMatch_any (S k) s w1 (by omega) (by omega)).mono fun e w' h => ⟨h.1, q.out.trans h.2⟩
            have HN : Hid (∀ w1, Q wr w1 → Q w w1 ∧ ∀ j, j < k + 1 → (S j).size ≤ 1100) := fun w1 q => ⟨HK.out.1.trans q, fun j hj => by
              by_cases e : j < k
              · exact HK.out.2 j e
              · obtain rfl : j = k := by omega
                omega⟩
            have k1 : Hid (Q wr wr.drew) := Lib.hid (Q.drewN wr 1)
            generalize hitB (S k).data.toList s.data.toList = H at *
            clear HA HM HK hb cA
            go_wp2_with fail
            go_region_held3 (fun w' => w'.cell? ⟨b, o + k, none⟩ = some (.string (S k)) ∧ Hid (Q wr w')) ((refine sees a0 ?_; assumption))
              (first | (go_at_call 13; refine (cM.out _ (And.right ‹_›)).mono ?_; rintro r w5 ⟨rfl, h5⟩) | (go_at_call 14; refine (cR.out _ (And.right ‹_›)).mono ?_; rintro r w6 ⟨rfl, h6⟩))
            clear cM cR h5 k1
            go_wp2_with fail
            go_roundw
            case rel => exact ⟨k + 1, by omega, by go_num, HN.out _ h6.out⟩
            case measure => simp [intOf]; omega
        · obtain rfl : k = n := by omega
          have cG : Hid (Calls Try.prog 15 #[.slice A k c, .string s] wr fun e w' => e = .returned (.bool (anyB S s.data.toList k)) ∧ Hid (Q w w')) :=
            (globAny_any A k c S s wr (HM.out.stays HK.out.1) (by omega) (fun h => by
              obtain ⟨b, o, e, hI⟩ := HA.out h
              exact ⟨b, o, e, hI.later HK.out.1⟩) (fun i hi => by have := HK.out.2 i hi; omega) (by omega)).mono fun e w' h => ⟨h.1, HK.out.1.trans h.2⟩
          have cR : Hid (∀ w1, Hid (Q w w1) → Calls Try.prog 16 #[.slice A k c, .string s] w1 fun e w' => e = .returned (.bool (anyB S s.data.toList k)) ∧ Hid (Q w w')) := fun w1 q =>
            (refAny_any A k c S s w1 (by omega) (fun h => by
              obtain ⟨b, o, e, hI⟩ := HA.out h
              exact ⟨b, o, e, hI.later q.out⟩) (fun i hi => by have := HK.out.2 i hi; omega) (by omega)).mono fun e w' h => ⟨h.1, q.out.trans h.2⟩
          generalize anyB S s.data.toList k = H at *
          clear HA HM HK hlt
          go_wp2_with fail
          refine (cG.out).mono ?_; rintro e w1 ⟨rfl, q1⟩
          go_wp2_with fail
          refine (cR.out _ q1).mono ?_; rintro e w2 ⟨rfl, q2⟩
          go_wp2_with fail
          refine (cA.out _ q2.out).mono ?_; rintro e w3 ⟨rfl, q3⟩
          go_wp2_with fail
          go_ret
          exact ⟨rfl, q3.out⟩

end Go.Proofs.Ythknlllaclgekaa.glo
