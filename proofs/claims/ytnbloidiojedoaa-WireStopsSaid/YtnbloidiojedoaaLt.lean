/- The law WireStops returns true for every input. -/
import Derived.Test.YtnbloidiojedoaaLq
namespace Go.Proofs.Ytnbloidiojedoaa.wir
open Go.RowKit

/-- What the loop knows. -/
def Some1 (p : Nat) (s : ByteArray) (e : Int) (w0 w : World) : Prop := Rd p s e true w ∧ Q w0 w ∧ s.size ≤ 400
theorem Some1.next {w wr w1 : World} {s S : ByteArray} {e E : Int} (h : Some1 w.heap.size s e w wr) (a : After w.heap.size S E wr w1) (hS : S.size ≤ s.size) : Some1 w.heap.size S E w w1 :=
  ⟨a.1, h.2.1.thenM a.2 (Nat.le_refl _), by have := h.2.2; omega⟩
theorem Some1.drewN {p : Nat} {s : ByteArray} {e : Int} {w0 w : World} (h : Some1 p s e w0 w) (n : Nat) : Some1 p s e w0 (w.drewN n) := ⟨h.1, h.2.1.trans (Q.drewN w n), h.2.2⟩
theorem nxS_stop (s : ByteArray) (e : Int) (he : e ≠ 0) : nxS s e = (⟨#[]⟩, s, e) := by
  have e0 : nxC s e 1 = (0, s, e) := if_neg he
  unfold nxS
  rw [e0, if_neg he]
theorem count_fits (s : ByteArray) (N : Int) (h : (nxC s 0 N).2.2 = 0) : 0 ≤ (nxC s 0 N).1 ∧ (nxC s 0 N).1 ≤ ((nxC s 0 N).2.1.size : Int) ∧ (0 < N → (nxC s 0 N).1 ≤ ((nxC s 0 N).2.1.size : Int) / N) := by
  have e0 : nxC s 0 N = (gotN (cnt s (max N 1)), gotS s (cnt s (max N 1)), (cnt s (max N 1)).2.2) := rfl
  rw [e0] at h ⊢
  have h' : (cnt s (max N 1)).2.2 = 0 := h
  obtain ⟨h1, h2, h3, h4⟩ := cnt_yes s _ h'
  have hf := num_fits s
  have e1 : gotN (cnt s (max N 1)) = (num s).1 := by unfold gotN; rw [h4, if_pos h1]
  have e2 : ((gotS s (cnt s (max N 1))).size : Int) = (s.size : Int) - ((num s).2.1 : Int) := by
    unfold gotS
    rw [h4, if_pos h1, ByteArray.size_extract]
    omega
  show 0 ≤ gotN _ ∧ gotN _ ≤ ((gotS s _).size : Int) ∧ (0 < N → gotN _ ≤ ((gotS s _).size : Int) / N)
  rw [e1, e2]
  refine ⟨h2, Int.le_trans h3 (Int.ediv_le_self _ (by omega)), fun hN => ?_⟩
  rw [show max N 1 = N by omega] at h3
  exact h3

set_option maxRecDepth 100000 in
set_option maxHeartbeats 16000000 in
theorem stops_some (s : ByteArray) (A : Option Addr) (n c : Nat) (w : World) (hs : s.size ≤ 400) (hn : n ≤ 60) (hA : ActArg A n w) :
    Calls Try.prog 8 #[.string s, .slice A n c] w fun e w' => e = .returned (.bool true) ∧ Q w w' := by
  have z1 : ¬ (400 : Int) < (s.size : Int) := by omega
  have z2 : ¬ (60 : Int) < (n : Int) := by omega
  have HA := Lib.hid hA
  have HS := Lib.hid hs
  clear hA hs
  go_enter Try.func8, Try.ntmps8
  go_wp2_with fail
  refine (newReader_any _ _).mono ?_; rintro e w3 ⟨rfl, r1, q1⟩
  have H3 : Hid (Some1 w.heap.size s 0 w w3) := ⟨r1, q1, HS.out⟩
  clear r1 q1
  unfold ptr
  go_wp2_with fail
  go_loopw [6] (fun i wr => ∃ (k : Nat) (s' : ByteArray) (e' : Int), k ≤ n ∧ i = .int .i64 k ∧ Hid (Some1 w.heap.size s' e' w wr)) (fun i _ => n - (intOf i).toNat)
  case atStart => exact ⟨0, s, 0, Nat.zero_le _, rfl, H3.out⟩
  case round =>
    obtain ⟨k, s', e', hk, rfl, HB⟩ := hrel
    by_cases hlt : k < n
    · obtain ⟨b, o, K, N, rfl, hA⟩ := HA.out (by omega)
      obtain ⟨a0, a1, a2⟩ := (hA.later HB.out.2.1).2 k hlt
      have hkz : (k : Int) < (n : Int) := by omega
      have hk60 : (k : Int) ≤ 60 := by omega
      have hs4 := HB.out.2.2
      have hmv : Hid (∀ (S : ByteArray) (E : Int) (w1 : World), After w.heap.size S E wr w1 → S.size ≤ s'.size → Some1 w.heap.size S E w w1 ∧ Acts b o n K N w1) := fun S E w1 a hS => ⟨HB.out.next a hS, hA.later (HB.out.next a hS).2.1⟩
      clear hA
      have cL : Hid (∀ p s e m w, Rd p s e m w → Calls Try.prog 23 #[ptr p] w fun r w' => r = .returned (.int .i64 (s.size : Int)) ∧ w = w') := fun p s e m w h => left_any p s e m w h
      have cR : Hid (∀ p s e w, Rd p s e true w → Calls Try.prog 25 #[ptr p] w fun r w' => r = .returned (.int .i64 e) ∧ w = w') := fun p s e w h => err_any p s e w h
      obtain ⟨P, hP⟩ : ∃ P, w.heap.size = P := ⟨_, rfl⟩
      rw [hP] at HB hmv ⊢
      clear hP H3 HA
      by_cases he : e' = 0
      · subst he
        by_cases k0 : K k = 0
        · have k0' := beq_yes k0
          have k2' := beq_no (a := K k) (b := 2) (by omega)
          clear k0
          have cY : Hid (∀ wx, Rd P s' 0 true wx → Calls Try.prog 18 #[ptr P] wx fun r w' => r = .returned (.int .i64 (nxN s' 0).1) ∧ Hid (After P (nxN s' 0).2.1 (nxN s' 0).2.2 wx w')) := fun wx h => number_any P s' 0 wx h (by omega)
          have hsz := Lib.hid (nxN_size s' 0)
          generalize nxN s' 0 = t at *
          obtain ⟨v, S, E⟩ := t
          dsimp only at *
          have fs : decide ((s'.size : Int) < (S.size : Int)) = false := decide_eq_false (by have := hsz.out; omega)
          have fz : decide ((S.size : Int) < 0) = false := decide_eq_false (by omega)
          unfold ptr at *
          clear hk
          go_wp2_with fail
          refine (cR.out _ _ _ _ HB.out.1).mono ?_; rintro r w' ⟨rfl, rfl⟩
          go_wp2_with fail
          refine (cL.out _ _ _ _ _ HB.out.1).mono ?_; rintro r w' ⟨rfl, rfl⟩
          go_wp2_with fail
          refine (cY.out _ HB.out.1).mono ?_; rintro r w4 ⟨rfl, h4⟩
          obtain ⟨n1, n2⟩ := hmv.out _ _ w4 h4.out hsz.out
          have H4 := Lib.hid n1
          obtain ⟨b0, b1, _⟩ := n2.2 k hlt
          clear n1 n2 h4 hmv HB a0 a1
          go_wp2_with fail
          refine (cL.out _ _ _ _ _ H4.out.1).mono ?_; rintro r w' ⟨rfl, rfl⟩
          go_wp2_with fail
          refine (cL.out _ _ _ _ _ H4.out.1).mono ?_; rintro r w' ⟨rfl, rfl⟩
          go_wp2_with fail
          go_quiet (first | (go_at_call 23; exact Calls.quiet_of_same (Calls.mono (cL.out _ _ _ _ _ (Rd.drewN H4.out.1 _)) (fun r w' h => ⟨h.1, h.2.symm⟩))) | (go_at_call 25; exact Calls.quiet_of_same (Calls.mono (cR.out _ _ _ _ (Rd.drewN H4.out.1 _)) (fun r w' h => ⟨h.1, h.2.symm⟩))))
          go_wp2_with fail
          go_roundw
          case rel => exact ⟨k + 1, S, E, by omega, by go_num, H4.out.drewN _⟩
          case measure => simp [intOf]; omega
        · have k0' := beq_no k0
          clear k0
          by_cases k1 : K k = 1
          · have k1' := beq_yes k1
            have k2' := beq_no (a := K k) (b := 2) (by omega)
            clear k1
            have cY : Hid (∀ wx, Rd P s' 0 true wx → Calls Try.prog 20 #[ptr P] wx fun r w' => r = .returned (.string (nxS s' 0).1) ∧ Hid (After P (nxS s' 0).2.1 (nxS s' 0).2.2 wx w')) := fun wx h => string_any P s' 0 wx h (by omega)
            have hsz := Lib.hid (nxS_size s' 0)
            generalize nxS s' 0 = t at *
            obtain ⟨v, S, E⟩ := t
            dsimp only at *
            have fs : decide ((s'.size : Int) < (S.size : Int)) = false := decide_eq_false (by have := hsz.out; omega)
            have fz : decide ((S.size : Int) < 0) = false := decide_eq_false (by omega)
            unfold ptr at *
            clear hk
            go_wp2_with fail
            refine (cR.out _ _ _ _ HB.out.1).mono ?_; rintro r w' ⟨rfl, rfl⟩
            go_wp2_with fail
            refine (cL.out _ _ _ _ _ HB.out.1).mono ?_; rintro r w' ⟨rfl, rfl⟩
            go_wp2_with fail
            refine (cY.out _ HB.out.1).mono ?_; rintro r w4 ⟨rfl, h4⟩
            obtain ⟨n1, n2⟩ := hmv.out _ _ w4 h4.out hsz.out
            have H4 := Lib.hid n1
            obtain ⟨b0, b1, _⟩ := n2.2 k hlt
            clear n1 n2 h4 hmv HB a0 a1
            go_wp2_with fail
            refine (cL.out _ _ _ _ _ H4.out.1).mono ?_; rintro r w' ⟨rfl, rfl⟩
            go_wp2_with fail
            refine (cL.out _ _ _ _ _ H4.out.1).mono ?_; rintro r w' ⟨rfl, rfl⟩
            go_wp2_with fail
            go_quiet (first | (go_at_call 23; exact Calls.quiet_of_same (Calls.mono (cL.out _ _ _ _ _ (Rd.drewN H4.out.1 _)) (fun r w' h => ⟨h.1, h.2.symm⟩))) | (go_at_call 25; exact Calls.quiet_of_same (Calls.mono (cR.out _ _ _ _ (Rd.drewN H4.out.1 _)) (fun r w' h => ⟨h.1, h.2.symm⟩))))
            go_wp2_with fail
            go_roundw
            case rel => exact ⟨k + 1, S, E, by omega, by go_num, H4.out.drewN _⟩
            case measure => simp [intOf]; omega
          · have k1' := beq_no k1
            clear k1
            by_cases k2 : K k = 2
            · have k2' := beq_yes k2
              clear k2
              have CF := count_fits s' (N k)
              have cY : Hid (∀ wx, Rd P s' 0 true wx → Calls Try.prog 22 #[ptr P, .int .i64 (N k)] wx fun r w' => r = .returned (.int .i64 (nxC s' 0 (N k)).1) ∧ Hid (After P (nxC s' 0 (N k)).2.1 (nxC s' 0 (N k)).2.2 wx w')) := fun wx h => count_any P s' 0 (N k) wx h (by omega) a2
              have hsz := Lib.hid (nxC_size s' 0 (N k))
              generalize nxC s' 0 (N k) = t at *
              obtain ⟨v, S, E⟩ := t
              dsimp only at *
              have fs : decide ((s'.size : Int) < (S.size : Int)) = false := decide_eq_false (by have := hsz.out; omega)
              have fz : decide ((S.size : Int) < 0) = false := decide_eq_false (by omega)
              unfold ptr at *
              clear hk
              by_cases hE : E = 0
              · obtain ⟨c1, c2, c3⟩ := CF hE
                have hE' := beq_yes hE
                have d1 : decide (v < 0) = false := decide_eq_false (by omega)
                have d2 : decide ((S.size : Int) < v) = false := decide_eq_false (by omega)
                by_cases hN : 0 < N k
                · have d3 : decide (0 < N k) = true := decide_eq_true hN
                  have d4 : decide ((S.size : Int) / N k < v) = false := decide_eq_false (by have := c3 hN; omega)
                  have d5 : wrap64 ((S.size : Int) / N k) = (S.size : Int) / N k := by
                    have h1 : 0 ≤ (S.size : Int) / N k := Int.ediv_nonneg (by omega) (by omega)
                    have h2 : (S.size : Int) / N k ≤ (S.size : Int) := Int.ediv_le_self _ (by omega)
                    have := hsz.out
                    unfold wrap64
                    omega
                  have d6 : 1 ≤ N k := hN
                  have d7 : (S.size : Int) ≤ 400 := by have := hsz.out; omega
                  clear CF c1 c2 c3 hE hN
                  go_wp2_with fail
                  refine (cR.out _ _ _ _ HB.out.1).mono ?_; rintro r w' ⟨rfl, rfl⟩
                  go_wp2_with fail
                  refine (cL.out _ _ _ _ _ HB.out.1).mono ?_; rintro r w' ⟨rfl, rfl⟩
                  go_wp2_with fail
                  refine (cY.out _ HB.out.1).mono ?_; rintro r w4 ⟨rfl, h4⟩
                  obtain ⟨n1, n2⟩ := hmv.out _ _ w4 h4.out hsz.out
                  have H4 := Lib.hid n1
                  obtain ⟨b0, b1, _⟩ := n2.2 k hlt
                  clear n1 n2 h4 hmv HB a0 a1
                  go_wp2_with fail
                  refine (cL.out _ _ _ _ _ H4.out.1).mono ?_; rintro r w' ⟨rfl, rfl⟩
                  go_wp2_with fail
                  refine (cL.out _ _ _ _ _ H4.out.1).mono ?_; rintro r w' ⟨rfl, rfl⟩
                  go_wp2_with fail
                  go_quiet (first | (go_at_call 23; exact Calls.quiet_of_same (Calls.mono (cL.out _ _ _ _ _ (Rd.drewN H4.out.1 _)) (fun r w' h => ⟨h.1, h.2.symm⟩))) | (go_at_call 25; exact Calls.quiet_of_same (Calls.mono (cR.out _ _ _ _ (Rd.drewN H4.out.1 _)) (fun r w' h => ⟨h.1, h.2.symm⟩))))
                  go_wp2_with fail
                  go_roundw
                  case rel => exact ⟨k + 1, S, E, by omega, by go_num, H4.out.drewN _⟩
                  case measure => simp [intOf]; omega
                · have d3 : decide (0 < N k) = false := decide_eq_false hN
                  clear CF c1 c2 c3 hE hN
                  go_wp2_with fail
                  refine (cR.out _ _ _ _ HB.out.1).mono ?_; rintro r w' ⟨rfl, rfl⟩
                  go_wp2_with fail
                  refine (cL.out _ _ _ _ _ HB.out.1).mono ?_; rintro r w' ⟨rfl, rfl⟩
                  go_wp2_with fail
                  refine (cY.out _ HB.out.1).mono ?_; rintro r w4 ⟨rfl, h4⟩
                  obtain ⟨n1, n2⟩ := hmv.out _ _ w4 h4.out hsz.out
                  have H4 := Lib.hid n1
                  obtain ⟨b0, b1, _⟩ := n2.2 k hlt
                  clear n1 n2 h4 hmv HB a0 a1
                  go_wp2_with fail
                  refine (cL.out _ _ _ _ _ H4.out.1).mono ?_; rintro r w' ⟨rfl, rfl⟩
                  go_wp2_with fail
                  refine (cL.out _ _ _ _ _ H4.out.1).mono ?_; rintro r w' ⟨rfl, rfl⟩
                  go_wp2_with fail
                  go_quiet (first | (go_at_call 23; exact Calls.quiet_of_same (Calls.mono (cL.out _ _ _ _ _ (Rd.drewN H4.out.1 _)) (fun r w' h => ⟨h.1, h.2.symm⟩))) | (go_at_call 25; exact Calls.quiet_of_same (Calls.mono (cR.out _ _ _ _ (Rd.drewN H4.out.1 _)) (fun r w' h => ⟨h.1, h.2.symm⟩))))
                  go_wp2_with fail
                  go_roundw
                  case rel => exact ⟨k + 1, S, E, by omega, by go_num, H4.out.drewN _⟩
                  case measure => simp [intOf]; omega
              · have hE' := beq_no hE
                clear CF hE
                go_wp2_with fail
                refine (cR.out _ _ _ _ HB.out.1).mono ?_; rintro r w' ⟨rfl, rfl⟩
                go_wp2_with fail
                refine (cL.out _ _ _ _ _ HB.out.1).mono ?_; rintro r w' ⟨rfl, rfl⟩
                go_wp2_with fail
                refine (cY.out _ HB.out.1).mono ?_; rintro r w4 ⟨rfl, h4⟩
                obtain ⟨n1, n2⟩ := hmv.out _ _ w4 h4.out hsz.out
                have H4 := Lib.hid n1
                obtain ⟨b0, b1, _⟩ := n2.2 k hlt
                clear n1 n2 h4 hmv HB a0 a1
                go_wp2_with fail
                refine (cL.out _ _ _ _ _ H4.out.1).mono ?_; rintro r w' ⟨rfl, rfl⟩
                go_wp2_with fail
                refine (cL.out _ _ _ _ _ H4.out.1).mono ?_; rintro r w' ⟨rfl, rfl⟩
                go_wp2_with fail
                go_quiet (first | (go_at_call 23; exact Calls.quiet_of_same (Calls.mono (cL.out _ _ _ _ _ (Rd.drewN H4.out.1 _)) (fun r w' h => ⟨h.1, h.2.symm⟩))) | (go_at_call 25; exact Calls.quiet_of_same (Calls.mono (cR.out _ _ _ _ (Rd.drewN H4.out.1 _)) (fun r w' h => ⟨h.1, h.2.symm⟩))))
                go_wp2_with fail
                go_roundw
                case rel => exact ⟨k + 1, S, E, by omega, by go_num, H4.out.drewN _⟩
                case measure => simp [intOf]; omega
            · have k2' := beq_no k2
              have fz : decide ((s'.size : Int) < 0) = false := decide_eq_false (by omega)
              clear k2 hmv
              unfold ptr at *
              clear hk
              go_wp2_with fail
              refine (cR.out _ _ _ _ HB.out.1).mono ?_; rintro r w' ⟨rfl, rfl⟩
              go_wp2_with fail
              refine (cL.out _ _ _ _ _ HB.out.1).mono ?_; rintro r w' ⟨rfl, rfl⟩
              go_wp2_with fail
              refine (cL.out _ _ _ _ _ HB.out.1).mono ?_; rintro r w' ⟨rfl, rfl⟩
              go_wp2_with fail
              refine (cL.out _ _ _ _ _ HB.out.1).mono ?_; rintro r w' ⟨rfl, rfl⟩
              go_wp2_with fail
              go_quiet (first | (go_at_call 23; exact Calls.quiet_of_same (Calls.mono (cL.out _ _ _ _ _ (Rd.drewN HB.out.1 _)) (fun r w' h => ⟨h.1, h.2.symm⟩))) | (go_at_call 25; exact Calls.quiet_of_same (Calls.mono (cR.out _ _ _ _ (Rd.drewN HB.out.1 _)) (fun r w' h => ⟨h.1, h.2.symm⟩))))
              go_wp2_with fail
              go_roundw
              case rel => exact ⟨k + 1, s', 0, by omega, by go_num, HB.out.drewN _⟩
              case measure => simp [intOf]; omega
      · have he1 : (e' != 0) = true := by rw [bne_iff_ne]; exact he
        have he2 : (e' == 0) = false := beq_no he
        have fz : decide ((s'.size : Int) < 0) = false := decide_eq_false (by omega)
        by_cases k0 : K k = 0
        · have k0' := beq_yes k0
          have k2' := beq_no (a := K k) (b := 2) (by omega)
          clear k0
          have cY : Hid (∀ wx, Rd P s' e' true wx → Calls Try.prog 18 #[ptr P] wx fun r w' => r = .returned (.int .i64 0) ∧ Hid (After P s' e' wx w')) := fun wx h => by
            have h2 := number_any P s' e' wx h (by omega)
            rw [show nxN s' e' = (0, s', e') from if_neg he] at h2
            exact h2
          have hsz := Lib.hid (Nat.le_refl s'.size)
          unfold ptr at *
          clear hk he
          go_wp2_with fail
          refine (cR.out _ _ _ _ HB.out.1).mono ?_; rintro r w' ⟨rfl, rfl⟩
          go_wp2_with fail
          refine (cL.out _ _ _ _ _ HB.out.1).mono ?_; rintro r w' ⟨rfl, rfl⟩
          go_wp2_with fail
          refine (cY.out _ HB.out.1).mono ?_; rintro r w4 ⟨rfl, h4⟩
          obtain ⟨n1, n2⟩ := hmv.out _ _ w4 h4.out hsz.out
          have H4 := Lib.hid n1
          obtain ⟨b0, b1, _⟩ := n2.2 k hlt
          clear n1 n2 h4 hmv HB a0 a1
          go_wp2_with fail
          refine (cR.out _ _ _ _ H4.out.1).mono ?_; rintro r w' ⟨rfl, rfl⟩
          go_wp2_with fail
          refine (cL.out _ _ _ _ _ H4.out.1).mono ?_; rintro r w' ⟨rfl, rfl⟩
          go_wp2_with fail
          refine (cL.out _ _ _ _ _ H4.out.1).mono ?_; rintro r w' ⟨rfl, rfl⟩
          go_wp2_with fail
          refine (cL.out _ _ _ _ _ H4.out.1).mono ?_; rintro r w' ⟨rfl, rfl⟩
          go_wp2_with fail
          go_quiet (first | (go_at_call 23; exact Calls.quiet_of_same (Calls.mono (cL.out _ _ _ _ _ (Rd.drewN H4.out.1 _)) (fun r w' h => ⟨h.1, h.2.symm⟩))) | (go_at_call 25; exact Calls.quiet_of_same (Calls.mono (cR.out _ _ _ _ (Rd.drewN H4.out.1 _)) (fun r w' h => ⟨h.1, h.2.symm⟩))))
          go_wp2_with fail
          go_roundw
          case rel => exact ⟨k + 1, s', e', by omega, by go_num, H4.out.drewN _⟩
          case measure => simp [intOf]; omega
        · have k0' := beq_no k0
          clear k0
          by_cases k1 : K k = 1
          · have k1' := beq_yes k1
            have k2' := beq_no (a := K k) (b := 2) (by omega)
            clear k1
            have cY : Hid (∀ wx, Rd P s' e' true wx → Calls Try.prog 20 #[ptr P] wx fun r w' => r = .returned (.string ⟨#[]⟩) ∧ Hid (After P s' e' wx w')) := fun wx h => by
              have h2 := string_any P s' e' wx h (by omega)
              rw [show nxS s' e' = (⟨#[]⟩, s', e') from nxS_stop s' e' he] at h2
              exact h2
            have hsz := Lib.hid (Nat.le_refl s'.size)
            unfold ptr at *
            clear hk he
            go_wp2_with fail
            refine (cR.out _ _ _ _ HB.out.1).mono ?_; rintro r w' ⟨rfl, rfl⟩
            go_wp2_with fail
            refine (cL.out _ _ _ _ _ HB.out.1).mono ?_; rintro r w' ⟨rfl, rfl⟩
            go_wp2_with fail
            refine (cY.out _ HB.out.1).mono ?_; rintro r w4 ⟨rfl, h4⟩
            obtain ⟨n1, n2⟩ := hmv.out _ _ w4 h4.out hsz.out
            have H4 := Lib.hid n1
            obtain ⟨b0, b1, _⟩ := n2.2 k hlt
            clear n1 n2 h4 hmv HB a0 a1
            go_wp2_with fail
            refine (cR.out _ _ _ _ H4.out.1).mono ?_; rintro r w' ⟨rfl, rfl⟩
            go_wp2_with fail
            refine (cL.out _ _ _ _ _ H4.out.1).mono ?_; rintro r w' ⟨rfl, rfl⟩
            go_wp2_with fail
            refine (cL.out _ _ _ _ _ H4.out.1).mono ?_; rintro r w' ⟨rfl, rfl⟩
            go_wp2_with fail
            refine (cL.out _ _ _ _ _ H4.out.1).mono ?_; rintro r w' ⟨rfl, rfl⟩
            go_wp2_with fail
            go_quiet (first | (go_at_call 23; exact Calls.quiet_of_same (Calls.mono (cL.out _ _ _ _ _ (Rd.drewN H4.out.1 _)) (fun r w' h => ⟨h.1, h.2.symm⟩))) | (go_at_call 25; exact Calls.quiet_of_same (Calls.mono (cR.out _ _ _ _ (Rd.drewN H4.out.1 _)) (fun r w' h => ⟨h.1, h.2.symm⟩))))
            go_wp2_with fail
            go_roundw
            case rel => exact ⟨k + 1, s', e', by omega, by go_num, H4.out.drewN _⟩
            case measure => simp [intOf]; omega
          · have k1' := beq_no k1
            clear k1
            by_cases k2 : K k = 2
            · have k2' := beq_yes k2
              clear k2
              have cY : Hid (∀ wx, Rd P s' e' true wx → Calls Try.prog 22 #[ptr P, .int .i64 (N k)] wx fun r w' => r = .returned (.int .i64 0) ∧ Hid (After P s' e' wx w')) := fun wx h => by
                have h2 := count_any P s' e' (N k) wx h (by omega) a2
                rw [show nxC s' e' (N k) = (0, s', e') from if_neg he] at h2
                exact h2
              have hsz := Lib.hid (Nat.le_refl s'.size)
              unfold ptr at *
              clear hk he
              go_wp2_with fail
              refine (cR.out _ _ _ _ HB.out.1).mono ?_; rintro r w' ⟨rfl, rfl⟩
              go_wp2_with fail
              refine (cL.out _ _ _ _ _ HB.out.1).mono ?_; rintro r w' ⟨rfl, rfl⟩
              go_wp2_with fail
              refine (cY.out _ HB.out.1).mono ?_; rintro r w4 ⟨rfl, h4⟩
              obtain ⟨n1, n2⟩ := hmv.out _ _ w4 h4.out hsz.out
              have H4 := Lib.hid n1
              obtain ⟨b0, b1, _⟩ := n2.2 k hlt
              clear n1 n2 h4 hmv HB a0 a1
              go_wp2_with fail
              refine (cR.out _ _ _ _ H4.out.1).mono ?_; rintro r w' ⟨rfl, rfl⟩
              go_wp2_with fail
              refine (cL.out _ _ _ _ _ H4.out.1).mono ?_; rintro r w' ⟨rfl, rfl⟩
              go_wp2_with fail
              refine (cL.out _ _ _ _ _ H4.out.1).mono ?_; rintro r w' ⟨rfl, rfl⟩
              go_wp2_with fail
              refine (cL.out _ _ _ _ _ H4.out.1).mono ?_; rintro r w' ⟨rfl, rfl⟩
              go_wp2_with fail
              go_quiet (first | (go_at_call 23; exact Calls.quiet_of_same (Calls.mono (cL.out _ _ _ _ _ (Rd.drewN H4.out.1 _)) (fun r w' h => ⟨h.1, h.2.symm⟩))) | (go_at_call 25; exact Calls.quiet_of_same (Calls.mono (cR.out _ _ _ _ (Rd.drewN H4.out.1 _)) (fun r w' h => ⟨h.1, h.2.symm⟩))))
              go_wp2_with fail
              go_roundw
              case rel => exact ⟨k + 1, s', e', by omega, by go_num, H4.out.drewN _⟩
              case measure => simp [intOf]; omega
            · have k2' := beq_no k2
              clear k2 hmv
              unfold ptr at *
              clear hk he
              go_wp2_with fail
              refine (cR.out _ _ _ _ HB.out.1).mono ?_; rintro r w' ⟨rfl, rfl⟩
              go_wp2_with fail
              refine (cL.out _ _ _ _ _ HB.out.1).mono ?_; rintro r w' ⟨rfl, rfl⟩
              go_wp2_with fail
              refine (cR.out _ _ _ _ HB.out.1).mono ?_; rintro r w' ⟨rfl, rfl⟩
              go_wp2_with fail
              refine (cL.out _ _ _ _ _ HB.out.1).mono ?_; rintro r w' ⟨rfl, rfl⟩
              go_wp2_with fail
              refine (cL.out _ _ _ _ _ HB.out.1).mono ?_; rintro r w' ⟨rfl, rfl⟩
              go_wp2_with fail
              refine (cL.out _ _ _ _ _ HB.out.1).mono ?_; rintro r w' ⟨rfl, rfl⟩
              go_wp2_with fail
              go_quiet (first | (go_at_call 23; exact Calls.quiet_of_same (Calls.mono (cL.out _ _ _ _ _ (Rd.drewN HB.out.1 _)) (fun r w' h => ⟨h.1, h.2.symm⟩))) | (go_at_call 25; exact Calls.quiet_of_same (Calls.mono (cR.out _ _ _ _ (Rd.drewN HB.out.1 _)) (fun r w' h => ⟨h.1, h.2.symm⟩))))
              go_wp2_with fail
              go_roundw
              case rel => exact ⟨k + 1, s', e', by omega, by go_num, HB.out.drewN _⟩
              case measure => simp [intOf]; omega
    · obtain rfl : k = n := by omega
      have HQ := Lib.hid HB.out.2.1
      clear HA HB H3 hk
      go_wp2_with fail
      refine (awake_true _).mono ?_; rintro e w5 ⟨rfl, q5⟩
      go_wp2_with fail
      go_ret
      exact ⟨rfl, HQ.out.trans q5⟩

theorem stops_any (s : ByteArray) (A : Option Addr) (n c : Nat) (w : World) (hs : s.size ≤ maxLen) (hn : n ≤ maxLen) (hA : ActArg A n w) :
    Calls Try.prog 8 #[.string s, .slice A n c] w fun e w' => e = .returned (.bool true) ∧ Q w w' := by
  unfold maxLen at hs hn
  by_cases h : 400 < s.size
  · have z1 : (400 : Int) < (s.size : Int) := by omega
    clear h hA
    go_enter Try.func8, Try.ntmps8
    go_wp2_with fail
    refine (awake_true _).mono ?_; rintro e w1 ⟨rfl, q1⟩
    go_wp2_with fail
    go_ret
    exact ⟨rfl, q1⟩
  · by_cases h2 : 60 < n
    · have z1 : ¬ (400 : Int) < (s.size : Int) := by omega
      have z2 : (60 : Int) < (n : Int) := by omega
      clear h h2 hA
      go_enter Try.func8, Try.ntmps8
      go_wp2_with fail
      refine (awake_true _).mono ?_; rintro e w1 ⟨rfl, q1⟩
      go_wp2_with fail
      go_ret
      exact ⟨rfl, q1⟩
    · exact stops_some s A n c w (by omega) (by omega) hA

end Go.Proofs.Ytnbloidiojedoaa.wir
