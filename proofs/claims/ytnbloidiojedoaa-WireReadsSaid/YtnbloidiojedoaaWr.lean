/- The reference's Reader. -/
import Derived.Test.YtnbloidiojedoaaWc
namespace Go.Proofs.Ytnbloidiojedoaa.wir
open Go.RowKit

/-- A Reader of the reference. -/
def xv (s : ByteArray) (e : Int) : Value := .agg #[.string s, .int .i64 e]
theorem fail_any (s : ByteArray) (e f : Int) (w : World) :
    Calls Try.prog 30 #[xv s e, .int .i64 f] w fun r w' => r = .returned (xv s f) ∧ Q w w' := by
  unfold xv
  go_enter Try.func30, Try.ntmps30
  go_wp2_with fail
  go_returns
  exact ⟨rfl, Below.alloc (Below.alloc (Below.refl _ _) (Nat.le_refl _) _) (by simp) _⟩

/-- What Number and Count return of what they found. -/
def xres (s : ByteArray) (t : Int × Nat × Int) : Ending := .returned (.tuple #[xv (gotS s t) t.2.2, .int .i64 (gotN t)])
theorem xres_no (s : ByteArray) (e : Int) (he : e ≠ 0) : xres s (0, 0, e) = .returned (.tuple #[xv s e, .int .i64 0]) := by
  unfold xres gotS gotN
  rw [if_neg he, if_neg he]
theorem xres_yes (s : ByteArray) (n : Int) (k : Nat) : xres s (n, k, 0) = .returned (.tuple #[xv (s.extract k s.size) 0, .int .i64 n]) := rfl

theorem second_new (w : World) (o : Obj) (s : ByteArray) (e : Int) {w1 : World} (q : Q ((w.alloc o).alloc (.cells #[.string s, .int .i64 e] 31)) w1) : Xd (w.heap.size + 1) s e w1 := by
  have h := Xd.new s e (w.alloc o)
  rw [show (w.alloc o).heap.size = w.heap.size + 1 from Array.size_push ..] at h
  exact h.stays q
theorem Xd.put {b : Nat} {s : ByteArray} {e : Int} {w : World} (h : Xd b s e w) (t : ByteArray) (f : Int) : Xd b t f ((w.setCell ⟨b, 0, none⟩ (.string t)).setCell ⟨b, 1, none⟩ (.int .i64 f)) := set_of (set_of h 0 _) 1 _
theorem Xd.mid {b : Nat} {s : ByteArray} {e : Int} {w : World} (h : Xd b s e w) (t : ByteArray) : (w.setCell ⟨b, 0, none⟩ (.string t)).cell? ⟨b, 0, none⟩ = some (.string t) := cell_of (set_of h 0 _) 0
theorem Q.put {a w : World} (q : Q a w) (b : Nat) (hb : a.heap.size ≤ b) (t : ByteArray) (f : Int) : Q a ((w.setCell ⟨b, 0, none⟩ (.string t)).setCell ⟨b, 1, none⟩ (.int .i64 f)) := (q.setCell (p := ⟨b, 0, none⟩) hb _).setCell (p := ⟨b, 1, none⟩) hb _
theorem second_q (w : World) (o o2 : Obj) {w1 : World} (q : Q ((w.alloc o).alloc o2) w1) : Q w w1 :=
  Q.trans (Below.alloc (Below.alloc (Below.refl _ _) (Nat.le_refl _) _) (by simp) _) q
theorem two_new (w : World) (s : ByteArray) (e : Int) : ∃ W2, (w.alloc (.cells #[.string s, .int .i64 e] 31)).alloc (.cells #[.string ⟨#[]⟩, .int .i64 0] 31) = W2 ∧ Xd w.heap.size s e W2 ∧ Xd (w.heap.size + 1) ⟨#[]⟩ 0 W2 ∧ Q w W2 ∧ w.heap.size + 2 = W2.heap.size :=
  ⟨_, rfl, (Xd.new s e w).stays (Below.alloc (Below.refl _ _) (Nat.le_refl _) _), second_new w _ _ _ (Q.refl _), second_q w _ _ (Q.refl _), by show _ = ((w.heap.push _).push _).size; rw [Array.size_push, Array.size_push]⟩

set_option maxRecDepth 100000 in
set_option maxHeartbeats 4000000 in
theorem rnumber_ok (s : ByteArray) (w : World) :
    Calls Try.prog 17 #[xv s 0] w fun e w' => e = xres s (num s) ∧ Q w w' := by
  have h0 : Hid (Got s (num s) 0 0) := ⟨by rw [List.drop_zero]; rfl, by decide, by decide⟩
  generalize num s = ANS at *
  have cF : Hid (∀ (f : Int) w, Calls Try.prog 30 #[xv s 0, .int .i64 f] w fun r w' => r = .returned (xv s f) ∧ Q w w') := fun f w => fail_any s 0 f w
  obtain ⟨W2, hW, XA, XB, QW, hsz⟩ := two_new w s 0
  have a0 := XA.c0
  have a1 := XA.c1
  have HB : Hid (Xd (w.heap.size + 1) ⟨#[]⟩ 0 W2 ∧ Q w W2) := ⟨XB, QW⟩
  clear XA XB QW
  unfold xv at *
  go_enter Try.func17, Try.ntmps17
  go_wp2_with fail
  clear hW
  go_loop [4, 5] (fun x i => ∃ k u : Nat, k ≤ s.size ∧ i = .int .i64 k ∧ x = .int .u64 (u : Int) ∧ Hid (Got s ANS k u)) (fun _ i => 10 - (intOf i).toNat)
  case atStart => exact ⟨0, 0, Nat.zero_le _, rfl, rfl, h0.out⟩
  case round =>
    obtain ⟨k, u, hk, rfl, rfl, HG⟩ := hrel
    have hk9 := HG.out.2.2
    have f0 : (k : Int) < 10 := by omega
    clear h0
    by_cases hlt : k < s.size
    · by_cases h9 : k = 9 ∧ 1 < s[k].toNat
      · have f1 : ((k : Int) == 9) = true := by rw [beq_iff_eq]; omega
        have f2 : 1 < (s[k].toNat : Int) := by omega
        have HA : Hid (ANS = (0, 0, 5)) := by obtain ⟨rfl, h9⟩ := h9; exact Got.range HG.out hlt h9
        clear h9 hk hk9 HG
        go_wp2_with fail
        refine (cF.out _ _).mono ?_; rintro e w1 ⟨rfl, q1⟩
        have X1 := HB.out.1.stays q1
        have Q1 := Lib.hid (HB.out.2.trans q1)
        have c0 := X1.c0
        have c1 := X1.c1
        have z0 := X1.frozen 0
        have z1 := X1.frozen 1
        have y1 := (X1.put s 5).c0
        have y2 := (X1.put s 5).c1
        have QP := Lib.hid (Q1.out.put (w.heap.size + 1) (by omega) s 5)
        clear X1 q1 Q1
        go_wp2_with fail
        refine bodyPost_ret (by simp [results, Try.results17, go_sem, y1, y2]; try rfl) rfl ?_
        exact ⟨by rw [HA.out, xres_no s 5 (by decide)]; rfl, QP.out⟩
      · by_cases h2 : 128 ≤ s[k].toNat
        · have f1 : ((k : Int) == 9) = false := by rw [beq_eq_false_iff_ne]; omega
          have f2 : ¬ (s[k].toNat : Int) < 128 := by omega
          have HN := Lib.hid (Got.more HG.out hlt (by omega) h2)
          have HV := Lib.hid (group_val u s[k].toNat k HG.out.2.1 (by omega))
          clear h9 h2 hk hk9 HG cF
          go_wp2_with fail
          go_round
          case rel => exact ⟨k + 1, _, by omega, by go_num, by rw [HV.out], HN.out⟩
          case measure => simp [intOf]; omega
        · have f2 : (s[k].toNat : Int) < 128 := by omega
          by_cases h3 : s[k].toNat = 0 ∧ 0 < k
          · have HA : Hid (ANS = (0, 0, 1)) := Got.zero HG.out hlt h3.2 h3.1
            have f4 : ((s[k].toNat : Int) == 0) = true := by rw [beq_iff_eq]; omega
            have f5 : 0 < (k : Int) := by omega
            by_cases hk9 : k = 9
            · have f1 : ((k : Int) == 9) = true := by rw [beq_iff_eq]; omega
              have f6 : decide (1 < (s[k].toNat : Int)) = false := decide_eq_false (by omega)
              clear h9 h2 h3 hk HG hk9
              go_wp2_with fail
              refine (cF.out _ _).mono ?_; rintro e w1 ⟨rfl, q1⟩
              have X1 := HB.out.1.stays q1
              have Q1 := Lib.hid (HB.out.2.trans q1)
              have c0 := X1.c0
              have c1 := X1.c1
              have z0 := X1.frozen 0
              have z1 := X1.frozen 1
              have y1 := (X1.put s 1).c0
              have y2 := (X1.put s 1).c1
              have QP := Lib.hid (Q1.out.put (w.heap.size + 1) (by omega) s 1)
              clear X1 q1 Q1
              go_wp2_with fail
              refine bodyPost_ret (by simp [results, Try.results17, go_sem, y1, y2]; try rfl) rfl ?_
              exact ⟨by rw [HA.out, xres_no s 1 (by decide)]; rfl, QP.out⟩
            · have f1 : ((k : Int) == 9) = false := by rw [beq_eq_false_iff_ne]; omega
              clear h9 h2 h3 hk HG hk9
              go_wp2_with fail
              refine (cF.out _ _).mono ?_; rintro e w1 ⟨rfl, q1⟩
              have X1 := HB.out.1.stays q1
              have Q1 := Lib.hid (HB.out.2.trans q1)
              have c0 := X1.c0
              have c1 := X1.c1
              have z0 := X1.frozen 0
              have z1 := X1.frozen 1
              have y1 := (X1.put s 1).c0
              have y2 := (X1.put s 1).c1
              have QP := Lib.hid (Q1.out.put (w.heap.size + 1) (by omega) s 1)
              clear X1 q1 Q1
              go_wp2_with fail
              refine bodyPost_ret (by simp [results, Try.results17, go_sem, y1, y2]; try rfl) rfl ?_
              exact ⟨by rw [HA.out, xres_no s 1 (by decide)]; rfl, QP.out⟩
          · have HA := Lib.hid (Got.last HG.out hlt h9 (by omega) h3)
            have hV := group_val u s[k].toNat k HG.out.2.1 (by omega)
            have CU : Hid (∀ w, Calls Try.prog 31 #[.int .u64 (bits .or .u64 (u : Int) (IntKind.u64.wrap ((s[k].toNat : Int) % 128 * 2 ^ (7 * k))))] w fun e w' => e = .returned (.int .i64 (zag (u + s[k].toNat % 128 * 128 ^ k))) ∧ w = w') := fun w => by
              rw [hV]
              exact zag_any _ w (group_lt _ _ _ HG.out.2.1 (by omega))
            have f7 : (k : Int) + 1 ≤ (s.size : Int) := by omega
            have f8 : 0 ≤ (k : Int) + 1 := by omega
            have hw : IntKind.i64.wrap ((k : Int) + 1) = (k : Int) + 1 := by simp [IntKind.wrap, IntKind.signed, IntKind.bits]; omega
            have ht : ((k : Int) + 1).toNat = k + 1 := by omega
            clear hV cF
            by_cases hk9 : k = 9
            · have f1 : ((k : Int) == 9) = true := by rw [beq_iff_eq]; omega
              have f6 : decide (1 < (s[k].toNat : Int)) = false := decide_eq_false (by omega)
              have f4 : ((s[k].toNat : Int) == 0) = false := by rw [beq_eq_false_iff_ne]; omega
              have f5 : 0 < (k : Int) := by omega
              clear h9 h2 h3 hk HG hk9
              have c0 := HB.out.1.c0
              have c1 := HB.out.1.c1
              have z0 := HB.out.1.frozen 0
              have z1 := HB.out.1.frozen 1
              have y1 := (HB.out.1.put (s.extract (k + 1) s.size) 0).c0
              have y2 := (HB.out.1.put (s.extract (k + 1) s.size) 0).c1
              have QP := Lib.hid (HB.out.2.put (w.heap.size + 1) (by omega) (s.extract (k + 1) s.size) 0)
              clear HB
              go_wp2_with fail
              go_region_with (first | (go_at_call 31; refine (CU.out _).mono ?_; rintro e w' ⟨rfl, rfl⟩))
              all_goals
                go_wp2_with fail
                refine bodyPost_ret (by simp [results, Try.results17, go_sem, y1, y2]; try rfl) rfl ?_
                exact ⟨by rw [HA.out, xres_yes]; rfl, QP.out.drew⟩
            · have f1 : ((k : Int) == 9) = false := by rw [beq_eq_false_iff_ne]; omega
              by_cases hc : 0 < k
              · have f4 : ((s[k].toNat : Int) == 0) = false := by rw [beq_eq_false_iff_ne]; omega
                have f5 : 0 < (k : Int) := by omega
                clear h9 h2 h3 hk HG hk9 hc
                have c0 := HB.out.1.c0
                have c1 := HB.out.1.c1
                have z0 := HB.out.1.frozen 0
                have z1 := HB.out.1.frozen 1
                have y1 := (HB.out.1.put (s.extract (k + 1) s.size) 0).c0
                have y2 := (HB.out.1.put (s.extract (k + 1) s.size) 0).c1
                have QP := Lib.hid (HB.out.2.put (w.heap.size + 1) (by omega) (s.extract (k + 1) s.size) 0)
                clear HB
                go_wp2_with fail
                go_region_with (first | (go_at_call 31; refine (CU.out _).mono ?_; rintro e w' ⟨rfl, rfl⟩))
                all_goals
                  go_wp2_with fail
                  refine bodyPost_ret (by simp [results, Try.results17, go_sem, y1, y2]; try rfl) rfl ?_
                  exact ⟨by rw [HA.out, xres_yes]; rfl, QP.out.drew⟩
              · have f5 : ¬ 0 < (k : Int) := by omega
                clear h9 h2 h3 hk HG hk9 hc
                have c0 := HB.out.1.c0
                have c1 := HB.out.1.c1
                have z0 := HB.out.1.frozen 0
                have z1 := HB.out.1.frozen 1
                have y1 := (HB.out.1.put (s.extract (k + 1) s.size) 0).c0
                have y2 := (HB.out.1.put (s.extract (k + 1) s.size) 0).c1
                have QP := Lib.hid (HB.out.2.put (w.heap.size + 1) (by omega) (s.extract (k + 1) s.size) 0)
                clear HB
                go_wp2_with fail
                go_region_with (first | (go_at_call 31; refine (CU.out _).mono ?_; rintro e w' ⟨rfl, rfl⟩))
                all_goals
                  go_wp2_with fail
                  refine bodyPost_ret (by simp [results, Try.results17, go_sem, y1, y2]; try rfl) rfl ?_
                  exact ⟨by rw [HA.out, xres_yes]; rfl, QP.out.drew⟩
    · obtain rfl : k = s.size := by omega
      have HA := Lib.hid (Got.short HG.out)
      clear HG hk9 hk hlt
      go_wp2_with fail
      refine (cF.out _ _).mono ?_; rintro e w1 ⟨rfl, q1⟩
      have X1 := HB.out.1.stays q1
      have Q1 := Lib.hid (HB.out.2.trans q1)
      have c0 := X1.c0
      have c1 := X1.c1
      have z0 := X1.frozen 0
      have z1 := X1.frozen 1
      have y1 := (X1.put s 40).c0
      have y2 := (X1.put s 40).c1
      have QP := Lib.hid (Q1.out.put (w.heap.size + 1) (by omega) s 40)
      clear X1 q1 Q1
      go_wp2_with fail
      refine bodyPost_ret (by simp [results, Try.results17, go_sem, y1, y2]; try rfl) rfl ?_
      exact ⟨by rw [HA.out, xres_no s 40 (by decide)]; rfl, QP.out⟩

end Go.Proofs.Ytnbloidiojedoaa.wir
