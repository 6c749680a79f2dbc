/- The reference's Number, Count and String, whatever the Reader's error. -/
import Derived.Test.YtnbloidiojedoaaWr
import Derived.Test.YtnbloidiojedoaaWn
namespace Go.Proofs.Ytnbloidiojedoaa.wir
open Go.RowKit

set_option maxRecDepth 100000 in
set_option maxHeartbeats 4000000 in
theorem rnumber_stop (s : ByteArray) (e : Int) (w : World) (he : e ≠ 0) :
    Calls Try.prog 17 #[xv s e] w fun r w' => r = .returned (.tuple #[xv s e, .int .i64 0]) ∧ Q w w' := by
  have he1 : (e != 0) = true := by rw [bne_iff_ne]; exact he
  obtain ⟨W2, hW, XA, XB, QW, hsz⟩ := two_new w s e
  have a0 := XA.c0
  have a1 := XA.c1
  have c0 := XB.c0
  have c1 := XB.c1
  have z0 := XB.frozen 0
  have z1 := XB.frozen 1
  have y1 := (XB.put s e).c0
  have y2 := (XB.put s e).c1
  have QP := Lib.hid (QW.put (w.heap.size + 1) (by omega) s e)
  clear XA XB QW he
  unfold xv at *
  go_enter Try.func17, Try.ntmps17
  go_wp2_with fail
  refine bodyPost_ret (by simp [results, Try.results17, go_sem, y1, y2]; try rfl) rfl ?_
  exact ⟨rfl, QP.out⟩
theorem rnumber_any (s : ByteArray) (e : Int) (w : World) :
    Calls Try.prog 17 #[xv s e] w fun r w' => r = .returned (.tuple #[xv (nxN s e).2.1 (nxN s e).2.2, .int .i64 (nxN s e).1]) ∧ Q w w' := by
  by_cases he : e = 0
  · subst he
    exact rnumber_ok s w
  · have e1 : nxN s e = (0, s, e) := if_neg he
    rw [e1]
    exact rnumber_stop s e w he

set_option maxRecDepth 100000 in
set_option maxHeartbeats 4000000 in
theorem rcount_stop (s : ByteArray) (e least : Int) (w : World) (he : e ≠ 0) :
    Calls Try.prog 21 #[xv s e, .int .i64 least] w fun r w' => r = .returned (.tuple #[xv s e, .int .i64 0]) ∧ Q w w' := by
  have he1 : (e != 0) = true := by rw [bne_iff_ne]; exact he
  obtain ⟨W2, hW, XA, XB, QW, hsz⟩ := two_new w s e
  have a0 := XA.c0
  have a1 := XA.c1
  have c0 := XB.c0
  have c1 := XB.c1
  have z0 := XB.frozen 0
  have z1 := XB.frozen 1
  have y1 := (XB.put s e).c0
  have y2 := (XB.put s e).c1
  have QP := Lib.hid (QW.put (w.heap.size + 1) (by omega) s e)
  clear XA XB QW he
  unfold xv at *
  go_enter Try.func21, Try.ntmps21
  go_wp2_with fail
  refine bodyPost_ret (by simp [results, Try.results21, go_sem, y1, y2]; try rfl) rfl ?_
  exact ⟨rfl, QP.out⟩

theorem one_new (w : World) (s : ByteArray) (e : Int) : ∃ W3, w.alloc (.cells #[.string s, .int .i64 e] 31) = W3 ∧ Xd w.heap.size s e W3 ∧ Q w W3 :=
  ⟨_, rfl, Xd.new s e w, Below.alloc (Below.refl _ _) (Nat.le_refl _) _⟩

set_option maxRecDepth 100000 in
set_option maxHeartbeats 4000000 in
theorem rcount_ok (s : ByteArray) (least : Int) (w : World) (hs : s.size ≤ 1000000) (hl : least ≤ 9223372036854775807) :
    Calls Try.prog 21 #[xv s 0, .int .i64 least] w fun r w' => r = xres s (cnt s (max least 1)) ∧ Q w w' := by
  have cN0 : Hid (∀ w, Calls Try.prog 17 #[xv s 0] w fun e w' => e = xres s (num s) ∧ Q w w') := fun w => rnumber_ok s w
  have cF : Hid (∀ (f : Int) w, Calls Try.prog 30 #[xv s 0, .int .i64 f] w fun r w' => r = .returned (xv s f) ∧ Q w w') := fun f w => fail_any s 0 f w
  obtain ⟨f1, f2, f3, f4⟩ := num_fits s
  have hC : cnt s (max least 1) = cnt s (max least 1) := rfl
  conv at hC => rhs; unfold cnt
  generalize cnt s (max least 1) = C at *
  generalize num s = t at *
  obtain ⟨n, k, e⟩ := t
  obtain ⟨W2, hW, XA, XB, QW, hsz⟩ := two_new w s 0
  have a0 := XA.c0
  have a1 := XA.c1
  have HB : Hid (Xd (w.heap.size) s 0 W2 ∧ Xd (w.heap.size + 1) ⟨#[]⟩ 0 W2 ∧ Q w W2) := ⟨XA, XB, QW⟩
  clear XA XB QW
  dsimp only at *
  by_cases he : e = 0
  · subst he
    rw [if_neg (by omega)] at hC
    obtain ⟨S, hS⟩ : ∃ S, s.extract k s.size = S := ⟨_, rfl⟩
    have hSs : (S.size : Int) = (s.size : Int) - (k : Int) := by rw [← hS, ByteArray.size_extract]; omega
    have cN : Hid (∀ w, Calls Try.prog 17 #[xv s 0] w fun r w' => r = .returned (.tuple #[xv S 0, .int .i64 n]) ∧ Q w w') := fun w => by
      have h := cN0.out w
      rw [xres_yes, hS] at h
      exact h
    clear cN0
    by_cases hn : n < 0
    · rw [if_pos hn] at hC
      have HA := Lib.hid hC
      have HX := Lib.hid (xres_no s 1 (by decide))
      clear hC f1 f2 f3 f4 hS hSs
      unfold xv at *
      go_enter Try.func21, Try.ntmps21
      go_wp2_with fail
      refine (cN.out _).mono ?_; rintro r w1 ⟨rfl, q1⟩
      obtain ⟨W3, hW3, X3, Q3⟩ := one_new w1 S 0
      have HB2 : Hid (Xd (w.heap.size) s 0 W3 ∧ Xd (w.heap.size + 1) ⟨#[]⟩ 0 W3 ∧ Q w W3) := ⟨(HB.out.1.stays q1).stays Q3, (HB.out.2.1.stays q1).stays Q3, (HB.out.2.2.trans q1).trans Q3⟩
      have d0 := HB2.out.1.c0
      have d1 := HB2.out.1.c1
      clear q1 HB Q3 X3
      subst hW3
      go_wp2_with fail
      refine (cF.out _ _).mono ?_; rintro e w2 ⟨rfl, q2⟩
      have X1 := HB2.out.2.1.stays q2
      have c0 := X1.c0
      have c1 := X1.c1
      have z0 := X1.frozen 0
      have z1 := X1.frozen 1
      have y1 := (X1.put s 1).c0
      have y2 := (X1.put s 1).c1
      have QP := Lib.hid ((HB2.out.2.2.trans q2).put (w.heap.size + 1) (by omega) s 1)
      clear X1 q2 HB2
      go_wp2_with fail
      refine bodyPost_ret (by simp [results, Try.results21, go_sem, y1, y2]; try rfl) rfl ?_
      exact ⟨by rw [HA.out, HX.out] <;> rfl, QP.out⟩
    · rw [if_neg hn] at hC
      obtain ⟨L, hL⟩ : ∃ L, max least 1 = L := ⟨_, rfl⟩
      have g1 : 1 ≤ L ∧ L ≤ 9223372036854775807 := by omega
      have g2 : (S.size : Int) ≤ 1000000 := by omega
      have hw : wrap64 ((S.size : Int) / L) = (S.size : Int) / L := by
        have h1 : 0 ≤ (S.size : Int) / L := Int.ediv_nonneg (by omega) (by omega)
        have h2 : (S.size : Int) / L ≤ (S.size : Int) := Int.ediv_le_self _ (by omega)
        unfold wrap64
        omega
      rw [hL, ← hSs] at hC
      by_cases hq : (S.size : Int) / L < n
      · rw [if_pos hq] at hC
        have HA := Lib.hid hC
        have HX := Lib.hid (xres_no s 40 (by decide))
        by_cases h1 : least < 1
        · obtain rfl : L = 1 := by omega
          have hq1 : (S.size : Int) < n := by rw [Int.ediv_one] at hq; exact hq
          clear hC f1 f2 f3 f4 hS hSs hL g1 hq
          unfold xv at *
          go_enter Try.func21, Try.ntmps21
          go_wp2_with fail
          refine (cN.out _).mono ?_; rintro r w1 ⟨rfl, q1⟩
          obtain ⟨W3, hW3, X3, Q3⟩ := one_new w1 S 0
          have HB2 : Hid (Xd (w.heap.size) s 0 W3 ∧ Xd (w.heap.size + 1) ⟨#[]⟩ 0 W3 ∧ Q w W3) := ⟨(HB.out.1.stays q1).stays Q3, (HB.out.2.1.stays q1).stays Q3, (HB.out.2.2.trans q1).trans Q3⟩
          have d0 := HB2.out.1.c0
          have d1 := HB2.out.1.c1
          clear q1 HB Q3 X3
          subst hW3
          go_wp2_with fail
          refine (cF.out _ _).mono ?_; rintro e w2 ⟨rfl, q2⟩
          have X1 := HB2.out.2.1.stays q2
          have c0 := X1.c0
          have c1 := X1.c1
          have z0 := X1.frozen 0
          have z1 := X1.frozen 1
          have y1 := (X1.put s 40).c0
          have y2 := (X1.put s 40).c1
          have QP := Lib.hid ((HB2.out.2.2.trans q2).put (w.heap.size + 1) (by omega) s 40)
          clear X1 q2 HB2
          go_wp2_with fail
          refine bodyPost_ret (by simp [results, Try.results21, go_sem, y1, y2]; try rfl) rfl ?_
          exact ⟨by rw [HA.out, HX.out] <;> rfl, QP.out⟩
        · obtain rfl : least = L := by omega
          have g3 : 1 ≤ least := g1.1
          clear hC f1 f2 f3 f4 hS hSs hL
          unfold xv at *
          go_enter Try.func21, Try.ntmps21
          go_wp2_with fail
          refine (cN.out _).mono ?_; rintro r w1 ⟨rfl, q1⟩
          obtain ⟨W3, hW3, X3, Q3⟩ := one_new w1 S 0
          have HB2 : Hid (Xd (w.heap.size) s 0 W3 ∧ Xd (w.heap.size + 1) ⟨#[]⟩ 0 W3 ∧ Q w W3) := ⟨(HB.out.1.stays q1).stays Q3, (HB.out.2.1.stays q1).stays Q3, (HB.out.2.2.trans q1).trans Q3⟩
          have d0 := HB2.out.1.c0
          have d1 := HB2.out.1.c1
          clear q1 HB Q3 X3
          subst hW3
          go_wp2_with fail
          refine (cF.out _ _).mono ?_; rintro e w2 ⟨rfl, q2⟩
          have X1 := HB2.out.2.1.stays q2
          have c0 := X1.c0
          have c1 := X1.c1
          have z0 := X1.frozen 0
          have z1 := X1.frozen 1
          have y1 := (X1.put s 40).c0
          have y2 := (X1.put s 40).c1
          have QP := Lib.hid ((HB2.out.2.2.trans q2).put (w.heap.size + 1) (by omega) s 40)
          clear X1 q2 HB2
          go_wp2_with fail
          refine bodyPost_ret (by simp [results, Try.results21, go_sem, y1, y2]; try rfl) rfl ?_
          exact ⟨by rw [HA.out, HX.out] <;> rfl, QP.out⟩
      · rw [if_neg hq] at hC
        have HA := Lib.hid hC
        have HX : Hid (xres s (n, k, 0) = .returned (.tuple #[xv S 0, .int .i64 n])) := by rw [xres_yes, hS]; rfl
        by_cases h1 : least < 1
        · obtain rfl : L = 1 := by omega
          have hq1 : ¬ (S.size : Int) < n := by rw [Int.ediv_one] at hq; exact hq
          clear hC f1 f2 f3 f4 hS hSs hL g1 hq
          unfold xv at *
          go_enter Try.func21, Try.ntmps21
          go_wp2_with fail
          refine (cN.out _).mono ?_; rintro r w1 ⟨rfl, q1⟩
          obtain ⟨W3, hW3, X3, Q3⟩ := one_new w1 S 0
          have HB2 : Hid (Xd (w.heap.size) s 0 W3 ∧ Xd (w.heap.size + 1) ⟨#[]⟩ 0 W3 ∧ Q w W3) := ⟨(HB.out.1.stays q1).stays Q3, (HB.out.2.1.stays q1).stays Q3, (HB.out.2.2.trans q1).trans Q3⟩
          have d0 := HB2.out.1.c0
          have d1 := HB2.out.1.c1
          clear q1 HB Q3 X3
          subst hW3
          have c0 := HB2.out.2.1.c0
          have c1 := HB2.out.2.1.c1
          have z0 := HB2.out.2.1.frozen 0
          have z1 := HB2.out.2.1.frozen 1
          have y1 := (HB2.out.2.1.put S 0).c0
          have y2 := (HB2.out.2.1.put S 0).c1
          have QP := Lib.hid (HB2.out.2.2.put (w.heap.size + 1) (by omega) S 0)
          clear HB2
          go_wp2_with fail
          refine bodyPost_ret (by simp [results, Try.results21, go_sem, y1, y2]; try rfl) rfl ?_
          exact ⟨by rw [HA.out, HX.out] <;> rfl, QP.out⟩
        · obtain rfl : least = L := by omega
          have g3 : 1 ≤ least := g1.1
          clear hC f1 f2 f3 f4 hS hSs hL
          unfold xv at *
          go_enter Try.func21, Try.ntmps21
          go_wp2_with fail
          refine (cN.out _).mono ?_; rintro r w1 ⟨rfl, q1⟩
          obtain ⟨W3, hW3, X3, Q3⟩ := one_new w1 S 0
          have HB2 : Hid (Xd (w.heap.size) s 0 W3 ∧ Xd (w.heap.size + 1) ⟨#[]⟩ 0 W3 ∧ Q w W3) := ⟨(HB.out.1.stays q1).stays Q3, (HB.out.2.1.stays q1).stays Q3, (HB.out.2.2.trans q1).trans Q3⟩
          have d0 := HB2.out.1.c0
          have d1 := HB2.out.1.c1
          clear q1 HB Q3 X3
          subst hW3
          have c0 := HB2.out.2.1.c0
          have c1 := HB2.out.2.1.c1
          have z0 := HB2.out.2.1.frozen 0
          have z1 := HB2.out.2.1.frozen 1
          have y1 := (HB2.out.2.1.put S 0).c0
          have y2 := (HB2.out.2.1.put S 0).c1
          have QP := Lib.hid (HB2.out.2.2.put (w.heap.size + 1) (by omega) S 0)
          clear HB2
          go_wp2_with fail
          refine bodyPost_ret (by simp [results, Try.results21, go_sem, y1, y2]; try rfl) rfl ?_
          exact ⟨by rw [HA.out, HX.out] <;> rfl, QP.out⟩
  · have he1 : (e != 0) = true := by rw [bne_iff_ne]; exact he
    rw [if_pos he] at hC
    have HA := Lib.hid hC
    have HX := Lib.hid (xres_no s e he)
    have cN : Hid (∀ w, Calls Try.prog 17 #[xv s 0] w fun r w' => r = .returned (.tuple #[xv s e, .int .i64 0]) ∧ Q w w') := fun w => by
      have h := cN0.out w
      have e1 : xres s (n, k, e) = .returned (.tuple #[xv s e, .int .i64 0]) := by
        unfold xres gotS gotN
        rw [if_neg he, if_neg he]
      rw [e1] at h
      exact h
    clear cN0 hC f1 f2 f3 f4 he
    unfold xv at *
    go_enter Try.func21, Try.ntmps21
    go_wp2_with fail
    refine (cN.out _).mono ?_; rintro r w1 ⟨rfl, q1⟩
    obtain ⟨W3, hW3, X3, Q3⟩ := one_new w1 s e
    have HB2 : Hid (Xd (w.heap.size) s 0 W3 ∧ Xd (w.heap.size + 1) ⟨#[]⟩ 0 W3 ∧ Q w W3) := ⟨(HB.out.1.stays q1).stays Q3, (HB.out.2.1.stays q1).stays Q3, (HB.out.2.2.trans q1).trans Q3⟩
    have d0 := HB2.out.1.c0
    have d1 := HB2.out.1.c1
    clear q1 HB Q3 X3
    subst hW3
    go_wp2_with fail
    refine (cF.out _ _).mono ?_; rintro e w2 ⟨rfl, q2⟩
    have X1 := HB2.out.2.1.stays q2
    have c0 := X1.c0
    have c1 := X1.c1
    have z0 := X1.frozen 0
    have z1 := X1.frozen 1
    have y1 := (X1.put s e).c0
    have y2 := (X1.put s e).c1
    have QP := Lib.hid ((HB2.out.2.2.trans q2).put (w.heap.size + 1) (by omega) s e)
    clear X1 q2 HB2
    go_wp2_with fail
    refine bodyPost_ret (by simp [results, Try.results21, go_sem, y1, y2]; try rfl) rfl ?_
    exact ⟨by rw [HA.out, HX.out] <;> rfl, QP.out⟩

theorem rcount_any (s : ByteArray) (e least : Int) (w : World) (hs : s.size ≤ 1000000) (hl : least ≤ 9223372036854775807) :
    Calls Try.prog 21 #[xv s e, .int .i64 least] w fun r w' => r = .returned (.tuple #[xv (nxC s e least).2.1 (nxC s e least).2.2, .int .i64 (nxC s e least).1]) ∧ Q w w' := by
  by_cases he : e = 0
  · subst he
    exact rcount_ok s least w hs hl
  · have e1 : nxC s e least = (0, s, e) := if_neg he
    rw [e1]
    exact rcount_stop s e least w he

theorem rleft_any (s : ByteArray) (e : Int) (w : World) :
    Calls Try.prog 24 #[xv s e] w fun r w' => r = .returned (.int .i64 (s.size : Int)) ∧ Q w w' := by
  unfold xv
  go_enter Try.func24, Try.ntmps24
  go_wp2_with fail
  go_ret
  exact ⟨rfl, Below.alloc (Below.refl _ _) (Nat.le_refl _) _⟩
theorem rerr_any (s : ByteArray) (e : Int) (w : World) :
    Calls Try.prog 26 #[xv s e] w fun r w' => r = .returned (.int .i64 e) ∧ Q w w' := by
  unfold xv
  go_enter Try.func26, Try.ntmps26
  go_wp2_with fail
  go_ret
  exact ⟨rfl, Below.alloc (Below.refl _ _) (Nat.le_refl _) _⟩
theorem rnew_any (s : ByteArray) (w : World) :
    Calls Try.prog 16 #[.string s] w fun r w' => r = .returned (xv s 0) ∧ Q w w' := by
  unfold xv
  go_enter Try.func16, Try.ntmps16
  go_wp2_with fail
  go_returns
  exact ⟨rfl, Below.alloc (Below.refl _ _) (Nat.le_refl _) _⟩

set_option maxRecDepth 100000 in
set_option maxHeartbeats 4000000 in
theorem rstring_any (s : ByteArray) (e : Int) (w : World) (hs : s.size ≤ 1000000) :
    Calls Try.prog 19 #[xv s e] w fun r w' => r = .returned (.tuple #[xv (nxS s e).2.1 (nxS s e).2.2, .string (nxS s e).1]) ∧ Q w w' := by
  have cC : Hid (∀ w, Calls Try.prog 21 #[xv s e, .int .i64 1] w fun r w' => r = .returned (.tuple #[xv (nxC s e 1).2.1 (nxC s e 1).2.2, .int .i64 (nxC s e 1).1]) ∧ Q w w') := fun w => rcount_any s e 1 w hs (by decide)
  obtain ⟨f1, f2, f3⟩ := nxC_fits s e
  have hS : nxS s e = nxS s e := rfl
  conv at hS => rhs; unfold nxS
  generalize nxS s e = ANS at *
  generalize nxC s e 1 = t at *
  obtain ⟨n, S, f⟩ := t
  obtain ⟨T, S', f'⟩ := ANS
  obtain ⟨W2, hW, XA, XB, QW, hsz⟩ := two_new w s e
  have HB : Hid (Xd (w.heap.size + 1) ⟨#[]⟩ 0 W2 ∧ Q w W2) := ⟨XB, QW⟩
  have a0 := XA.c0
  have a1 := XA.c1
  clear XA XB QW
  dsimp only at *
  by_cases hf : f = 0
  · subst hf
    rw [if_pos rfl] at hS
    simp only [Prod.mk.injEq] at hS
    obtain ⟨k, rfl⟩ := Int.eq_ofNat_of_zero_le f1
    rw [Int.toNat_natCast] at hS
    obtain ⟨hT, hS', rfl⟩ := hS
    have g1 : (k : Int) ≤ (S.size : Int) := f2
    have e1 := hT.symm
    have e2 := hS'.symm
    clear f1 f2 f3 hs hT hS'
    unfold xv at *
    go_enter Try.func19, Try.ntmps19
    go_wp2_with fail
    refine (cC.out _).mono ?_; rintro r w1 ⟨rfl, q1⟩
    obtain ⟨W3, hW3, X3, Q3⟩ := one_new w1 S 0
    have HB2 : Hid (Xd (w.heap.size + 1) ⟨#[]⟩ 0 W3 ∧ Q w W3) := ⟨(HB.out.1.stays q1).stays Q3, (HB.out.2.trans q1).trans Q3⟩
    have hlt := (HB.out.1.stays q1).lt
    have y3 : (W3.setCell ⟨w.heap.size + 1, 0, none⟩ (.string S')).cell? ⟨w1.heap.size, 0, none⟩ = some (.string S) := by
      rw [World.cell?_setCell_other _ _ _ _ (by intro hh; have := congrArg Addr.block hh; simp at this; omega)]
      exact X3.c0
    clear q1 HB Q3 X3 hlt
    subst hW3
    have c0 := HB2.out.1.c0
    have c1 := HB2.out.1.c1
    have z0 := HB2.out.1.frozen 0
    have z1 := HB2.out.1.frozen 1
    have y1 := (HB2.out.1.put S' 0).c0
    have y2 := (HB2.out.1.put S' 0).c1
    have QP := Lib.hid (HB2.out.2.put (w.heap.size + 1) (by omega) S' 0)
    clear HB2
    go_wp2_with fail
    go_region
    all_goals
      go_wp2_with fail
      refine bodyPost_ret (by simp [results, Try.results19, go_sem, y1, y2]; try rfl) rfl ?_
      exact ⟨rfl, QP.out.drew⟩
  · have hf1 : (f != 0) = true := by rw [bne_iff_ne]; exact hf
    rw [if_neg hf] at hS
    simp only [Prod.mk.injEq] at hS
    obtain ⟨rfl, rfl, rfl⟩ := hS
    obtain rfl : n = 0 := f3 hf
    clear f1 f2 f3 hs hf
    unfold xv at *
    go_enter Try.func19, Try.ntmps19
    go_wp2_with fail
    refine (cC.out _).mono ?_; rintro r w1 ⟨rfl, q1⟩
    obtain ⟨W3, hW3, X3, Q3⟩ := one_new w1 S' f'
    have HB2 : Hid (Xd (w.heap.size + 1) ⟨#[]⟩ 0 W3 ∧ Q w W3) := ⟨(HB.out.1.stays q1).stays Q3, (HB.out.2.trans q1).trans Q3⟩
    clear q1 HB Q3 X3
    subst hW3
    have c0 := HB2.out.1.c0
    have c1 := HB2.out.1.c1
    have z0 := HB2.out.1.frozen 0
    have z1 := HB2.out.1.frozen 1
    have y1 := (HB2.out.1.put S' f').c0
    have y2 := (HB2.out.1.put S' f').c1
    have QP := Lib.hid (HB2.out.2.put (w.heap.size + 1) (by omega) S' f')
    clear HB2
    go_wp2_with fail
    refine bodyPost_ret (by simp [results, Try.results19, go_sem, y1, y2]; try rfl) rfl ?_
    exact ⟨rfl, QP.out⟩

end Go.Proofs.Ytnbloidiojedoaa.wir
