/- The law AddressOrders. -/
import Derived.Test.YthekabflbpfjoaaGreatDoorRco
import Derived.Test.YthekabflbpfjoaaGreatDoorAvy
namespace Go.Proofs.YthekabflbpfjoaaGreatDoor.adr
open Go.RowKit
open Go.Proofs.YthekabflbpfjoaaGreatDoor

/-- The law's three addresses in blocks of its own. -/
def L3 (p : Nat) (A0 : Option Addr) (n0 c0 : Nat) (d0 : Bool) (ty0 nm0 : ByteArray) (kd0 m0 : Int) (t0 : ByteArray) (A1 : Option Addr) (n1 c1 : Nat) (d1 : Bool) (ty1 nm1 : ByteArray) (kd1 m1 : Int) (t1 : ByteArray) (A2 : Option Addr) (n2 c2 : Nat) (d2 : Bool) (ty2 nm2 : ByteArray) (kd2 m2 : Int) (t2 : ByteArray) (w w' : World) : Prop := Q w w' ∧ Bk p #[.slice A0 n0 c0, .bool d0, .string ty0, .string nm0, .int .i64 kd0, .int .i64 m0, .string t0] 27 w' ∧ Bk (p + 1) #[.slice A1 n1 c1, .bool d1, .string ty1, .string nm1, .int .i64 kd1, .int .i64 m1, .string t1] 27 w' ∧ Bk (p + 1 + 1) #[.slice A2 n2 c2, .bool d2, .string ty2, .string nm2, .int .i64 kd2, .int .i64 m2, .string t2] 27 w'
theorem L3.stays {p : Nat} {A0 : Option Addr} {n0 c0 : Nat} {d0 : Bool} {ty0 nm0 : ByteArray} {kd0 m0 : Int} {t0 : ByteArray} {A1 : Option Addr} {n1 c1 : Nat} {d1 : Bool} {ty1 nm1 : ByteArray} {kd1 m1 : Int} {t1 : ByteArray} {A2 : Option Addr} {n2 c2 : Nat} {d2 : Bool} {ty2 nm2 : ByteArray} {kd2 m2 : Int} {t2 : ByteArray} {w w' w2 : World} (h : L3 p A0 n0 c0 d0 ty0 nm0 kd0 m0 t0 A1 n1 c1 d1 ty1 nm1 kd1 m1 t1 A2 n2 c2 d2 ty2 nm2 kd2 m2 t2 w w') (k : Q w' w2) : L3 p A0 n0 c0 d0 ty0 nm0 kd0 m0 t0 A1 n1 c1 d1 ty1 nm1 kd1 m1 t1 A2 n2 c2 d2 ty2 nm2 kd2 m2 t2 w w2 := ⟨h.1.trans k, h.2.1.stays k, h.2.2.1.stays k, h.2.2.2.stays k⟩
theorem L3.seen {p : Nat} {A0 : Option Addr} {n0 c0 : Nat} {d0 : Bool} {ty0 nm0 : ByteArray} {kd0 m0 : Int} {t0 : ByteArray} {A1 : Option Addr} {n1 c1 : Nat} {d1 : Bool} {ty1 nm1 : ByteArray} {kd1 m1 : Int} {t1 : ByteArray} {A2 : Option Addr} {n2 c2 : Nat} {d2 : Bool} {ty2 nm2 : ByteArray} {kd2 m2 : Int} {t2 : ByteArray} {w w' : World} (h : L3 p A0 n0 c0 d0 ty0 nm0 kd0 m0 t0 A1 n1 c1 d1 ty1 nm1 kd1 m1 t1 A2 n2 c2 d2 ty2 nm2 kd2 m2 t2 w w') : w'.cell? ⟨p, 0, none⟩ = some (.slice A0 n0 c0) ∧ w'.cell? ⟨p, 1, none⟩ = some (.bool d0) ∧ w'.cell? ⟨p, 2, none⟩ = some (.string ty0) ∧ w'.cell? ⟨p, 3, none⟩ = some (.string nm0) ∧ w'.cell? ⟨p, 4, none⟩ = some (.int .i64 kd0) ∧ w'.cell? ⟨p, 5, none⟩ = some (.int .i64 m0) ∧ w'.cell? ⟨p, 6, none⟩ = some (.string t0) ∧ w'.cell? ⟨p + 1, 0, none⟩ = some (.slice A1 n1 c1) ∧ w'.cell? ⟨p + 1, 1, none⟩ = some (.bool d1) ∧ w'.cell? ⟨p + 1, 2, none⟩ = some (.string ty1) ∧ w'.cell? ⟨p + 1, 3, none⟩ = some (.string nm1) ∧ w'.cell? ⟨p + 1, 4, none⟩ = some (.int .i64 kd1) ∧ w'.cell? ⟨p + 1, 5, none⟩ = some (.int .i64 m1) ∧ w'.cell? ⟨p + 1, 6, none⟩ = some (.string t1) ∧ w'.cell? ⟨p + 1 + 1, 0, none⟩ = some (.slice A2 n2 c2) ∧ w'.cell? ⟨p + 1 + 1, 1, none⟩ = some (.bool d2) ∧ w'.cell? ⟨p + 1 + 1, 2, none⟩ = some (.string ty2) ∧ w'.cell? ⟨p + 1 + 1, 3, none⟩ = some (.string nm2) ∧ w'.cell? ⟨p + 1 + 1, 4, none⟩ = some (.int .i64 kd2) ∧ w'.cell? ⟨p + 1 + 1, 5, none⟩ = some (.int .i64 m2) ∧ w'.cell? ⟨p + 1 + 1, 6, none⟩ = some (.string t2) :=
  ⟨h.2.1.at 0 _ rfl, h.2.1.at 1 _ rfl, h.2.1.at 2 _ rfl, h.2.1.at 3 _ rfl, h.2.1.at 4 _ rfl, h.2.1.at 5 _ rfl, h.2.1.at 6 _ rfl, h.2.2.1.at 0 _ rfl, h.2.2.1.at 1 _ rfl, h.2.2.1.at 2 _ rfl, h.2.2.1.at 3 _ rfl, h.2.2.1.at 4 _ rfl, h.2.2.1.at 5 _ rfl, h.2.2.1.at 6 _ rfl, h.2.2.2.at 0 _ rfl, h.2.2.2.at 1 _ rfl, h.2.2.2.at 2 _ rfl, h.2.2.2.at 3 _ rfl, h.2.2.2.at 4 _ rfl, h.2.2.2.at 5 _ rfl, h.2.2.2.at 6 _ rfl⟩
theorem L3.new (A0 : Option Addr) (n0 c0 : Nat) (d0 : Bool) (ty0 nm0 : ByteArray) (kd0 m0 : Int) (t0 : ByteArray) (A1 : Option Addr) (n1 c1 : Nat) (d1 : Bool) (ty1 nm1 : ByteArray) (kd1 m1 : Int) (t1 : ByteArray) (A2 : Option Addr) (n2 c2 : Nat) (d2 : Bool) (ty2 nm2 : ByteArray) (kd2 m2 : Int) (t2 : ByteArray) (w : World) : L3 w.heap.size A0 n0 c0 d0 ty0 nm0 kd0 m0 t0 A1 n1 c1 d1 ty1 nm1 kd1 m1 t1 A2 n2 c2 d2 ty2 nm2 kd2 m2 t2 w (((w.alloc (.cells #[.slice A0 n0 c0, .bool d0, .string ty0, .string nm0, .int .i64 kd0, .int .i64 m0, .string t0] 27)).alloc (.cells #[.slice A1 n1 c1, .bool d1, .string ty1, .string nm1, .int .i64 kd1, .int .i64 m1, .string t1] 27)).alloc (.cells #[.slice A2 n2 c2, .bool d2, .string ty2, .string nm2, .int .i64 kd2, .int .i64 m2, .string t2] 27)) := by
  have q1 := Q.alloc w (.cells #[.slice A0 n0 c0, .bool d0, .string ty0, .string nm0, .int .i64 kd0, .int .i64 m0, .string t0] 27)
  have q2 := Q.alloc (w.alloc (.cells #[.slice A0 n0 c0, .bool d0, .string ty0, .string nm0, .int .i64 kd0, .int .i64 m0, .string t0] 27)) (.cells #[.slice A1 n1 c1, .bool d1, .string ty1, .string nm1, .int .i64 kd1, .int .i64 m1, .string t1] 27)
  have q3 := Q.alloc ((w.alloc (.cells #[.slice A0 n0 c0, .bool d0, .string ty0, .string nm0, .int .i64 kd0, .int .i64 m0, .string t0] 27)).alloc (.cells #[.slice A1 n1 c1, .bool d1, .string ty1, .string nm1, .int .i64 kd1, .int .i64 m1, .string t1] 27)) (.cells #[.slice A2 n2 c2, .bool d2, .string ty2, .string nm2, .int .i64 kd2, .int .i64 m2, .string t2] 27)
  have e1 : (w.alloc (.cells #[.slice A0 n0 c0, .bool d0, .string ty0, .string nm0, .int .i64 kd0, .int .i64 m0, .string t0] 27)).heap.size = w.heap.size + 1 := by simp
  have e2 : ((w.alloc (.cells #[.slice A0 n0 c0, .bool d0, .string ty0, .string nm0, .int .i64 kd0, .int .i64 m0, .string t0] 27)).alloc (.cells #[.slice A1 n1 c1, .bool d1, .string ty1, .string nm1, .int .i64 kd1, .int .i64 m1, .string t1] 27)).heap.size = w.heap.size + 1 + 1 := by simp
  have b1 := Bk.new #[.slice A1 n1 c1, .bool d1, .string ty1, .string nm1, .int .i64 kd1, .int .i64 m1, .string t1] 27 (w.alloc (.cells #[.slice A0 n0 c0, .bool d0, .string ty0, .string nm0, .int .i64 kd0, .int .i64 m0, .string t0] 27))
  have b2 := Bk.new #[.slice A2 n2 c2, .bool d2, .string ty2, .string nm2, .int .i64 kd2, .int .i64 m2, .string t2] 27 ((w.alloc (.cells #[.slice A0 n0 c0, .bool d0, .string ty0, .string nm0, .int .i64 kd0, .int .i64 m0, .string t0] 27)).alloc (.cells #[.slice A1 n1 c1, .bool d1, .string ty1, .string nm1, .int .i64 kd1, .int .i64 m1, .string t1] 27))
  rw [e1] at b1
  rw [e2] at b2
  exact ⟨(q1.trans q2).trans q3, (((Bk.new _ _ w).stays q2).stays q3), b1.stays q3, b2⟩

theorem orders_pair {ms ps : List St} {r q : Rs} (w : World) (A A' : Option Addr) (n n' c c' : Nat) (hn : n = ms.length) (hn' : n' = ps.length) (hI : In A ms w) (hI' : In A' ps w) (f : FewOk ms r) :
    Hid (∀ w', Q w w' → Calls Tryz.prog 20 #[rv (.slice A n c) r, rv (.slice A' n' c') q] w' fun e w'' => e = .returned (.int .i64 (cA ms ps r q)) ∧ Q w' w'') :=
  Lib.hid (fun w' k => compare_any A A' n n' c c' ms ps r q w' hn hn' (hI.stays k) (hI'.stays k) (by have := f.1; omega))
theorem few_len {ms : List St} {r : Rs} (f : FewOk ms r) : ms.length ≤ maxLen := by have := f.1; unfold maxLen; omega

set_option maxRecDepth 100000 in
set_option maxHeartbeats 16000000 in
theorem orders_any (A0 : Option Addr) (n0 c0 : Nat) (ms0 : List St) (r0 : Rs) (A1 : Option Addr) (n1 c1 : Nat) (ms1 : List St) (r1 : Rs) (A2 : Option Addr) (n2 c2 : Nat) (ms2 : List St) (r2 : Rs) (w : World)
  (hn0 : n0 = ms0.length) (hI0 : In A0 ms0 w) (hm0 : Am ms0 r0) (hn1 : n1 = ms1.length) (hI1 : In A1 ms1 w) (hm1 : Am ms1 r1) (hn2 : n2 = ms2.length) (hI2 : In A2 ms2 w) (hm2 : Am ms2 r2) (f : Fa w) :
    Calls Tryz.prog 5 #[rv (.slice A0 n0 c0) r0, rv (.slice A1 n1 c1) r1, rv (.slice A2 n2 c2) r2] w fun e w' => e = .returned (.bool true) ∧ Q w w' := by
  have cW := wakes w f
  have cF0 : Hid (∀ w', Q w w' → Calls Tryz.prog 7 #[rv (.slice A0 n0 c0) r0] w' (FewEnds ms0 r0 w')) := Lib.hid (fun w' k => few_any A0 n0 c0 ms0 r0 w' hn0 (hI0.stays k) hm0)
  have cF1 : Hid (∀ w', Q w w' → Calls Tryz.prog 7 #[rv (.slice A1 n1 c1) r1] w' (FewEnds ms1 r1 w')) := Lib.hid (fun w' k => few_any A1 n1 c1 ms1 r1 w' hn1 (hI1.stays k) hm1)
  have cF2 : Hid (∀ w', Q w w' → Calls Tryz.prog 7 #[rv (.slice A2 n2 c2) r2] w' (FewEnds ms2 r2 w')) := Lib.hid (fun w' k => few_any A2 n2 c2 ms2 r2 w' hn2 (hI2.stays k) hm2)
  have cAB := Lib.hid (fun (g : FewOk ms0 r0) => orders_pair (q := r1) w A0 A1 n0 n1 c0 c1 hn0 hn1 hI0 hI1 g)
  have cBA := Lib.hid (fun (g : FewOk ms1 r1) => orders_pair (q := r0) w A1 A0 n1 n0 c1 c0 hn1 hn0 hI1 hI0 g)
  have cAA := Lib.hid (fun (g : FewOk ms0 r0) => orders_pair (q := r0) w A0 A0 n0 n0 c0 c0 hn0 hn0 hI0 hI0 g)
  have cBC := Lib.hid (fun (g : FewOk ms1 r1) => orders_pair (q := r2) w A1 A2 n1 n2 c1 c2 hn1 hn2 hI1 hI2 g)
  have cAC := Lib.hid (fun (g : FewOk ms0 r0) => orders_pair (q := r2) w A0 A2 n0 n2 c0 c2 hn0 hn2 hI0 hI2 g)
  have cRAB : Hid (FewOk ms0 r0 → ∀ w', Q w w' → Calls Tryz.prog 21 #[rv (.slice A0 n0 c0) r0, rv (.slice A1 n1 c1) r1] w' fun e w'' => e = .returned (.int .i64 (cA ms0 ms1 r0 r1)) ∧ Q w' w'') := Lib.hid (fun g w' k => refCompare_any A0 A1 n0 n1 c0 c1 ms0 ms1 r0 r1 w' hn0 hn1 (hI0.stays k) (hI1.stays k) (by have := g.1; omega))
  have cS : Hid (FewOk ms0 r0 → FewOk ms1 r1 → ∀ w', Q w w' → Calls Tryz.prog 19 #[rv (.slice A0 n0 c0) r0, rv (.slice A1 n1 c1) r1] w' fun e w'' => e = .returned (.bool (cA ms0 ms1 r0 r1 == 0)) ∧ Q w' w'') := Lib.hid (fun g0 g1 w' k => by
    refine (same_any A0 A1 n0 c0 n1 c1 ms0 ms1 r0 r1 w' hn0 hn1 (hI0.stays k) (hI1.stays k) (by rw [hn0]; exact few_len g0) (by rw [hn1]; exact few_len g1)).mono ?_
    rintro e w'' ⟨B, rfl, hB, hq⟩
    refine ⟨?_, hq⟩
    have hz := tot_cA.zero (ms0, r0) (ms1, r1)
    simp only [Prod.mk.injEq] at hz
    have : B = (cA ms0 ms1 r0 r1 == 0) := by rw [Bool.eq_iff_iff, hB.out, beq_iff_eq, hz]
    rw [this])
  have e0 : cA ms0 ms0 r0 r0 = 0 := (tot_cA.zero (ms0, r0) (ms0, r0)).2 rfl
  have e1 : cA ms1 ms0 r1 r0 = - cA ms0 ms1 r0 r1 := tot_cA.anti (ms0, r0) (ms1, r1)
  have e2 : -1 ≤ cA ms0 ms1 r0 r1 ∧ cA ms0 ms1 r0 r1 ≤ 1 := tot_cA.low (ms0, r0) (ms1, r1)
  have e3 : cA ms0 ms1 r0 r1 ≤ 0 → cA ms1 ms2 r1 r2 ≤ 0 → cA ms0 ms2 r0 r2 ≤ 0 := tot_cA.trans (ms0, r0) (ms1, r1) (ms2, r2)
  rw [e0] at cAA
  rw [e1] at cBA
  have HC : Hid (cA ms0 ms1 r0 r1 = -1 ∨ cA ms0 ms1 r0 r1 = 0 ∨ cA ms0 ms1 r0 r1 = 1) := Lib.hid (by omega)
  have H3 := Lib.hid e3
  clear f hm0 hm1 hm2 hI0 hI1 hI2 hn0 hn1 hn2 e0 e1 e2 e3
  generalize cA ms0 ms1 r0 r1 = N at *
  generalize cA ms1 ms2 r1 r2 = BC at *
  generalize cA ms0 ms2 r0 r2 = AC at *
  obtain ⟨d0, ty0, nm0, kd0, m0, t0⟩ := r0
  obtain ⟨d1, ty1, nm1, kd1, m1, t1⟩ := r1
  obtain ⟨d2, ty2, nm2, kd2, m2, t2⟩ := r2
  unfold rv at *
  simp only at *
  go_enter Tryz.func5, Tryz.ntmps5
  have LL := Lib.hid (L3.new A0 n0 c0 d0 ty0 nm0 kd0 m0 t0 A1 n1 c1 d1 ty1 nm1 kd1 m1 t1 A2 n2 c2 d2 ty2 nm2 kd2 m2 t2 w)
  obtain ⟨w1, hw1⟩ : ∃ W, (((w.alloc (.cells #[.slice A0 n0 c0, .bool d0, .string ty0, .string nm0, .int .i64 kd0, .int .i64 m0, .string t0] 27)).alloc (.cells #[.slice A1 n1 c1, .bool d1, .string ty1, .string nm1, .int .i64 kd1, .int .i64 m1, .string t1] 27)).alloc (.cells #[.slice A2 n2 c2, .bool d2, .string ty2, .string nm2, .int .i64 kd2, .int .i64 m2, .string t2] 27)) = W := ⟨_, rfl⟩
  rw [hw1] at LL
  obtain ⟨x0_0, x0_1, x0_2, x0_3, x0_4, x0_5, x0_6, x1_0, x1_1, x1_2, x1_3, x1_4, x1_5, x1_6, x2_0, x2_1, x2_2, x2_3, x2_4, x2_5, x2_6⟩ := LL.out.seen
  go_wp2_with fail
  clear hw1
  refine (cF0.out _ LL.out.1).mono ?_; rintro e w2 ⟨B0, rfl, hB0, q2⟩
  replace LL := Lib.hid (LL.out.stays q2)
  clear q2 x0_0 x0_1 x0_2 x0_3 x0_4 x0_5 x0_6 x1_0 x1_1 x1_2 x1_3 x1_4 x1_5 x1_6 x2_0 x2_1 x2_2 x2_3 x2_4 x2_5 x2_6
  obtain ⟨x0_0, x0_1, x0_2, x0_3, x0_4, x0_5, x0_6, x1_0, x1_1, x1_2, x1_3, x1_4, x1_5, x1_6, x2_0, x2_1, x2_2, x2_3, x2_4, x2_5, x2_6⟩ := LL.out.seen
  cases B0 with
  | false =>
    clear hB0 cF1 cF2
    clear cAB cBA cAA cBC cAC cRAB cS HC H3
    go_wp2_with fail
    refine (cW.out _ LL.out.1).mono ?_; rintro e v ⟨rfl, qv⟩
    go_wp2_with fail
    go_ret
    exact ⟨rfl, LL.out.1.trans qv⟩
  | true =>
  have G0 := Lib.hid (hB0.out rfl)
  clear hB0
  go_wp2_with fail
  refine (cF1.out _ LL.out.1).mono ?_; rintro e w3 ⟨B1, rfl, hB1, q3⟩
  replace LL := Lib.hid (LL.out.stays q3)
  clear q3 x0_0 x0_1 x0_2 x0_3 x0_4 x0_5 x0_6 x1_0 x1_1 x1_2 x1_3 x1_4 x1_5 x1_6 x2_0 x2_1 x2_2 x2_3 x2_4 x2_5 x2_6
  obtain ⟨x0_0, x0_1, x0_2, x0_3, x0_4, x0_5, x0_6, x1_0, x1_1, x1_2, x1_3, x1_4, x1_5, x1_6, x2_0, x2_1, x2_2, x2_3, x2_4, x2_5, x2_6⟩ := LL.out.seen
  cases B1 with
  | false =>
    clear hB1 cF2
    clear cAB cBA cAA cBC cAC cRAB cS HC H3
    go_wp2_with fail
    refine (cW.out _ LL.out.1).mono ?_; rintro e v ⟨rfl, qv⟩
    go_wp2_with fail
    go_ret
    exact ⟨rfl, LL.out.1.trans qv⟩
  | true =>
  have G1 := Lib.hid (hB1.out rfl)
  clear hB1
  go_wp2_with fail
  refine (cF2.out _ LL.out.1).mono ?_; rintro e w4 ⟨B2, rfl, hB2, q4⟩
  replace LL := Lib.hid (LL.out.stays q4)
  clear q4 x0_0 x0_1 x0_2 x0_3 x0_4 x0_5 x0_6 x1_0 x1_1 x1_2 x1_3 x1_4 x1_5 x1_6 x2_0 x2_1 x2_2 x2_3 x2_4 x2_5 x2_6
  obtain ⟨x0_0, x0_1, x0_2, x0_3, x0_4, x0_5, x0_6, x1_0, x1_1, x1_2, x1_3, x1_4, x1_5, x1_6, x2_0, x2_1, x2_2, x2_3, x2_4, x2_5, x2_6⟩ := LL.out.seen
  cases B2 with
  | false =>
    clear hB2
    clear cAB cBA cAA cBC cAC cRAB cS HC H3
    go_wp2_with fail
    refine (cW.out _ LL.out.1).mono ?_; rintro e v ⟨rfl, qv⟩
    go_wp2_with fail
    go_ret
    exact ⟨rfl, LL.out.1.trans qv⟩
  | true =>
  clear hB2 cF0 cF1 cF2
  have dAB := Lib.hid (cAB.out G0.out).out
  have dBA := Lib.hid (cBA.out G1.out).out
  have dAA := Lib.hid (cAA.out G0.out).out
  have dBC := Lib.hid (cBC.out G1.out).out
  have dAC := Lib.hid (cAC.out G0.out).out
  have dR := Lib.hid (cRAB.out G0.out)
  have dS := Lib.hid (cS.out G0.out G1.out)
  clear cAB cBA cAA cBC cAC cRAB cS
  rcases HC.out with hN | hN | hN
  · subst hN
    have HH : Hid (BC ≤ 0 → AC ≤ 0) := Lib.hid (H3.out (by decide))
    clear H3 HC
    have s0 : (((-1) : Int) == 0) = false := rfl
    rw [s0] at dS
    clear s0
    have s1 : - ((-1) : Int) = 1 := rfl
    rw [s1] at dBA
    clear s1
    go_wp2_with fail
    refine (dAB.out _ LL.out.1).mono ?_; rintro e w5 ⟨rfl, q5⟩
    replace LL := Lib.hid (LL.out.stays q5)
    clear q5 x0_0 x0_1 x0_2 x0_3 x0_4 x0_5 x0_6 x1_0 x1_1 x1_2 x1_3 x1_4 x1_5 x1_6 x2_0 x2_1 x2_2 x2_3 x2_4 x2_5 x2_6
    obtain ⟨x0_0, x0_1, x0_2, x0_3, x0_4, x0_5, x0_6, x1_0, x1_1, x1_2, x1_3, x1_4, x1_5, x1_6, x2_0, x2_1, x2_2, x2_3, x2_4, x2_5, x2_6⟩ := LL.out.seen
    go_wp2_with fail
    refine (dR.out _ LL.out.1).mono ?_; rintro e w6 ⟨rfl, q6⟩
    replace LL := Lib.hid (LL.out.stays q6)
    clear q6 x0_0 x0_1 x0_2 x0_3 x0_4 x0_5 x0_6 x1_0 x1_1 x1_2 x1_3 x1_4 x1_5 x1_6 x2_0 x2_1 x2_2 x2_3 x2_4 x2_5 x2_6
    obtain ⟨x0_0, x0_1, x0_2, x0_3, x0_4, x0_5, x0_6, x1_0, x1_1, x1_2, x1_3, x1_4, x1_5, x1_6, x2_0, x2_1, x2_2, x2_3, x2_4, x2_5, x2_6⟩ := LL.out.seen
    go_wp2_with fail
    refine (dBA.out _ LL.out.1).mono ?_; rintro e w7 ⟨rfl, q7⟩
    replace LL := Lib.hid (LL.out.stays q7)
    clear q7 x0_0 x0_1 x0_2 x0_3 x0_4 x0_5 x0_6 x1_0 x1_1 x1_2 x1_3 x1_4 x1_5 x1_6 x2_0 x2_1 x2_2 x2_3 x2_4 x2_5 x2_6
    obtain ⟨x0_0, x0_1, x0_2, x0_3, x0_4, x0_5, x0_6, x1_0, x1_1, x1_2, x1_3, x1_4, x1_5, x1_6, x2_0, x2_1, x2_2, x2_3, x2_4, x2_5, x2_6⟩ := LL.out.seen
    go_wp2_with fail
    refine (dS.out _ LL.out.1).mono ?_; rintro e w8 ⟨rfl, q8⟩
    replace LL := Lib.hid (LL.out.stays q8)
    clear q8 x0_0 x0_1 x0_2 x0_3 x0_4 x0_5 x0_6 x1_0 x1_1 x1_2 x1_3 x1_4 x1_5 x1_6 x2_0 x2_1 x2_2 x2_3 x2_4 x2_5 x2_6
    obtain ⟨x0_0, x0_1, x0_2, x0_3, x0_4, x0_5, x0_6, x1_0, x1_1, x1_2, x1_3, x1_4, x1_5, x1_6, x2_0, x2_1, x2_2, x2_3, x2_4, x2_5, x2_6⟩ := LL.out.seen
    go_wp2_with fail
    refine (dAA.out _ LL.out.1).mono ?_; rintro e w9 ⟨rfl, q9⟩
    replace LL := Lib.hid (LL.out.stays q9)
    clear q9 x0_0 x0_1 x0_2 x0_3 x0_4 x0_5 x0_6 x1_0 x1_1 x1_2 x1_3 x1_4 x1_5 x1_6 x2_0 x2_1 x2_2 x2_3 x2_4 x2_5 x2_6
    obtain ⟨x0_0, x0_1, x0_2, x0_3, x0_4, x0_5, x0_6, x1_0, x1_1, x1_2, x1_3, x1_4, x1_5, x1_6, x2_0, x2_1, x2_2, x2_3, x2_4, x2_5, x2_6⟩ := LL.out.seen
    by_cases hb : 0 < BC
    · clear HH dAC
      go_wp2_with fail
      refine (dBC.out _ LL.out.1).mono ?_; rintro e w10 ⟨rfl, q10⟩
      replace LL := Lib.hid (LL.out.stays q10)
      clear q10 x0_0 x0_1 x0_2 x0_3 x0_4 x0_5 x0_6 x1_0 x1_1 x1_2 x1_3 x1_4 x1_5 x1_6 x2_0 x2_1 x2_2 x2_3 x2_4 x2_5 x2_6
      obtain ⟨x0_0, x0_1, x0_2, x0_3, x0_4, x0_5, x0_6, x1_0, x1_1, x1_2, x1_3, x1_4, x1_5, x1_6, x2_0, x2_1, x2_2, x2_3, x2_4, x2_5, x2_6⟩ := LL.out.seen
      go_wp2_with fail
      refine (cW.out _ LL.out.1).mono ?_; rintro e v ⟨rfl, qv⟩
      go_wp2_with fail
      go_ret
      exact ⟨rfl, LL.out.1.trans qv⟩
    · have hac : AC ≤ 0 := HH.out (by omega)
      clear HH
      go_wp2_with fail
      refine (dBC.out _ LL.out.1).mono ?_; rintro e w10 ⟨rfl, q10⟩
      replace LL := Lib.hid (LL.out.stays q10)
      clear q10 x0_0 x0_1 x0_2 x0_3 x0_4 x0_5 x0_6 x1_0 x1_1 x1_2 x1_3 x1_4 x1_5 x1_6 x2_0 x2_1 x2_2 x2_3 x2_4 x2_5 x2_6
      obtain ⟨x0_0, x0_1, x0_2, x0_3, x0_4, x0_5, x0_6, x1_0, x1_1, x1_2, x1_3, x1_4, x1_5, x1_6, x2_0, x2_1, x2_2, x2_3, x2_4, x2_5, x2_6⟩ := LL.out.seen
      go_wp2_with fail
      refine (dAC.out _ LL.out.1).mono ?_; rintro e w11 ⟨rfl, q11⟩
      replace LL := Lib.hid (LL.out.stays q11)
      clear q11 x0_0 x0_1 x0_2 x0_3 x0_4 x0_5 x0_6 x1_0 x1_1 x1_2 x1_3 x1_4 x1_5 x1_6 x2_0 x2_1 x2_2 x2_3 x2_4 x2_5 x2_6
      obtain ⟨x0_0, x0_1, x0_2, x0_3, x0_4, x0_5, x0_6, x1_0, x1_1, x1_2, x1_3, x1_4, x1_5, x1_6, x2_0, x2_1, x2_2, x2_3, x2_4, x2_5, x2_6⟩ := LL.out.seen
      go_wp2_with fail
      refine (cW.out _ LL.out.1).mono ?_; rintro e v ⟨rfl, qv⟩
      go_wp2_with fail
      go_ret
      exact ⟨rfl, LL.out.1.trans qv⟩
  · subst hN
    have HH : Hid (BC ≤ 0 → AC ≤ 0) := Lib.hid (H3.out (by decide))
    clear H3 HC
    have s0 : (((0) : Int) == 0) = true := rfl
    rw [s0] at dS
    clear s0
    have s1 : - ((0) : Int) = 0 := rfl
    rw [s1] at dBA
    clear s1
    go_wp2_with fail
    refine (dAB.out _ LL.out.1).mono ?_; rintro e w5 ⟨rfl, q5⟩
    replace LL := Lib.hid (LL.out.stays q5)
    clear q5 x0_0 x0_1 x0_2 x0_3 x0_4 x0_5 x0_6 x1_0 x1_1 x1_2 x1_3 x1_4 x1_5 x1_6 x2_0 x2_1 x2_2 x2_3 x2_4 x2_5 x2_6
    obtain ⟨x0_0, x0_1, x0_2, x0_3, x0_4, x0_5, x0_6, x1_0, x1_1, x1_2, x1_3, x1_4, x1_5, x1_6, x2_0, x2_1, x2_2, x2_3, x2_4, x2_5, x2_6⟩ := LL.out.seen
    go_wp2_with fail
    refine (dR.out _ LL.out.1).mono ?_; rintro e w6 ⟨rfl, q6⟩
    replace LL := Lib.hid (LL.out.stays q6)
    clear q6 x0_0 x0_1 x0_2 x0_3 x0_4 x0_5 x0_6 x1_0 x1_1 x1_2 x1_3 x1_4 x1_5 x1_6 x2_0 x2_1 x2_2 x2_3 x2_4 x2_5 x2_6
    obtain ⟨x0_0, x0_1, x0_2, x0_3, x0_4, x0_5, x0_6, x1_0, x1_1, x1_2, x1_3, x1_4, x1_5, x1_6, x2_0, x2_1, x2_2, x2_3, x2_4, x2_5, x2_6⟩ := LL.out.seen
    go_wp2_with fail
    refine (dBA.out _ LL.out.1).mono ?_; rintro e w7 ⟨rfl, q7⟩
    replace LL := Lib.hid (LL.out.stays q7)
    clear q7 x0_0 x0_1 x0_2 x0_3 x0_4 x0_5 x0_6 x1_0 x1_1 x1_2 x1_3 x1_4 x1_5 x1_6 x2_0 x2_1 x2_2 x2_3 x2_4 x2_5 x2_6
    obtain ⟨x0_0, x0_1, x0_2, x0_3, x0_4, x0_5, x0_6, x1_0, x1_1, x1_2, x1_3, x1_4, x1_5, x1_6, x2_0, x2_1, x2_2, x2_3, x2_4, x2_5, x2_6⟩ := LL.out.seen
    go_wp2_with fail
    refine (dS.out _ LL.out.1).mono ?_; rintro e w8 ⟨rfl, q8⟩
    replace LL := Lib.hid (LL.out.stays q8)
    clear q8 x0_0 x0_1 x0_2 x0_3 x0_4 x0_5 x0_6 x1_0 x1_1 x1_2 x1_3 x1_4 x1_5 x1_6 x2_0 x2_1 x2_2 x2_3 x2_4 x2_5 x2_6
    obtain ⟨x0_0, x0_1, x0_2, x0_3, x0_4, x0_5, x0_6, x1_0, x1_1, x1_2, x1_3, x1_4, x1_5, x1_6, x2_0, x2_1, x2_2, x2_3, x2_4, x2_5, x2_6⟩ := LL.out.seen
    go_wp2_with fail
    refine (dAA.out _ LL.out.1).mono ?_; rintro e w9 ⟨rfl, q9⟩
    replace LL := Lib.hid (LL.out.stays q9)
    clear q9 x0_0 x0_1 x0_2 x0_3 x0_4 x0_5 x0_6 x1_0 x1_1 x1_2 x1_3 x1_4 x1_5 x1_6 x2_0 x2_1 x2_2 x2_3 x2_4 x2_5 x2_6
    obtain ⟨x0_0, x0_1, x0_2, x0_3, x0_4, x0_5, x0_6, x1_0, x1_1, x1_2, x1_3, x1_4, x1_5, x1_6, x2_0, x2_1, x2_2, x2_3, x2_4, x2_5, x2_6⟩ := LL.out.seen
    by_cases hb : 0 < BC
    · clear HH dAC
      go_wp2_with fail
      refine (dBC.out _ LL.out.1).mono ?_; rintro e w10 ⟨rfl, q10⟩
      replace LL := Lib.hid (LL.out.stays q10)
      clear q10 x0_0 x0_1 x0_2 x0_3 x0_4 x0_5 x0_6 x1_0 x1_1 x1_2 x1_3 x1_4 x1_5 x1_6 x2_0 x2_1 x2_2 x2_3 x2_4 x2_5 x2_6
      obtain ⟨x0_0, x0_1, x0_2, x0_3, x0_4, x0_5, x0_6, x1_0, x1_1, x1_2, x1_3, x1_4, x1_5, x1_6, x2_0, x2_1, x2_2, x2_3, x2_4, x2_5, x2_6⟩ := LL.out.seen
      go_wp2_with fail
      refine (cW.out _ LL.out.1).mono ?_; rintro e v ⟨rfl, qv⟩
      go_wp2_with fail
      go_ret
      exact ⟨rfl, LL.out.1.trans qv⟩
    · have hac : AC ≤ 0 := HH.out (by omega)
      clear HH
      go_wp2_with fail
      refine (dBC.out _ LL.out.1).mono ?_; rintro e w10 ⟨rfl, q10⟩
      replace LL := Lib.hid (LL.out.stays q10)
      clear q10 x0_0 x0_1 x0_2 x0_3 x0_4 x0_5 x0_6 x1_0 x1_1 x1_2 x1_3 x1_4 x1_5 x1_6 x2_0 x2_1 x2_2 x2_3 x2_4 x2_5 x2_6
      obtain ⟨x0_0, x0_1, x0_2, x0_3, x0_4, x0_5, x0_6, x1_0, x1_1, x1_2, x1_3, x1_4, x1_5, x1_6, x2_0, x2_1, x2_2, x2_3, x2_4, x2_5, x2_6⟩ := LL.out.seen
      go_wp2_with fail
      refine (dAC.out _ LL.out.1).mono ?_; rintro e w11 ⟨rfl, q11⟩
      replace LL := Lib.hid (LL.out.stays q11)
      clear q11 x0_0 x0_1 x0_2 x0_3 x0_4 x0_5 x0_6 x1_0 x1_1 x1_2 x1_3 x1_4 x1_5 x1_6 x2_0 x2_1 x2_2 x2_3 x2_4 x2_5 x2_6
      obtain ⟨x0_0, x0_1, x0_2, x0_3, x0_4, x0_5, x0_6, x1_0, x1_1, x1_2, x1_3, x1_4, x1_5, x1_6, x2_0, x2_1, x2_2, x2_3, x2_4, x2_5, x2_6⟩ := LL.out.seen
      go_wp2_with fail
      refine (cW.out _ LL.out.1).mono ?_; rintro e v ⟨rfl, qv⟩
      go_wp2_with fail
      go_ret
      exact ⟨rfl, LL.out.1.trans qv⟩
  · subst hN
    have HH : Hid (True) := Lib.hid (trivial)
    clear H3 HC
    have s0 : (((1) : Int) == 0) = false := rfl
    rw [s0] at dS
    clear s0
    have s1 : - ((1) : Int) = -1 := rfl
    rw [s1] at dBA
    clear s1
    go_wp2_with fail
    refine (dAB.out _ LL.out.1).mono ?_; rintro e w5 ⟨rfl, q5⟩
    replace LL := Lib.hid (LL.out.stays q5)
    clear q5 x0_0 x0_1 x0_2 x0_3 x0_4 x0_5 x0_6 x1_0 x1_1 x1_2 x1_3 x1_4 x1_5 x1_6 x2_0 x2_1 x2_2 x2_3 x2_4 x2_5 x2_6
    obtain ⟨x0_0, x0_1, x0_2, x0_3, x0_4, x0_5, x0_6, x1_0, x1_1, x1_2, x1_3, x1_4, x1_5, x1_6, x2_0, x2_1, x2_2, x2_3, x2_4, x2_5, x2_6⟩ := LL.out.seen
    go_wp2_with fail
    refine (dR.out _ LL.out.1).mono ?_; rintro e w6 ⟨rfl, q6⟩
    replace LL := Lib.hid (LL.out.stays q6)
    clear q6 x0_0 x0_1 x0_2 x0_3 x0_4 x0_5 x0_6 x1_0 x1_1 x1_2 x1_3 x1_4 x1_5 x1_6 x2_0 x2_1 x2_2 x2_3 x2_4 x2_5 x2_6
    obtain ⟨x0_0, x0_1, x0_2, x0_3, x0_4, x0_5, x0_6, x1_0, x1_1, x1_2, x1_3, x1_4, x1_5, x1_6, x2_0, x2_1, x2_2, x2_3, x2_4, x2_5, x2_6⟩ := LL.out.seen
    go_wp2_with fail
    refine (dBA.out _ LL.out.1).mono ?_; rintro e w7 ⟨rfl, q7⟩
    replace LL := Lib.hid (LL.out.stays q7)
    clear q7 x0_0 x0_1 x0_2 x0_3 x0_4 x0_5 x0_6 x1_0 x1_1 x1_2 x1_3 x1_4 x1_5 x1_6 x2_0 x2_1 x2_2 x2_3 x2_4 x2_5 x2_6
    obtain ⟨x0_0, x0_1, x0_2, x0_3, x0_4, x0_5, x0_6, x1_0, x1_1, x1_2, x1_3, x1_4, x1_5, x1_6, x2_0, x2_1, x2_2, x2_3, x2_4, x2_5, x2_6⟩ := LL.out.seen
    go_wp2_with fail
    refine (dS.out _ LL.out.1).mono ?_; rintro e w8 ⟨rfl, q8⟩
    replace LL := Lib.hid (LL.out.stays q8)
    clear q8 x0_0 x0_1 x0_2 x0_3 x0_4 x0_5 x0_6 x1_0 x1_1 x1_2 x1_3 x1_4 x1_5 x1_6 x2_0 x2_1 x2_2 x2_3 x2_4 x2_5 x2_6
    obtain ⟨x0_0, x0_1, x0_2, x0_3, x0_4, x0_5, x0_6, x1_0, x1_1, x1_2, x1_3, x1_4, x1_5, x1_6, x2_0, x2_1, x2_2, x2_3, x2_4, x2_5, x2_6⟩ := LL.out.seen
    go_wp2_with fail
    refine (dAA.out _ LL.out.1).mono ?_; rintro e w9 ⟨rfl, q9⟩
    replace LL := Lib.hid (LL.out.stays q9)
    clear q9 x0_0 x0_1 x0_2 x0_3 x0_4 x0_5 x0_6 x1_0 x1_1 x1_2 x1_3 x1_4 x1_5 x1_6 x2_0 x2_1 x2_2 x2_3 x2_4 x2_5 x2_6
    obtain ⟨x0_0, x0_1, x0_2, x0_3, x0_4, x0_5, x0_6, x1_0, x1_1, x1_2, x1_3, x1_4, x1_5, x1_6, x2_0, x2_1, x2_2, x2_3, x2_4, x2_5, x2_6⟩ := LL.out.seen
    clear dBC dAC
    go_wp2_with fail
    refine (cW.out _ LL.out.1).mono ?_; rintro e v ⟨rfl, qv⟩
    go_wp2_with fail
    go_ret
    exact ⟨rfl, LL.out.1.trans qv⟩

end Go.Proofs.YthekabflbpfjoaaGreatDoor.adr
