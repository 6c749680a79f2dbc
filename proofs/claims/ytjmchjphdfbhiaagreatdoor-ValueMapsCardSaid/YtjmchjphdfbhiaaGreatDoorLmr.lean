/- The law ValueMaps. -/
import Derived.Test.YtjmchjphdfbhiaaGreatDoorLmq
import Derived.Test.YtjmchjphdfbhiaaGreatDoorVal
namespace Go.Proofs.YtjmchjphdfbhiaaGreatDoor.val
open Go.RowKit
open Go.Proofs.YtjmchjphdfbhiaaGreatDoor
open Go.Proofs.YtjmchjphdfbhiaaGreatDoor.lit (Fx)
open Go.Proofs.YtjmchjphdfbhiaaGreatDoor.val.cp (Fit FitL Fit_iff FitL_mem set5 set5_block set5_world set5_at)
set_option maxRecDepth 100000 in
set_option maxHeartbeats 40000000 in
theorem maps_a (A4 : Option Addr) (n4 c4 : Nat) (A3 : Option Addr) (n3 c3 : Nat) (key : ByteArray) (bk bn : Int) (bs : ByteArray) (B3 : Option Addr) (bn3 l3 : Nat) (B4 : Option Addr) (bn4 l4 : Nat) (w : World) (cA : Hid (∀ w', Q w w' → Calls Tryz.prog 11 #[] w' fun e w'' => e = .returned (.bool true) ∧ Q w' w'')) (h40 : 40 < n4) :
    Calls Tryz.prog 5 #[.slice A4 n4 c4, .slice A3 n3 c3, .agg #[.string key, .int .i64 bk, .int .i64 bn, .string bs, .slice B3 bn3 l3, .slice B4 bn4 l4]] w fun e w' => e = .returned (.bool true) ∧ Q w w' := by
  have f1 : decide (40 < n4) = true := decide_eq_true h40
  have f2 : decide ((40 : Int) < (n4 : Int)) = true := decide_eq_true (by omega)
  clear h40
  obtain ⟨P2, hP2⟩ : ∃ x, w.heap.size = x := ⟨_, rfl⟩
  obtain ⟨wb2, hwb2⟩ : ∃ x, w.alloc (.cells #[.string key, .int .i64 bk, .int .i64 bn, .string bs, .slice B3 bn3 l3, .slice B4 bn4 l4] 41) = x := ⟨_, rfl⟩
  have qb2 : Q w wb2 := by rw [← hwb2]; exact Q.box _ _
  have bE : Bk P2 #[.string key, .int .i64 bk, .int .i64 bn, .string bs, .slice B3 bn3 l3, .slice B4 bn4 l4] 41 wb2 := by rw [← hwb2, ← hP2]; exact Bk.new _ _ _
  obtain ⟨P3, hP3⟩ : ∃ x, wb2.heap.size = x := ⟨_, rfl⟩
  obtain ⟨wb3, hwb3⟩ : ∃ x, (wb2.alloc (.cells #[.int .i64 0, .int .i64 0, .string ⟨#[]⟩, .slice none 0 0, .slice none 0 0] 26)).drew = x := ⟨_, rfl⟩
  have qE : Q wb2 wb3 := by rw [← hwb3]; exact Q.boxed wb2 _ 1
  have bZ : Bk P3 #[.int .i64 0, .int .i64 0, .string ⟨#[]⟩, .slice none 0 0, .slice none 0 0] 26 wb3 := by
    rw [← hwb3, ← hP3]
    exact (Bk.new _ _ _).stays (Q.drewN _ 1)
  have bE3 := bE.stays qE
  have v0 : wb2.drew.cell? ⟨P2, 0, none⟩ = _ := bE.at 0 _ rfl
  have v1 : wb2.drew.cell? ⟨P2, 1, none⟩ = _ := bE.at 1 _ rfl
  have v2 : wb2.drew.cell? ⟨P2, 2, none⟩ = _ := bE.at 2 _ rfl
  have v3 : wb2.drew.cell? ⟨P2, 3, none⟩ = _ := bE.at 3 _ rfl
  have v4 : wb2.drew.cell? ⟨P2, 4, none⟩ = _ := bE.at 4 _ rfl
  have v5 : wb2.drew.cell? ⟨P2, 5, none⟩ = _ := bE.at 5 _ rfl
  have u0 := bE3.at 0 _ rfl
  have u1 := bE3.at 1 _ rfl
  have u2 := bE3.at 2 _ rfl
  have u3 := bE3.at 3 _ rfl
  have u4 := bE3.at 4 _ rfl
  have u5 := bE3.at 5 _ rfl
  have z0 := bZ.at 0 _ rfl
  have z1 := bZ.at 1 _ rfl
  have z2 := bZ.at 2 _ rfl
  have z3 := bZ.at 3 _ rfl
  have z4 := bZ.at 4 _ rfl
  have f0 := bZ.frozen 0
  have f1 := bZ.frozen 1
  have f2 := bZ.frozen 2
  have f3 := bZ.frozen 3
  have f4 := bZ.frozen 4
  obtain ⟨bf, qf⟩ := store5 (k := bk) (n := bn) (s := bs) (s3 := .slice B3 bn3 l3) (s4 := .slice B4 bn4 l4) hP3.symm bZ qE
  obtain ⟨w4, hw4⟩ : ∃ x, set5 wb3 P3 0 (.int .i64 bk) (.int .i64 bn) (.string bs) (.slice B3 bn3 l3) (.slice B4 bn4 l4) = x := ⟨_, rfl⟩
  rw [hw4] at bf qf
  obtain ⟨L, hL⟩ : ∃ L : World → Prop, L = fun w' => Q w w' ∧ Bk P3 #[.int .i64 bk, .int .i64 bn, .string bs, .slice B3 bn3 l3, .slice B4 bn4 l4] 26 w' := ⟨_, rfl⟩
  have L4 : Hid (L w4) := Lib.hid (by rw [hL]; exact ⟨qb2.trans qf, bf⟩)
  have Lst : Hid (∀ w' w'', L w' → Q w' w'' → L w'') := Lib.hid (fun w' w'' h q => by rw [hL] at h ⊢; exact ⟨h.1.trans q, h.2.stays q⟩)
  have LQ : Hid (∀ w', L w' → Q w w') := Lib.hid (fun w' h => by rw [hL] at h; exact h.1)
  have Lsee : Hid (∀ w', L w' → w'.cell? ⟨P3, 0, none⟩ = some (.int .i64 bk) ∧ w'.cell? ⟨P3, 1, none⟩ = some (.int .i64 bn) ∧ w'.cell? ⟨P3, 2, none⟩ = some (.string bs) ∧ w'.cell? ⟨P3, 3, none⟩ = some (.slice B3 bn3 l3) ∧ w'.cell? ⟨P3, 4, none⟩ = some (.slice B4 bn4 l4)) := Lib.hid (fun w' h => by rw [hL] at h; exact ⟨h.2.at 0 _ rfl, h.2.at 1 _ rfl, h.2.at 2 _ rfl, h.2.at 3 _ rfl, h.2.at 4 _ rfl⟩)
  clear hL qb2 bf qf qE bZ bE bE3
  unfold set5 at hw4
  simp only [Nat.zero_add] at hw4
  go_enter Tryz.func5, Tryz.ntmps5
  go_wp2_with fail
  go_region
  try rw [hw4]
  clear hw4 v0 v1 v2 v3 v4 v5 u0 u1 u2 u3 u4 u5 z0 z1 z2 z3 z4 f0 f1 f2 f3 f4 hwb2 hwb3 hP2 hP3
  obtain ⟨x0, x1, x2, x3, x4⟩ := Lsee.out _ L4.out
  go_wp2_with fail
  refine (cA.out _ (LQ.out _ L4.out)).mono ?_
  rintro e wz ⟨rfl, qz⟩
  clear x0 x1 x2 x3 x4
  go_wp2_with fail
  go_ret
  exact ⟨rfl, (LQ.out _ L4.out).trans qz⟩
set_option maxRecDepth 100000 in
set_option maxHeartbeats 40000000 in
theorem maps_b (A4 : Option Addr) (n4 c4 : Nat) (A3 : Option Addr) (n3 c3 : Nat) (key : ByteArray) (bk bn : Int) (bs : ByteArray) (B3 : Option Addr) (bn3 l3 : Nat) (B4 : Option Addr) (bn4 l4 : Nat) (w : World) (cA : Hid (∀ w', Q w w' → Calls Tryz.prog 11 #[] w' fun e w'' => e = .returned (.bool true) ∧ Q w' w'')) (h40 : n4 ≤ 40) (h41 : 40 < n3) :
    Calls Tryz.prog 5 #[.slice A4 n4 c4, .slice A3 n3 c3, .agg #[.string key, .int .i64 bk, .int .i64 bn, .string bs, .slice B3 bn3 l3, .slice B4 bn4 l4]] w fun e w' => e = .returned (.bool true) ∧ Q w w' := by
  have f1 : decide (40 < n4) = false := decide_eq_false (by omega)
  have f2 : decide ((40 : Int) < (n4 : Int)) = false := decide_eq_false (by omega)
  have g1 : decide (40 < n3) = true := decide_eq_true h41
  have g2 : decide ((40 : Int) < (n3 : Int)) = true := decide_eq_true (by omega)
  clear h40 h41
  obtain ⟨P2, hP2⟩ : ∃ x, w.heap.size = x := ⟨_, rfl⟩
  obtain ⟨wb2, hwb2⟩ : ∃ x, w.alloc (.cells #[.string key, .int .i64 bk, .int .i64 bn, .string bs, .slice B3 bn3 l3, .slice B4 bn4 l4] 41) = x := ⟨_, rfl⟩
  have qb2 : Q w wb2 := by rw [← hwb2]; exact Q.box _ _
  have bE : Bk P2 #[.string key, .int .i64 bk, .int .i64 bn, .string bs, .slice B3 bn3 l3, .slice B4 bn4 l4] 41 wb2 := by rw [← hwb2, ← hP2]; exact Bk.new _ _ _
  obtain ⟨P3, hP3⟩ : ∃ x, wb2.heap.size = x := ⟨_, rfl⟩
  obtain ⟨wb3, hwb3⟩ : ∃ x, (wb2.alloc (.cells #[.int .i64 0, .int .i64 0, .string ⟨#[]⟩, .slice none 0 0, .slice none 0 0] 26)).drew = x := ⟨_, rfl⟩
  have qE : Q wb2 wb3 := by rw [← hwb3]; exact Q.boxed wb2 _ 1
  have bZ : Bk P3 #[.int .i64 0, .int .i64 0, .string ⟨#[]⟩, .slice none 0 0, .slice none 0 0] 26 wb3 := by
    rw [← hwb3, ← hP3]
    exact (Bk.new _ _ _).stays (Q.drewN _ 1)
  have bE3 := bE.stays qE
  have v0 : wb2.drew.cell? ⟨P2, 0, none⟩ = _ := bE.at 0 _ rfl
  have v1 : wb2.drew.cell? ⟨P2, 1, none⟩ = _ := bE.at 1 _ rfl
  have v2 : wb2.drew.cell? ⟨P2, 2, none⟩ = _ := bE.at 2 _ rfl
  have v3 : wb2.drew.cell? ⟨P2, 3, none⟩ = _ := bE.at 3 _ rfl
  have v4 : wb2.drew.cell? ⟨P2, 4, none⟩ = _ := bE.at 4 _ rfl
  have v5 : wb2.drew.cell? ⟨P2, 5, none⟩ = _ := bE.at 5 _ rfl
  have u0 := bE3.at 0 _ rfl
  have u1 := bE3.at 1 _ rfl
  have u2 := bE3.at 2 _ rfl
  have u3 := bE3.at 3 _ rfl
  have u4 := bE3.at 4 _ rfl
  have u5 := bE3.at 5 _ rfl
  have z0 := bZ.at 0 _ rfl
  have z1 := bZ.at 1 _ rfl
  have z2 := bZ.at 2 _ rfl
  have z3 := bZ.at 3 _ rfl
  have z4 := bZ.at 4 _ rfl
  have f0 := bZ.frozen 0
  have f1 := bZ.frozen 1
  have f2 := bZ.frozen 2
  have f3 := bZ.frozen 3
  have f4 := bZ.frozen 4
  obtain ⟨bf, qf⟩ := store5 (k := bk) (n := bn) (s := bs) (s3 := .slice B3 bn3 l3) (s4 := .slice B4 bn4 l4) hP3.symm bZ qE
  obtain ⟨w4, hw4⟩ : ∃ x, set5 wb3 P3 0 (.int .i64 bk) (.int .i64 bn) (.string bs) (.slice B3 bn3 l3) (.slice B4 bn4 l4) = x := ⟨_, rfl⟩
  rw [hw4] at bf qf
  obtain ⟨L, hL⟩ : ∃ L : World → Prop, L = fun w' => Q w w' ∧ Bk P3 #[.int .i64 bk, .int .i64 bn, .string bs, .slice B3 bn3 l3, .slice B4 bn4 l4] 26 w' := ⟨_, rfl⟩
  have L4 : Hid (L w4) := Lib.hid (by rw [hL]; exact ⟨qb2.trans qf, bf⟩)
  have Lst : Hid (∀ w' w'', L w' → Q w' w'' → L w'') := Lib.hid (fun w' w'' h q => by rw [hL] at h ⊢; exact ⟨h.1.trans q, h.2.stays q⟩)
  have LQ : Hid (∀ w', L w' → Q w w') := Lib.hid (fun w' h => by rw [hL] at h; exact h.1)
  have Lsee : Hid (∀ w', L w' → w'.cell? ⟨P3, 0, none⟩ = some (.int .i64 bk) ∧ w'.cell? ⟨P3, 1, none⟩ = some (.int .i64 bn) ∧ w'.cell? ⟨P3, 2, none⟩ = some (.string bs) ∧ w'.cell? ⟨P3, 3, none⟩ = some (.slice B3 bn3 l3) ∧ w'.cell? ⟨P3, 4, none⟩ = some (.slice B4 bn4 l4)) := Lib.hid (fun w' h => by rw [hL] at h; exact ⟨h.2.at 0 _ rfl, h.2.at 1 _ rfl, h.2.at 2 _ rfl, h.2.at 3 _ rfl, h.2.at 4 _ rfl⟩)
  clear hL qb2 bf qf qE bZ bE bE3
  unfold set5 at hw4
  simp only [Nat.zero_add] at hw4
  go_enter Tryz.func5, Tryz.ntmps5
  go_wp2_with fail
  go_region
  try rw [hw4]
  clear hw4 v0 v1 v2 v3 v4 v5 u0 u1 u2 u3 u4 u5 z0 z1 z2 z3 z4 f0 f1 f2 f3 f4 hwb2 hwb3 hP2 hP3
  obtain ⟨x0, x1, x2, x3, x4⟩ := Lsee.out _ L4.out
  go_wp2_with fail
  refine (cA.out _ (LQ.out _ L4.out)).mono ?_
  rintro e wz ⟨rfl, qz⟩
  clear x0 x1 x2 x3 x4
  go_wp2_with fail
  go_ret
  exact ⟨rfl, (LQ.out _ L4.out).trans qz⟩
set_option maxRecDepth 100000 in
set_option maxHeartbeats 40000000 in
theorem maps_c (A4 : Option Addr) (n4 c4 : Nat) (A3 : Option Addr) (n3 c3 : Nat) (key : ByteArray) (bk bn : Int) (bs : ByteArray) (B3 : Option Addr) (bn3 l3 : Nat) (B4 : Option Addr) (bn4 l4 : Nat) (w : World) (cA : Hid (∀ w', Q w w' → Calls Tryz.prog 11 #[] w' fun e w'' => e = .returned (.bool true) ∧ Q w' w'')) (h40 : n4 ≤ 40) (h41 : n3 ≤ 40) (cL : Hid (∀ w', Calls Tryz.prog 14 #[.slice A3 n3 c3] w' fun e w'' => e = .returned (.agg #[.int .i64 4, .int .i64 0, .string ⟨#[]⟩, .slice A3 n3 c3, .slice none 0 0]) ∧ Q w' w'')) (cS : Hid (∀ w', Q w w' → Calls Tryz.prog 10 #[.agg #[.int .i64 4, .int .i64 0, .string ⟨#[]⟩, .slice A3 n3 c3, .slice none 0 0], .int .i64 400] w' fun e w'' => e = .returned (.bool false) ∧ Q w' w'')) :
    Calls Tryz.prog 5 #[.slice A4 n4 c4, .slice A3 n3 c3, .agg #[.string key, .int .i64 bk, .int .i64 bn, .string bs, .slice B3 bn3 l3, .slice B4 bn4 l4]] w fun e w' => e = .returned (.bool true) ∧ Q w w' := by
  have f1 : decide (40 < n4) = false := decide_eq_false (by omega)
  have f2 : decide ((40 : Int) < (n4 : Int)) = false := decide_eq_false (by omega)
  have g1 : decide (40 < n3) = false := decide_eq_false (by omega)
  have g2 : decide ((40 : Int) < (n3 : Int)) = false := decide_eq_false (by omega)
  clear h40 h41
  obtain ⟨P2, hP2⟩ : ∃ x, w.heap.size = x := ⟨_, rfl⟩
  obtain ⟨wb2, hwb2⟩ : ∃ x, w.alloc (.cells #[.string key, .int .i64 bk, .int .i64 bn, .string bs, .slice B3 bn3 l3, .slice B4 bn4 l4] 41) = x := ⟨_, rfl⟩
  have qb2 : Q w wb2 := by rw [← hwb2]; exact Q.box _ _
  have bE : Bk P2 #[.string key, .int .i64 bk, .int .i64 bn, .string bs, .slice B3 bn3 l3, .slice B4 bn4 l4] 41 wb2 := by rw [← hwb2, ← hP2]; exact Bk.new _ _ _
  obtain ⟨P3, hP3⟩ : ∃ x, wb2.heap.size = x := ⟨_, rfl⟩
  obtain ⟨wb3, hwb3⟩ : ∃ x, (wb2.alloc (.cells #[.int .i64 0, .int .i64 0, .string ⟨#[]⟩, .slice none 0 0, .slice none 0 0] 26)).drew = x := ⟨_, rfl⟩
  have qE : Q wb2 wb3 := by rw [← hwb3]; exact Q.boxed wb2 _ 1
  have bZ : Bk P3 #[.int .i64 0, .int .i64 0, .string ⟨#[]⟩, .slice none 0 0, .slice none 0 0] 26 wb3 := by
    rw [← hwb3, ← hP3]
    exact (Bk.new _ _ _).stays (Q.drewN _ 1)
  have bE3 := bE.stays qE
  have v0 : wb2.drew.cell? ⟨P2, 0, none⟩ = _ := bE.at 0 _ rfl
  have v1 : wb2.drew.cell? ⟨P2, 1, none⟩ = _ := bE.at 1 _ rfl
  have v2 : wb2.drew.cell? ⟨P2, 2, none⟩ = _ := bE.at 2 _ rfl
  have v3 : wb2.drew.cell? ⟨P2, 3, none⟩ = _ := bE.at 3 _ rfl
  have v4 : wb2.drew.cell? ⟨P2, 4, none⟩ = _ := bE.at 4 _ rfl
  have v5 : wb2.drew.cell? ⟨P2, 5, none⟩ = _ := bE.at 5 _ rfl
  have u0 := bE3.at 0 _ rfl
  have u1 := bE3.at 1 _ rfl
  have u2 := bE3.at 2 _ rfl
  have u3 := bE3.at 3 _ rfl
  have u4 := bE3.at 4 _ rfl
  have u5 := bE3.at 5 _ rfl
  have z0 := bZ.at 0 _ rfl
  have z1 := bZ.at 1 _ rfl
  have z2 := bZ.at 2 _ rfl
  have z3 := bZ.at 3 _ rfl
  have z4 := bZ.at 4 _ rfl
  have f0 := bZ.frozen 0
  have f1 := bZ.frozen 1
  have f2 := bZ.frozen 2
  have f3 := bZ.frozen 3
  have f4 := bZ.frozen 4
  obtain ⟨bf, qf⟩ := store5 (k := bk) (n := bn) (s := bs) (s3 := .slice B3 bn3 l3) (s4 := .slice B4 bn4 l4) hP3.symm bZ qE
  obtain ⟨w4, hw4⟩ : ∃ x, set5 wb3 P3 0 (.int .i64 bk) (.int .i64 bn) (.string bs) (.slice B3 bn3 l3) (.slice B4 bn4 l4) = x := ⟨_, rfl⟩
  rw [hw4] at bf qf
  obtain ⟨L, hL⟩ : ∃ L : World → Prop, L = fun w' => Q w w' ∧ Bk P3 #[.int .i64 bk, .int .i64 bn, .string bs, .slice B3 bn3 l3, .slice B4 bn4 l4] 26 w' := ⟨_, rfl⟩
  have L4 : Hid (L w4) := Lib.hid (by rw [hL]; exact ⟨qb2.trans qf, bf⟩)
  have Lst : Hid (∀ w' w'', L w' → Q w' w'' → L w'') := Lib.hid (fun w' w'' h q => by rw [hL] at h ⊢; exact ⟨h.1.trans q, h.2.stays q⟩)
  have LQ : Hid (∀ w', L w' → Q w w') := Lib.hid (fun w' h => by rw [hL] at h; exact h.1)
  have Lsee : Hid (∀ w', L w' → w'.cell? ⟨P3, 0, none⟩ = some (.int .i64 bk) ∧ w'.cell? ⟨P3, 1, none⟩ = some (.int .i64 bn) ∧ w'.cell? ⟨P3, 2, none⟩ = some (.string bs) ∧ w'.cell? ⟨P3, 3, none⟩ = some (.slice B3 bn3 l3) ∧ w'.cell? ⟨P3, 4, none⟩ = some (.slice B4 bn4 l4)) := Lib.hid (fun w' h => by rw [hL] at h; exact ⟨h.2.at 0 _ rfl, h.2.at 1 _ rfl, h.2.at 2 _ rfl, h.2.at 3 _ rfl, h.2.at 4 _ rfl⟩)
  clear hL qb2 bf qf qE bZ bE bE3
  unfold set5 at hw4
  simp only [Nat.zero_add] at hw4
  go_enter Tryz.func5, Tryz.ntmps5
  go_wp2_with fail
  go_region
  try rw [hw4]
  clear hw4 v0 v1 v2 v3 v4 v5 u0 u1 u2 u3 u4 u5 z0 z1 z2 z3 z4 f0 f1 f2 f3 f4 hwb2 hwb3 hP2 hP3
  obtain ⟨x0, x1, x2, x3, x4⟩ := Lsee.out _ L4.out
  go_wp2_with fail
  refine (cL.out _).mono ?_
  rintro e wc1 ⟨rfl, qc1⟩
  have H1 := Lib.hid (Lst.out _ _ L4.out qc1)
  clear qc1 x0 x1 x2 x3 x4
  obtain ⟨x0, x1, x2, x3, x4⟩ := Lsee.out _ H1.out
  go_wp2_with fail
  refine (cS.out _ (LQ.out _ H1.out)).mono ?_
  rintro e wc2 ⟨rfl, qc2⟩
  have H2 := Lib.hid (Lst.out _ _ H1.out qc2)
  clear qc2 x0 x1 x2 x3 x4
  obtain ⟨x0, x1, x2, x3, x4⟩ := Lsee.out _ H2.out
  go_wp2_with fail
  refine (cA.out _ (LQ.out _ H2.out)).mono ?_
  rintro e wz ⟨rfl, qz⟩
  clear x0 x1 x2 x3 x4
  go_wp2_with fail
  go_ret
  exact ⟨rfl, (LQ.out _ H2.out).trans qz⟩
set_option maxRecDepth 100000 in
set_option maxHeartbeats 40000000 in
theorem maps_d (A4 : Option Addr) (n4 c4 : Nat) (A3 : Option Addr) (n3 c3 : Nat) (key : ByteArray) (bk bn : Int) (bs : ByteArray) (B3 : Option Addr) (bn3 l3 : Nat) (B4 : Option Addr) (bn4 l4 : Nat) (w : World) (cA : Hid (∀ w', Q w w' → Calls Tryz.prog 11 #[] w' fun e w'' => e = .returned (.bool true) ∧ Q w' w'')) (h40 : n4 ≤ 40) (h41 : n3 ≤ 40) (cL : Hid (∀ w', Calls Tryz.prog 14 #[.slice A3 n3 c3] w' fun e w'' => e = .returned (.agg #[.int .i64 4, .int .i64 0, .string ⟨#[]⟩, .slice A3 n3 c3, .slice none 0 0]) ∧ Q w' w'')) (cS : Hid (∀ w', Q w w' → Calls Tryz.prog 10 #[.agg #[.int .i64 4, .int .i64 0, .string ⟨#[]⟩, .slice A3 n3 c3, .slice none 0 0], .int .i64 400] w' fun e w'' => e = .returned (.bool true) ∧ Q w' w'')) (cT : Hid (∀ w', Q w w' → Calls Tryz.prog 10 #[.agg #[.int .i64 bk, .int .i64 bn, .string bs, .slice B3 bn3 l3, .slice B4 bn4 l4], .int .i64 400] w' fun e w'' => e = .returned (.bool false) ∧ Q w' w'')) :
    Calls Tryz.prog 5 #[.slice A4 n4 c4, .slice A3 n3 c3, .agg #[.string key, .int .i64 bk, .int .i64 bn, .string bs, .slice B3 bn3 l3, .slice B4 bn4 l4]] w fun e w' => e = .returned (.bool true) ∧ Q w w' := by
  have f1 : decide (40 < n4) = false := decide_eq_false (by omega)
  have f2 : decide ((40 : Int) < (n4 : Int)) = false := decide_eq_false (by omega)
  have g1 : decide (40 < n3) = false := decide_eq_false (by omega)
  have g2 : decide ((40 : Int) < (n3 : Int)) = false := decide_eq_false (by omega)
  clear h40 h41
  obtain ⟨P2, hP2⟩ : ∃ x, w.heap.size = x := ⟨_, rfl⟩
  obtain ⟨wb2, hwb2⟩ : ∃ x, w.alloc (.cells #[.string key, .int .i64 bk, .int .i64 bn, .string bs, .slice B3 bn3 l3, .slice B4 bn4 l4] 41) = x := ⟨_, rfl⟩
  have qb2 : Q w wb2 := by rw [← hwb2]; exact Q.box _ _
  have bE : Bk P2 #[.string key, .int .i64 bk, .int .i64 bn, .string bs, .slice B3 bn3 l3, .slice B4 bn4 l4] 41 wb2 := by rw [← hwb2, ← hP2]; exact Bk.new _ _ _
  obtain ⟨P3, hP3⟩ : ∃ x, wb2.heap.size = x := ⟨_, rfl⟩
  obtain ⟨wb3, hwb3⟩ : ∃ x, (wb2.alloc (.cells #[.int .i64 0, .int .i64 0, .string ⟨#[]⟩, .slice none 0 0, .slice none 0 0] 26)).drew = x := ⟨_, rfl⟩
  have qE : Q wb2 wb3 := by rw [← hwb3]; exact Q.boxed wb2 _ 1
  have bZ : Bk P3 #[.int .i64 0, .int .i64 0, .string ⟨#[]⟩, .slice none 0 0, .slice none 0 0] 26 wb3 := by
    rw [← hwb3, ← hP3]
    exact (Bk.new _ _ _).stays (Q.drewN _ 1)
  have bE3 := bE.stays qE
  have v0 : wb2.drew.cell? ⟨P2, 0, none⟩ = _ := bE.at 0 _ rfl
  have v1 : wb2.drew.cell? ⟨P2, 1, none⟩ = _ := bE.at 1 _ rfl
  have v2 : wb2.drew.cell? ⟨P2, 2, none⟩ = _ := bE.at 2 _ rfl
  have v3 : wb2.drew.cell? ⟨P2, 3, none⟩ = _ := bE.at 3 _ rfl
  have v4 : wb2.drew.cell? ⟨P2, 4, none⟩ = _ := bE.at 4 _ rfl
  have v5 : wb2.drew.cell? ⟨P2, 5, none⟩ = _ := bE.at 5 _ rfl
  have u0 := bE3.at 0 _ rfl
  have u1 := bE3.at 1 _ rfl
  have u2 := bE3.at 2 _ rfl
  have u3 := bE3.at 3 _ rfl
  have u4 := bE3.at 4 _ rfl
  have u5 := bE3.at 5 _ rfl
  have z0 := bZ.at 0 _ rfl
  have z1 := bZ.at 1 _ rfl
  have z2 := bZ.at 2 _ rfl
  have z3 := bZ.at 3 _ rfl
  have z4 := bZ.at 4 _ rfl
  have f0 := bZ.frozen 0
  have f1 := bZ.frozen 1
  have f2 := bZ.frozen 2
  have f3 := bZ.frozen 3
  have f4 := bZ.frozen 4
  obtain ⟨bf, qf⟩ := store5 (k := bk) (n := bn) (s := bs) (s3 := .slice B3 bn3 l3) (s4 := .slice B4 bn4 l4) hP3.symm bZ qE
  obtain ⟨w4, hw4⟩ : ∃ x, set5 wb3 P3 0 (.int .i64 bk) (.int .i64 bn) (.string bs) (.slice B3 bn3 l3) (.slice B4 bn4 l4) = x := ⟨_, rfl⟩
  rw [hw4] at bf qf
  obtain ⟨L, hL⟩ : ∃ L : World → Prop, L = fun w' => Q w w' ∧ Bk P3 #[.int .i64 bk, .int .i64 bn, .string bs, .slice B3 bn3 l3, .slice B4 bn4 l4] 26 w' := ⟨_, rfl⟩
  have L4 : Hid (L w4) := Lib.hid (by rw [hL]; exact ⟨qb2.trans qf, bf⟩)
  have Lst : Hid (∀ w' w'', L w' → Q w' w'' → L w'') := Lib.hid (fun w' w'' h q => by rw [hL] at h ⊢; exact ⟨h.1.trans q, h.2.stays q⟩)
  have LQ : Hid (∀ w', L w' → Q w w') := Lib.hid (fun w' h => by rw [hL] at h; exact h.1)
  have Lsee : Hid (∀ w', L w' → w'.cell? ⟨P3, 0, none⟩ = some (.int .i64 bk) ∧ w'.cell? ⟨P3, 1, none⟩ = some (.int .i64 bn) ∧ w'.cell? ⟨P3, 2, none⟩ = some (.string bs) ∧ w'.cell? ⟨P3, 3, none⟩ = some (.slice B3 bn3 l3) ∧ w'.cell? ⟨P3, 4, none⟩ = some (.slice B4 bn4 l4)) := Lib.hid (fun w' h => by rw [hL] at h; exact ⟨h.2.at 0 _ rfl, h.2.at 1 _ rfl, h.2.at 2 _ rfl, h.2.at 3 _ rfl, h.2.at 4 _ rfl⟩)
  clear hL qb2 bf qf qE bZ bE bE3
  unfold set5 at hw4
  simp only [Nat.zero_add] at hw4
  go_enter Tryz.func5, Tryz.ntmps5
  go_wp2_with fail
  go_region
  try rw [hw4]
  clear hw4 v0 v1 v2 v3 v4 v5 u0 u1 u2 u3 u4 u5 z0 z1 z2 z3 z4 f0 f1 f2 f3 f4 hwb2 hwb3 hP2 hP3
  obtain ⟨x0, x1, x2, x3, x4⟩ := Lsee.out _ L4.out
  go_wp2_with fail
  refine (cL.out _).mono ?_
  rintro e wc1 ⟨rfl, qc1⟩
  have H1 := Lib.hid (Lst.out _ _ L4.out qc1)
  clear qc1 x0 x1 x2 x3 x4
  obtain ⟨x0, x1, x2, x3, x4⟩ := Lsee.out _ H1.out
  go_wp2_with fail
  refine (cS.out _ (LQ.out _ H1.out)).mono ?_
  rintro e wc2 ⟨rfl, qc2⟩
  have H2 := Lib.hid (Lst.out _ _ H1.out qc2)
  clear qc2 x0 x1 x2 x3 x4
  obtain ⟨x0, x1, x2, x3, x4⟩ := Lsee.out _ H2.out
  go_wp2_with fail
  refine (cT.out _ (LQ.out _ H2.out)).mono ?_
  rintro e wc3 ⟨rfl, qc3⟩
  have H3 := Lib.hid (Lst.out _ _ H2.out qc3)
  clear qc3 x0 x1 x2 x3 x4
  obtain ⟨x0, x1, x2, x3, x4⟩ := Lsee.out _ H3.out
  go_wp2_with fail
  refine (cA.out _ (LQ.out _ H3.out)).mono ?_
  rintro e wz ⟨rfl, qz⟩
  clear x0 x1 x2 x3 x4
  go_wp2_with fail
  go_ret
  exact ⟨rfl, (LQ.out _ H3.out).trans qz⟩
set_option maxRecDepth 100000 in
set_option maxHeartbeats 40000000 in
theorem maps_e (A4 : Option Addr) (n4 c4 : Nat) (A3 : Option Addr) (n3 c3 : Nat) (key : ByteArray) (bk bn : Int) (bs : ByteArray) (B3 : Option Addr) (bn3 l3 : Nat) (B4 : Option Addr) (bn4 l4 : Nat) (w : World) (cA : Hid (∀ w', Q w w' → Calls Tryz.prog 11 #[] w' fun e w'' => e = .returned (.bool true) ∧ Q w' w'')) (h40 : n4 ≤ 40) (h41 : n3 ≤ 40) (cL : Hid (∀ w', Calls Tryz.prog 14 #[.slice A3 n3 c3] w' fun e w'' => e = .returned (.agg #[.int .i64 4, .int .i64 0, .string ⟨#[]⟩, .slice A3 n3 c3, .slice none 0 0]) ∧ Q w' w'')) (cS : Hid (∀ w', Q w w' → Calls Tryz.prog 10 #[.agg #[.int .i64 4, .int .i64 0, .string ⟨#[]⟩, .slice A3 n3 c3, .slice none 0 0], .int .i64 400] w' fun e w'' => e = .returned (.bool true) ∧ Q w' w'')) (cT : Hid (∀ w', Q w w' → Calls Tryz.prog 10 #[.agg #[.int .i64 bk, .int .i64 bn, .string bs, .slice B3 bn3 l3, .slice B4 bn4 l4], .int .i64 400] w' fun e w'' => e = .returned (.bool true) ∧ Q w' w'')) (zk zn : Int) (zs : ByteArray) (Z3 : Option Addr) (zn3 z3 : Nat) (Z4 : Option Addr) (zn4 z4 : Nat) (ec : Int) (hec : (ec != 0) = true) (cM : Hid (∀ w', Q w w' → Calls Tryz.prog 27 #[.slice A4 n4 c4, .slice A3 n3 c3] w' fun e w'' => e = .returned (.tuple #[.agg #[.int .i64 zk, .int .i64 zn, .string zs, .slice Z3 zn3 z3, .slice Z4 zn4 z4], .int .i64 ec]) ∧ Q w' w'')) (cR : Hid (∀ w', Q w w' → Calls Tryz.prog 28 #[.slice A4 n4 c4, .slice A3 n3 c3] w' fun e w'' => e = .returned (.tuple #[.agg #[.int .i64 zk, .int .i64 zn, .string zs, .slice Z3 zn3 z3, .slice Z4 zn4 z4], .int .i64 ec]) ∧ Q w' w'')) (cE : Hid (∀ w', Calls Tryz.prog 15 #[.agg #[.int .i64 zk, .int .i64 zn, .string zs, .slice Z3 zn3 z3, .slice Z4 zn4 z4], .agg #[.int .i64 zk, .int .i64 zn, .string zs, .slice Z3 zn3 z3, .slice Z4 zn4 z4]] w' fun e w'' => e = .returned (.bool true) ∧ Q w' w'')) :
    Calls Tryz.prog 5 #[.slice A4 n4 c4, .slice A3 n3 c3, .agg #[.string key, .int .i64 bk, .int .i64 bn, .string bs, .slice B3 bn3 l3, .slice B4 bn4 l4]] w fun e w' => e = .returned (.bool true) ∧ Q w w' := by
  have f1 : decide (40 < n4) = false := decide_eq_false (by omega)
  have f2 : decide ((40 : Int) < (n4 : Int)) = false := decide_eq_false (by omega)
  have g1 : decide (40 < n3) = false := decide_eq_false (by omega)
  have g2 : decide ((40 : Int) < (n3 : Int)) = false := decide_eq_false (by omega)
  clear h40 h41
  have hee : (ec != ec) = false := by simp
  obtain ⟨P2, hP2⟩ : ∃ x, w.heap.size = x := ⟨_, rfl⟩
  obtain ⟨wb2, hwb2⟩ : ∃ x, w.alloc (.cells #[.string key, .int .i64 bk, .int .i64 bn, .string bs, .slice B3 bn3 l3, .slice B4 bn4 l4] 41) = x := ⟨_, rfl⟩
  have qb2 : Q w wb2 := by rw [← hwb2]; exact Q.box _ _
  have bE : Bk P2 #[.string key, .int .i64 bk, .int .i64 bn, .string bs, .slice B3 bn3 l3, .slice B4 bn4 l4] 41 wb2 := by rw [← hwb2, ← hP2]; exact Bk.new _ _ _
  obtain ⟨P3, hP3⟩ : ∃ x, wb2.heap.size = x := ⟨_, rfl⟩
  obtain ⟨wb3, hwb3⟩ : ∃ x, (wb2.alloc (.cells #[.int .i64 0, .int .i64 0, .string ⟨#[]⟩, .slice none 0 0, .slice none 0 0] 26)).drew = x := ⟨_, rfl⟩
  have qE : Q wb2 wb3 := by rw [← hwb3]; exact Q.boxed wb2 _ 1
  have bZ : Bk P3 #[.int .i64 0, .int .i64 0, .string ⟨#[]⟩, .slice none 0 0, .slice none 0 0] 26 wb3 := by
    rw [← hwb3, ← hP3]
    exact (Bk.new _ _ _).stays (Q.drewN _ 1)
  have bE3 := bE.stays qE
  have v0 : wb2.drew.cell? ⟨P2, 0, none⟩ = _ := bE.at 0 _ rfl
  have v1 : wb2.drew.cell? ⟨P2, 1, none⟩ = _ := bE.at 1 _ rfl
  have v2 : wb2.drew.cell? ⟨P2, 2, none⟩ = _ := bE.at 2 _ rfl
  have v3 : wb2.drew.cell? ⟨P2, 3, none⟩ = _ := bE.at 3 _ rfl
  have v4 : wb2.drew.cell? ⟨P2, 4, none⟩ = _ := bE.at 4 _ rfl
  have v5 : wb2.drew.cell? ⟨P2, 5, none⟩ = _ := bE.at 5 _ rfl
  have u0 := bE3.at 0 _ rfl
  have u1 := bE3.at 1 _ rfl
  have u2 := bE3.at 2 _ rfl
  have u3 := bE3.at 3 _ rfl
  have u4 := bE3.at 4 _ rfl
  have u5 := bE3.at 5 _ rfl
  have z0 := bZ.at 0 _ rfl
  have z1 := bZ.at 1 _ rfl
  have z2 := bZ.at 2 _ rfl
  have z3 := bZ.at 3 _ rfl
  have z4 := bZ.at 4 _ rfl
  have f0 := bZ.frozen 0
  have f1 := bZ.frozen 1
  have f2 := bZ.frozen 2
  have f3 := bZ.frozen 3
  have f4 := bZ.frozen 4
  obtain ⟨bf, qf⟩ := store5 (k := bk) (n := bn) (s := bs) (s3 := .slice B3 bn3 l3) (s4 := .slice B4 bn4 l4) hP3.symm bZ qE
  obtain ⟨w4, hw4⟩ : ∃ x, set5 wb3 P3 0 (.int .i64 bk) (.int .i64 bn) (.string bs) (.slice B3 bn3 l3) (.slice B4 bn4 l4) = x := ⟨_, rfl⟩
  rw [hw4] at bf qf
  obtain ⟨L, hL⟩ : ∃ L : World → Prop, L = fun w' => Q w w' ∧ Bk P3 #[.int .i64 bk, .int .i64 bn, .string bs, .slice B3 bn3 l3, .slice B4 bn4 l4] 26 w' := ⟨_, rfl⟩
  have L4 : Hid (L w4) := Lib.hid (by rw [hL]; exact ⟨qb2.trans qf, bf⟩)
  have Lst : Hid (∀ w' w'', L w' → Q w' w'' → L w'') := Lib.hid (fun w' w'' h q => by rw [hL] at h ⊢; exact ⟨h.1.trans q, h.2.stays q⟩)
  have LQ : Hid (∀ w', L w' → Q w w') := Lib.hid (fun w' h => by rw [hL] at h; exact h.1)
  have Lsee : Hid (∀ w', L w' → w'.cell? ⟨P3, 0, none⟩ = some (.int .i64 bk) ∧ w'.cell? ⟨P3, 1, none⟩ = some (.int .i64 bn) ∧ w'.cell? ⟨P3, 2, none⟩ = some (.string bs) ∧ w'.cell? ⟨P3, 3, none⟩ = some (.slice B3 bn3 l3) ∧ w'.cell? ⟨P3, 4, none⟩ = some (.slice B4 bn4 l4)) := Lib.hid (fun w' h => by rw [hL] at h; exact ⟨h.2.at 0 _ rfl, h.2.at 1 _ rfl, h.2.at 2 _ rfl, h.2.at 3 _ rfl, h.2.at 4 _ rfl⟩)
  clear hL qb2 bf qf qE bZ bE bE3
  unfold set5 at hw4
  simp only [Nat.zero_add] at hw4
  go_enter Tryz.func5, Tryz.ntmps5
  go_wp2_with fail
  go_region
  try rw [hw4]
  clear hw4 v0 v1 v2 v3 v4 v5 u0 u1 u2 u3 u4 u5 z0 z1 z2 z3 z4 f0 f1 f2 f3 f4 hwb2 hwb3 hP2 hP3
  obtain ⟨x0, x1, x2, x3, x4⟩ := Lsee.out _ L4.out
  go_wp2_with fail
  refine (cL.out _).mono ?_
  rintro e wc1 ⟨rfl, qc1⟩
  have H1 := Lib.hid (Lst.out _ _ L4.out qc1)
  clear qc1 x0 x1 x2 x3 x4
  obtain ⟨x0, x1, x2, x3, x4⟩ := Lsee.out _ H1.out
  go_wp2_with fail
  refine (cS.out _ (LQ.out _ H1.out)).mono ?_
  rintro e wc2 ⟨rfl, qc2⟩
  have H2 := Lib.hid (Lst.out _ _ H1.out qc2)
  clear qc2 x0 x1 x2 x3 x4
  obtain ⟨x0, x1, x2, x3, x4⟩ := Lsee.out _ H2.out
  go_wp2_with fail
  refine (cT.out _ (LQ.out _ H2.out)).mono ?_
  rintro e wc3 ⟨rfl, qc3⟩
  have H3 := Lib.hid (Lst.out _ _ H2.out qc3)
  clear qc3 x0 x1 x2 x3 x4
  obtain ⟨x0, x1, x2, x3, x4⟩ := Lsee.out _ H3.out
  go_wp2_with fail
  refine (cM.out _ (LQ.out _ H3.out)).mono ?_
  rintro e wc4 ⟨rfl, qc4⟩
  obtain ⟨R4, hR4⟩ : ∃ x, wc4.heap.size = x := ⟨_, rfl⟩
  obtain ⟨wd4, hwd4⟩ : ∃ x, wc4.alloc (.cells #[.int .i64 zk, .int .i64 zn, .string zs, .slice Z3 zn3 z3, .slice Z4 zn4 z4] 26) = x := ⟨_, rfl⟩
  have qd4 : Q wc4 wd4 := by rw [← hwd4]; exact Q.box _ _
  have bd4 : Bk R4 #[.int .i64 zk, .int .i64 zn, .string zs, .slice Z3 zn3 z3, .slice Z4 zn4 z4] 26 wd4 := by rw [← hwd4, ← hR4]; exact Bk.new _ _ _
  obtain ⟨PM4, hPM4⟩ : ∃ M : World → Prop, M = fun w' => L w' ∧ Bk R4 #[.int .i64 zk, .int .i64 zn, .string zs, .slice Z3 zn3 z3, .slice Z4 zn4 z4] 26 w' := ⟨_, rfl⟩
  have H4 : Hid (PM4 wd4) := Lib.hid (by rw [hPM4]; exact ⟨Lst.out _ _ H3.out (qc4.trans qd4), bd4⟩)
  have PM4st : Hid (∀ w' w'', PM4 w' → Q w' w'' → PM4 w'') := Lib.hid (fun w' w'' h q => by rw [hPM4] at h ⊢; exact ⟨Lst.out _ _ h.1 q, (h.2).stays q⟩)
  have PM4Q : Hid (∀ w', PM4 w' → Q w w') := Lib.hid (fun w' h => by rw [hPM4] at h; exact LQ.out _ h.1)
  have PM4x : Hid (∀ w', PM4 w' → L w' ∧ Bk R4 #[.int .i64 zk, .int .i64 zn, .string zs, .slice Z3 zn3 z3, .slice Z4 zn4 z4] 26 w') := Lib.hid (fun w' h => by rw [hPM4] at h; exact h)
  have PM4see : Hid (∀ w', PM4 w' → w'.cell? ⟨P3, 0, none⟩ = some (.int .i64 bk) ∧ w'.cell? ⟨P3, 1, none⟩ = some (.int .i64 bn) ∧ w'.cell? ⟨P3, 2, none⟩ = some (.string bs) ∧ w'.cell? ⟨P3, 3, none⟩ = some (.slice B3 bn3 l3) ∧ w'.cell? ⟨P3, 4, none⟩ = some (.slice B4 bn4 l4) ∧ w'.cell? ⟨R4, 0, none⟩ = some (.int .i64 zk) ∧ w'.cell? ⟨R4, 1, none⟩ = some (.int .i64 zn) ∧ w'.cell? ⟨R4, 2, none⟩ = some (.string zs) ∧ w'.cell? ⟨R4, 3, none⟩ = some (.slice Z3 zn3 z3) ∧ w'.cell? ⟨R4, 4, none⟩ = some (.slice Z4 zn4 z4)) := Lib.hid (fun w' h => by
    rw [hPM4] at h
    have g := Lsee.out _ h.1
    exact ⟨g.1, g.2.1, g.2.2.1, g.2.2.2.1, g.2.2.2.2, (h.2).at 0 _ rfl, (h.2).at 1 _ rfl, (h.2).at 2 _ rfl, (h.2).at 3 _ rfl, (h.2).at 4 _ rfl⟩)
  clear hPM4 qc4 qd4 bd4  x0 x1 x2 x3 x4
  obtain ⟨x0, x1, x2, x3, x4, x5, x6, x7, x8, x9⟩ := PM4see.out _ H4.out
  go_wp2_with fail
  refine (cR.out _ (PM4Q.out _ H4.out)).mono ?_
  rintro e wc5 ⟨rfl, qc5⟩
  obtain ⟨R5, hR5⟩ : ∃ x, wc5.heap.size = x := ⟨_, rfl⟩
  obtain ⟨wd5, hwd5⟩ : ∃ x, wc5.alloc (.cells #[.int .i64 zk, .int .i64 zn, .string zs, .slice Z3 zn3 z3, .slice Z4 zn4 z4] 26) = x := ⟨_, rfl⟩
  have qd5 : Q wc5 wd5 := by rw [← hwd5]; exact Q.box _ _
  have bd5 : Bk R5 #[.int .i64 zk, .int .i64 zn, .string zs, .slice Z3 zn3 z3, .slice Z4 zn4 z4] 26 wd5 := by rw [← hwd5, ← hR5]; exact Bk.new _ _ _
  obtain ⟨PM5, hPM5⟩ : ∃ M : World → Prop, M = fun w' => PM4 w' ∧ Bk R5 #[.int .i64 zk, .int .i64 zn, .string zs, .slice Z3 zn3 z3, .slice Z4 zn4 z4] 26 w' := ⟨_, rfl⟩
  have H5 : Hid (PM5 wd5) := Lib.hid (by rw [hPM5]; exact ⟨PM4st.out _ _ H4.out (qc5.trans qd5), bd5⟩)
  have PM5st : Hid (∀ w' w'', PM5 w' → Q w' w'' → PM5 w'') := Lib.hid (fun w' w'' h q => by rw [hPM5] at h ⊢; exact ⟨PM4st.out _ _ h.1 q, (h.2).stays q⟩)
  have PM5Q : Hid (∀ w', PM5 w' → Q w w') := Lib.hid (fun w' h => by rw [hPM5] at h; exact PM4Q.out _ h.1)
  have PM5x : Hid (∀ w', PM5 w' → PM4 w' ∧ Bk R5 #[.int .i64 zk, .int .i64 zn, .string zs, .slice Z3 zn3 z3, .slice Z4 zn4 z4] 26 w') := Lib.hid (fun w' h => by rw [hPM5] at h; exact h)
  have PM5see : Hid (∀ w', PM5 w' → w'.cell? ⟨P3, 0, none⟩ = some (.int .i64 bk) ∧ w'.cell? ⟨P3, 1, none⟩ = some (.int .i64 bn) ∧ w'.cell? ⟨P3, 2, none⟩ = some (.string bs) ∧ w'.cell? ⟨P3, 3, none⟩ = some (.slice B3 bn3 l3) ∧ w'.cell? ⟨P3, 4, none⟩ = some (.slice B4 bn4 l4) ∧ w'.cell? ⟨R4, 0, none⟩ = some (.int .i64 zk) ∧ w'.cell? ⟨R4, 1, none⟩ = some (.int .i64 zn) ∧ w'.cell? ⟨R4, 2, none⟩ = some (.string zs) ∧ w'.cell? ⟨R4, 3, none⟩ = some (.slice Z3 zn3 z3) ∧ w'.cell? ⟨R4, 4, none⟩ = some (.slice Z4 zn4 z4) ∧ w'.cell? ⟨R5, 0, none⟩ = some (.int .i64 zk) ∧ w'.cell? ⟨R5, 1, none⟩ = some (.int .i64 zn) ∧ w'.cell? ⟨R5, 2, none⟩ = some (.string zs) ∧ w'.cell? ⟨R5, 3, none⟩ = some (.slice Z3 zn3 z3) ∧ w'.cell? ⟨R5, 4, none⟩ = some (.slice Z4 zn4 z4)) := Lib.hid (fun w' h => by
    rw [hPM5] at h
    have g := PM4see.out _ h.1
    exact ⟨g.1, g.2.1, g.2.2.1, g.2.2.2.1, g.2.2.2.2.1, g.2.2.2.2.2.1, g.2.2.2.2.2.2.1, g.2.2.2.2.2.2.2.1, g.2.2.2.2.2.2.2.2.1, g.2.2.2.2.2.2.2.2.2, (h.2).at 0 _ rfl, (h.2).at 1 _ rfl, (h.2).at 2 _ rfl, (h.2).at 3 _ rfl, (h.2).at 4 _ rfl⟩)
  clear hPM5 qc5 qd5 bd5  x0 x1 x2 x3 x4 x5 x6 x7 x8 x9
  obtain ⟨x0, x1, x2, x3, x4, x5, x6, x7, x8, x9, x10, x11, x12, x13, x14⟩ := PM5see.out _ H5.out
  go_wp2_with fail
  refine (cE.out _).mono ?_
  rintro e wc6 ⟨rfl, qc6⟩
  have H6 := Lib.hid (PM5st.out _ _ H5.out qc6)
  clear qc6 x0 x1 x2 x3 x4 x5 x6 x7 x8 x9 x10 x11 x12 x13 x14
  obtain ⟨x0, x1, x2, x3, x4, x5, x6, x7, x8, x9, x10, x11, x12, x13, x14⟩ := PM5see.out _ H6.out
  go_wp2_with fail
  refine (cA.out _ (PM5Q.out _ H6.out)).mono ?_
  rintro e wz ⟨rfl, qz⟩
  clear x0 x1 x2 x3 x4 x5 x6 x7 x8 x9 x10 x11 x12 x13 x14
  go_wp2_with fail
  go_ret
  exact ⟨rfl, (PM5Q.out _ H6.out).trans qz⟩
set_option maxRecDepth 100000 in
set_option maxHeartbeats 40000000 in
theorem maps_f (A4 : Option Addr) (n4 c4 : Nat) (A3 : Option Addr) (n3 c3 : Nat) (key : ByteArray) (bk bn : Int) (bs : ByteArray) (B3 : Option Addr) (bn3 l3 : Nat) (B4 : Option Addr) (bn4 l4 : Nat) (w : World) (cA : Hid (∀ w', Q w w' → Calls Tryz.prog 11 #[] w' fun e w'' => e = .returned (.bool true) ∧ Q w' w'')) (h40 : n4 ≤ 40) (h41 : n3 ≤ 40) (cL : Hid (∀ w', Calls Tryz.prog 14 #[.slice A3 n3 c3] w' fun e w'' => e = .returned (.agg #[.int .i64 4, .int .i64 0, .string ⟨#[]⟩, .slice A3 n3 c3, .slice none 0 0]) ∧ Q w' w'')) (cS : Hid (∀ w', Q w w' → Calls Tryz.prog 10 #[.agg #[.int .i64 4, .int .i64 0, .string ⟨#[]⟩, .slice A3 n3 c3, .slice none 0 0], .int .i64 400] w' fun e w'' => e = .returned (.bool true) ∧ Q w' w'')) (cT : Hid (∀ w', Q w w' → Calls Tryz.prog 10 #[.agg #[.int .i64 bk, .int .i64 bn, .string bs, .slice B3 bn3 l3, .slice B4 bn4 l4], .int .i64 400] w' fun e w'' => e = .returned (.bool true) ∧ Q w' w'')) (r : List (ByteArray × V)) (n : Nat) (hn : r.length = n) (hn4 : n ≤ 40) (hk : okR r) (cM : Hid (∀ w', Q w w' → Calls Tryz.prog 27 #[.slice A4 n4 c4, .slice A3 n3 c3] w' fun e w'' => ∃ M3 m3 M4 m4, e = .returned (.tuple #[.agg #[.int .i64 5, .int .i64 0, .string ⟨#[]⟩, .slice M3 n m3, .slice M4 n m4], .int .i64 0]) ∧ Is (.slice M3 n m3) (r.map (fun b => b.2)) w'' ∧ Ks (.slice M4 n m4) (r.map (fun b => b.1)) w'' ∧ Q w' w'')) (cR : Hid (∀ w', Q w w' → Calls Tryz.prog 28 #[.slice A4 n4 c4, .slice A3 n3 c3] w' fun e w'' => ∃ M3 m3 M4 m4, e = .returned (.tuple #[.agg #[.int .i64 5, .int .i64 0, .string ⟨#[]⟩, .slice M3 n m3, .slice M4 n m4], .int .i64 0]) ∧ Is (.slice M3 n m3) (r.map (fun b => b.2)) w'' ∧ Ks (.slice M4 n m4) (r.map (fun b => b.1)) w'' ∧ Q w' w'')) (hc0 : ¬ chkE (mk5 r) = 0) :
    Calls Tryz.prog 5 #[.slice A4 n4 c4, .slice A3 n3 c3, .agg #[.string key, .int .i64 bk, .int .i64 bn, .string bs, .slice B3 bn3 l3, .slice B4 bn4 l4]] w fun e w' => e = .returned (.bool true) ∧ Q w w' := by
  have f1 : decide (40 < n4) = false := decide_eq_false (by omega)
  have f2 : decide ((40 : Int) < (n4 : Int)) = false := decide_eq_false (by omega)
  have g1 : decide (40 < n3) = false := decide_eq_false (by omega)
  have g2 : decide ((40 : Int) < (n3 : Int)) = false := decide_eq_false (by omega)
  clear h40 h41
  have hCE : (chkE (mk5 r) != 0) = true := by simpa using hc0
  obtain ⟨ce, hce⟩ : ∃ x, chkE (mk5 r) = x := ⟨_, rfl⟩
  rw [hce] at hCE
  clear hc0
  obtain ⟨P2, hP2⟩ : ∃ x, w.heap.size = x := ⟨_, rfl⟩
  obtain ⟨wb2, hwb2⟩ : ∃ x, w.alloc (.cells #[.string key, .int .i64 bk, .int .i64 bn, .string bs, .slice B3 bn3 l3, .slice B4 bn4 l4] 41) = x := ⟨_, rfl⟩
  have qb2 : Q w wb2 := by rw [← hwb2]; exact Q.box _ _
  have bE : Bk P2 #[.string key, .int .i64 bk, .int .i64 bn, .string bs, .slice B3 bn3 l3, .slice B4 bn4 l4] 41 wb2 := by rw [← hwb2, ← hP2]; exact Bk.new _ _ _
  obtain ⟨P3, hP3⟩ : ∃ x, wb2.heap.size = x := ⟨_, rfl⟩
  obtain ⟨wb3, hwb3⟩ : ∃ x, (wb2.alloc (.cells #[.int .i64 0, .int .i64 0, .string ⟨#[]⟩, .slice none 0 0, .slice none 0 0] 26)).drew = x := ⟨_, rfl⟩
  have qE : Q wb2 wb3 := by rw [← hwb3]; exact Q.boxed wb2 _ 1
  have bZ : Bk P3 #[.int .i64 0, .int .i64 0, .string ⟨#[]⟩, .slice none 0 0, .slice none 0 0] 26 wb3 := by
    rw [← hwb3, ← hP3]
    exact (Bk.new _ _ _).stays (Q.drewN _ 1)
  have bE3 := bE.stays qE
  have v0 : wb2.drew.cell? ⟨P2, 0, none⟩ = _ := bE.at 0 _ rfl
  have v1 : wb2.drew.cell? ⟨P2, 1, none⟩ = _ := bE.at 1 _ rfl
  have v2 : wb2.drew.cell? ⟨P2, 2, none⟩ = _ := bE.at 2 _ rfl
  have v3 : wb2.drew.cell? ⟨P2, 3, none⟩ = _ := bE.at 3 _ rfl
  have v4 : wb2.drew.cell? ⟨P2, 4, none⟩ = _ := bE.at 4 _ rfl
  have v5 : wb2.drew.cell? ⟨P2, 5, none⟩ = _ := bE.at 5 _ rfl
  have u0 := bE3.at 0 _ rfl
  have u1 := bE3.at 1 _ rfl
  have u2 := bE3.at 2 _ rfl
  have u3 := bE3.at 3 _ rfl
  have u4 := bE3.at 4 _ rfl
  have u5 := bE3.at 5 _ rfl
  have z0 := bZ.at 0 _ rfl
  have z1 := bZ.at 1 _ rfl
  have z2 := bZ.at 2 _ rfl
  have z3 := bZ.at 3 _ rfl
  have z4 := bZ.at 4 _ rfl
  have f0 := bZ.frozen 0
  have f1 := bZ.frozen 1
  have f2 := bZ.frozen 2
  have f3 := bZ.frozen 3
  have f4 := bZ.frozen 4
  obtain ⟨bf, qf⟩ := store5 (k := bk) (n := bn) (s := bs) (s3 := .slice B3 bn3 l3) (s4 := .slice B4 bn4 l4) hP3.symm bZ qE
  obtain ⟨w4, hw4⟩ : ∃ x, set5 wb3 P3 0 (.int .i64 bk) (.int .i64 bn) (.string bs) (.slice B3 bn3 l3) (.slice B4 bn4 l4) = x := ⟨_, rfl⟩
  rw [hw4] at bf qf
  obtain ⟨L, hL⟩ : ∃ L : World → Prop, L = fun w' => Q w w' ∧ Bk P3 #[.int .i64 bk, .int .i64 bn, .string bs, .slice B3 bn3 l3, .slice B4 bn4 l4] 26 w' := ⟨_, rfl⟩
  have L4 : Hid (L w4) := Lib.hid (by rw [hL]; exact ⟨qb2.trans qf, bf⟩)
  have Lst : Hid (∀ w' w'', L w' → Q w' w'' → L w'') := Lib.hid (fun w' w'' h q => by rw [hL] at h ⊢; exact ⟨h.1.trans q, h.2.stays q⟩)
  have LQ : Hid (∀ w', L w' → Q w w') := Lib.hid (fun w' h => by rw [hL] at h; exact h.1)
  have Lsee : Hid (∀ w', L w' → w'.cell? ⟨P3, 0, none⟩ = some (.int .i64 bk) ∧ w'.cell? ⟨P3, 1, none⟩ = some (.int .i64 bn) ∧ w'.cell? ⟨P3, 2, none⟩ = some (.string bs) ∧ w'.cell? ⟨P3, 3, none⟩ = some (.slice B3 bn3 l3) ∧ w'.cell? ⟨P3, 4, none⟩ = some (.slice B4 bn4 l4)) := Lib.hid (fun w' h => by rw [hL] at h; exact ⟨h.2.at 0 _ rfl, h.2.at 1 _ rfl, h.2.at 2 _ rfl, h.2.at 3 _ rfl, h.2.at 4 _ rfl⟩)
  clear hL qb2 bf qf qE bZ bE bE3
  unfold set5 at hw4
  simp only [Nat.zero_add] at hw4
  go_enter Tryz.func5, Tryz.ntmps5
  go_wp2_with fail
  go_region
  try rw [hw4]
  clear hw4 v0 v1 v2 v3 v4 v5 u0 u1 u2 u3 u4 u5 z0 z1 z2 z3 z4 f0 f1 f2 f3 f4 hwb2 hwb3 hP2 hP3
  obtain ⟨x0, x1, x2, x3, x4⟩ := Lsee.out _ L4.out
  go_wp2_with fail
  refine (cL.out _).mono ?_
  rintro e wc1 ⟨rfl, qc1⟩
  have H1 := Lib.hid (Lst.out _ _ L4.out qc1)
  clear qc1 x0 x1 x2 x3 x4
  obtain ⟨x0, x1, x2, x3, x4⟩ := Lsee.out _ H1.out
  go_wp2_with fail
  refine (cS.out _ (LQ.out _ H1.out)).mono ?_
  rintro e wc2 ⟨rfl, qc2⟩
  have H2 := Lib.hid (Lst.out _ _ H1.out qc2)
  clear qc2 x0 x1 x2 x3 x4
  obtain ⟨x0, x1, x2, x3, x4⟩ := Lsee.out _ H2.out
  go_wp2_with fail
  refine (cT.out _ (LQ.out _ H2.out)).mono ?_
  rintro e wc3 ⟨rfl, qc3⟩
  have H3 := Lib.hid (Lst.out _ _ H2.out qc3)
  clear qc3 x0 x1 x2 x3 x4
  obtain ⟨x0, x1, x2, x3, x4⟩ := Lsee.out _ H3.out
  go_wp2_with fail
  refine (cM.out _ (LQ.out _ H3.out)).mono ?_
  rintro e wc4 ⟨M3, m3, M4, m4, rfl, hI, hK, qc4⟩
  obtain ⟨R4, hR4⟩ : ∃ x, wc4.heap.size = x := ⟨_, rfl⟩
  obtain ⟨wd4, hwd4⟩ : ∃ x, wc4.alloc (.cells #[.int .i64 5, .int .i64 0, .string ⟨#[]⟩, .slice M3 n m3, .slice M4 n m4] 26) = x := ⟨_, rfl⟩
  have qd4 : Q wc4 wd4 := by rw [← hwd4]; exact Q.box _ _
  have bd4 : Bk R4 #[.int .i64 5, .int .i64 0, .string ⟨#[]⟩, .slice M3 n m3, .slice M4 n m4] 26 wd4 := by rw [← hwd4, ← hR4]; exact Bk.new _ _ _
  obtain ⟨PM4, hPM4⟩ : ∃ M : World → Prop, M = fun w' => L w' ∧ Bk R4 #[.int .i64 5, .int .i64 0, .string ⟨#[]⟩, .slice M3 n m3, .slice M4 n m4] 26 w' ∧ Is (.slice M3 n m3) (r.map (fun b => b.2)) w' ∧ Ks (.slice M4 n m4) (r.map (fun b => b.1)) w' := ⟨_, rfl⟩
  have H4 : Hid (PM4 wd4) := Lib.hid (by rw [hPM4]; exact ⟨Lst.out _ _ H3.out (qc4.trans qd4), bd4, hI.stays qd4, hK.stays qd4⟩)
  have PM4st : Hid (∀ w' w'', PM4 w' → Q w' w'' → PM4 w'') := Lib.hid (fun w' w'' h q => by rw [hPM4] at h ⊢; exact ⟨Lst.out _ _ h.1 q, (h.2.1).stays q, (h.2.2.1).stays q, (h.2.2.2).stays q⟩)
  have PM4Q : Hid (∀ w', PM4 w' → Q w w') := Lib.hid (fun w' h => by rw [hPM4] at h; exact LQ.out _ h.1)
  have PM4x : Hid (∀ w', PM4 w' → L w' ∧ Bk R4 #[.int .i64 5, .int .i64 0, .string ⟨#[]⟩, .slice M3 n m3, .slice M4 n m4] 26 w' ∧ Is (.slice M3 n m3) (r.map (fun b => b.2)) w' ∧ Ks (.slice M4 n m4) (r.map (fun b => b.1)) w') := Lib.hid (fun w' h => by rw [hPM4] at h; exact h)
  have PM4see : Hid (∀ w', PM4 w' → w'.cell? ⟨P3, 0, none⟩ = some (.int .i64 bk) ∧ w'.cell? ⟨P3, 1, none⟩ = some (.int .i64 bn) ∧ w'.cell? ⟨P3, 2, none⟩ = some (.string bs) ∧ w'.cell? ⟨P3, 3, none⟩ = some (.slice B3 bn3 l3) ∧ w'.cell? ⟨P3, 4, none⟩ = some (.slice B4 bn4 l4) ∧ w'.cell? ⟨R4, 0, none⟩ = some (.int .i64 5) ∧ w'.cell? ⟨R4, 1, none⟩ = some (.int .i64 0) ∧ w'.cell? ⟨R4, 2, none⟩ = some (.string ⟨#[]⟩) ∧ w'.cell? ⟨R4, 3, none⟩ = some (.slice M3 n m3) ∧ w'.cell? ⟨R4, 4, none⟩ = some (.slice M4 n m4)) := Lib.hid (fun w' h => by
    rw [hPM4] at h
    have g := Lsee.out _ h.1
    exact ⟨g.1, g.2.1, g.2.2.1, g.2.2.2.1, g.2.2.2.2, (h.2.1).at 0 _ rfl, (h.2.1).at 1 _ rfl, (h.2.1).at 2 _ rfl, (h.2.1).at 3 _ rfl, (h.2.1).at 4 _ rfl⟩)
  clear hPM4 qc4 qd4 bd4 hI hK x0 x1 x2 x3 x4
  obtain ⟨x0, x1, x2, x3, x4, x5, x6, x7, x8, x9⟩ := PM4see.out _ H4.out
  go_wp2_with fail
  refine (cR.out _ (PM4Q.out _ H4.out)).mono ?_
  rintro e wc5 ⟨W3, w3', W4, w4', rfl, hI, hK, qc5⟩
  obtain ⟨R5, hR5⟩ : ∃ x, wc5.heap.size = x := ⟨_, rfl⟩
  obtain ⟨wd5, hwd5⟩ : ∃ x, wc5.alloc (.cells #[.int .i64 5, .int .i64 0, .string ⟨#[]⟩, .slice W3 n w3', .slice W4 n w4'] 26) = x := ⟨_, rfl⟩
  have qd5 : Q wc5 wd5 := by rw [← hwd5]; exact Q.box _ _
  have bd5 : Bk R5 #[.int .i64 5, .int .i64 0, .string ⟨#[]⟩, .slice W3 n w3', .slice W4 n w4'] 26 wd5 := by rw [← hwd5, ← hR5]; exact Bk.new _ _ _
  obtain ⟨PM5, hPM5⟩ : ∃ M : World → Prop, M = fun w' => PM4 w' ∧ Bk R5 #[.int .i64 5, .int .i64 0, .string ⟨#[]⟩, .slice W3 n w3', .slice W4 n w4'] 26 w' ∧ Is (.slice W3 n w3') (r.map (fun b => b.2)) w' ∧ Ks (.slice W4 n w4') (r.map (fun b => b.1)) w' := ⟨_, rfl⟩
  have H5 : Hid (PM5 wd5) := Lib.hid (by rw [hPM5]; exact ⟨PM4st.out _ _ H4.out (qc5.trans qd5), bd5, hI.stays qd5, hK.stays qd5⟩)
  have PM5st : Hid (∀ w' w'', PM5 w' → Q w' w'' → PM5 w'') := Lib.hid (fun w' w'' h q => by rw [hPM5] at h ⊢; exact ⟨PM4st.out _ _ h.1 q, (h.2.1).stays q, (h.2.2.1).stays q, (h.2.2.2).stays q⟩)
  have PM5Q : Hid (∀ w', PM5 w' → Q w w') := Lib.hid (fun w' h => by rw [hPM5] at h; exact PM4Q.out _ h.1)
  have PM5x : Hid (∀ w', PM5 w' → PM4 w' ∧ Bk R5 #[.int .i64 5, .int .i64 0, .string ⟨#[]⟩, .slice W3 n w3', .slice W4 n w4'] 26 w' ∧ Is (.slice W3 n w3') (r.map (fun b => b.2)) w' ∧ Ks (.slice W4 n w4') (r.map (fun b => b.1)) w') := Lib.hid (fun w' h => by rw [hPM5] at h; exact h)
  have PM5see : Hid (∀ w', PM5 w' → w'.cell? ⟨P3, 0, none⟩ = some (.int .i64 bk) ∧ w'.cell? ⟨P3, 1, none⟩ = some (.int .i64 bn) ∧ w'.cell? ⟨P3, 2, none⟩ = some (.string bs) ∧ w'.cell? ⟨P3, 3, none⟩ = some (.slice B3 bn3 l3) ∧ w'.cell? ⟨P3, 4, none⟩ = some (.slice B4 bn4 l4) ∧ w'.cell? ⟨R4, 0, none⟩ = some (.int .i64 5) ∧ w'.cell? ⟨R4, 1, none⟩ = some (.int .i64 0) ∧ w'.cell? ⟨R4, 2, none⟩ = some (.string ⟨#[]⟩) ∧ w'.cell? ⟨R4, 3, none⟩ = some (.slice M3 n m3) ∧ w'.cell? ⟨R4, 4, none⟩ = some (.slice M4 n m4) ∧ w'.cell? ⟨R5, 0, none⟩ = some (.int .i64 5) ∧ w'.cell? ⟨R5, 1, none⟩ = some (.int .i64 0) ∧ w'.cell? ⟨R5, 2, none⟩ = some (.string ⟨#[]⟩) ∧ w'.cell? ⟨R5, 3, none⟩ = some (.slice W3 n w3') ∧ w'.cell? ⟨R5, 4, none⟩ = some (.slice W4 n w4')) := Lib.hid (fun w' h => by
    rw [hPM5] at h
    have g := PM4see.out _ h.1
    exact ⟨g.1, g.2.1, g.2.2.1, g.2.2.2.1, g.2.2.2.2.1, g.2.2.2.2.2.1, g.2.2.2.2.2.2.1, g.2.2.2.2.2.2.2.1, g.2.2.2.2.2.2.2.2.1, g.2.2.2.2.2.2.2.2.2, (h.2.1).at 0 _ rfl, (h.2.1).at 1 _ rfl, (h.2.1).at 2 _ rfl, (h.2.1).at 3 _ rfl, (h.2.1).at 4 _ rfl⟩)
  clear hPM5 qc5 qd5 bd5 hI hK x0 x1 x2 x3 x4 x5 x6 x7 x8 x9
  obtain ⟨x0, x1, x2, x3, x4, x5, x6, x7, x8, x9, x10, x11, x12, x13, x14⟩ := PM5see.out _ H5.out
  go_wp2_with fail
  refine (req5_self hn hk (by omega) (PM4x.out _ (PM5x.out _ H5.out).1).2.2.1 (PM4x.out _ (PM5x.out _ H5.out).1).2.2.2 (PM5x.out _ H5.out).2.2.1 (PM5x.out _ H5.out).2.2.2).mono ?_
  rintro e wc6 ⟨rfl, qc6⟩
  have H6 := Lib.hid (PM5st.out _ _ H5.out qc6)
  clear qc6 x0 x1 x2 x3 x4 x5 x6 x7 x8 x9 x10 x11 x12 x13 x14
  obtain ⟨x0, x1, x2, x3, x4, x5, x6, x7, x8, x9, x10, x11, x12, x13, x14⟩ := PM5see.out _ H6.out
  go_wp2_with fail
  refine ((rchk5_any hn hk (by omega) (PM4x.out _ (PM5x.out _ H6.out).1).2.2.1 (PM4x.out _ (PM5x.out _ H6.out).1).2.2.2).mono (fun e w' h => (by rw [hce] at h; exact h : e = .returned (.int .i64 ce) ∧ Q _ w'))).mono ?_
  rintro e wc7 ⟨rfl, qc7⟩
  have H7 := Lib.hid (PM5st.out _ _ H6.out qc7)
  clear qc7 x0 x1 x2 x3 x4 x5 x6 x7 x8 x9 x10 x11 x12 x13 x14
  obtain ⟨x0, x1, x2, x3, x4, x5, x6, x7, x8, x9, x10, x11, x12, x13, x14⟩ := PM5see.out _ H7.out
  go_wp2_with fail
  refine (cA.out _ (PM5Q.out _ H7.out)).mono ?_
  rintro e wz ⟨rfl, qz⟩
  clear x0 x1 x2 x3 x4 x5 x6 x7 x8 x9 x10 x11 x12 x13 x14
  go_wp2_with fail
  go_ret
  exact ⟨rfl, (PM5Q.out _ H7.out).trans qz⟩
set_option maxRecDepth 100000 in
set_option maxHeartbeats 40000000 in
theorem maps_g (A4 : Option Addr) (n4 c4 : Nat) (A3 : Option Addr) (n3 c3 : Nat) (key : ByteArray) (bk bn : Int) (bs : ByteArray) (B3 : Option Addr) (bn3 l3 : Nat) (B4 : Option Addr) (bn4 l4 : Nat) (w : World) (cA : Hid (∀ w', Q w w' → Calls Tryz.prog 11 #[] w' fun e w'' => e = .returned (.bool true) ∧ Q w' w'')) (h40 : n4 ≤ 40) (h41 : n3 ≤ 40) (cL : Hid (∀ w', Calls Tryz.prog 14 #[.slice A3 n3 c3] w' fun e w'' => e = .returned (.agg #[.int .i64 4, .int .i64 0, .string ⟨#[]⟩, .slice A3 n3 c3, .slice none 0 0]) ∧ Q w' w'')) (cS : Hid (∀ w', Q w w' → Calls Tryz.prog 10 #[.agg #[.int .i64 4, .int .i64 0, .string ⟨#[]⟩, .slice A3 n3 c3, .slice none 0 0], .int .i64 400] w' fun e w'' => e = .returned (.bool true) ∧ Q w' w'')) (cT : Hid (∀ w', Q w w' → Calls Tryz.prog 10 #[.agg #[.int .i64 bk, .int .i64 bn, .string bs, .slice B3 bn3 l3, .slice B4 bn4 l4], .int .i64 400] w' fun e w'' => e = .returned (.bool true) ∧ Q w' w'')) (r : List (ByteArray × V)) (n : Nat) (hn : r.length = n) (hn4 : n ≤ 40) (hk : okR r) (cM : Hid (∀ w', Q w w' → Calls Tryz.prog 27 #[.slice A4 n4 c4, .slice A3 n3 c3] w' fun e w'' => ∃ M3 m3 M4 m4, e = .returned (.tuple #[.agg #[.int .i64 5, .int .i64 0, .string ⟨#[]⟩, .slice M3 n m3, .slice M4 n m4], .int .i64 0]) ∧ Is (.slice M3 n m3) (r.map (fun b => b.2)) w'' ∧ Ks (.slice M4 n m4) (r.map (fun b => b.1)) w'' ∧ Q w' w'')) (cR : Hid (∀ w', Q w w' → Calls Tryz.prog 28 #[.slice A4 n4 c4, .slice A3 n3 c3] w' fun e w'' => ∃ M3 m3 M4 m4, e = .returned (.tuple #[.agg #[.int .i64 5, .int .i64 0, .string ⟨#[]⟩, .slice M3 n m3, .slice M4 n m4], .int .i64 0]) ∧ Is (.slice M3 n m3) (r.map (fun b => b.2)) w'' ∧ Ks (.slice M4 n m4) (r.map (fun b => b.1)) w'' ∧ Q w' w'')) (asr : asc r) (hc0 : chkE (mk5 r) = 0) (hs : nodes (mk5 r) ≤ 400) (b : V) (hb : Va b B3 l3 B4 l4 w) (eb : b.kind = bk ∧ b.num = bn ∧ b.str = bs ∧ b.items.length = bn3 ∧ b.keys.length = bn4) (hkm : key.size ≤ maxLen) (hu0 : ¬ chkE b = 0) :
    Calls Tryz.prog 5 #[.slice A4 n4 c4, .slice A3 n3 c3, .agg #[.string key, .int .i64 bk, .int .i64 bn, .string bs, .slice B3 bn3 l3, .slice B4 bn4 l4]] w fun e w' => e = .returned (.bool true) ∧ Q w w' := by
  have f1 : decide (40 < n4) = false := decide_eq_false (by omega)
  have f2 : decide ((40 : Int) < (n4 : Int)) = false := decide_eq_false (by omega)
  have g1 : decide (40 < n3) = false := decide_eq_false (by omega)
  have g2 : decide ((40 : Int) < (n3 : Int)) = false := decide_eq_false (by omega)
  clear h40 h41
  obtain ⟨yk, eyk⟩ : ∃ x, (itP r key).kind = x := ⟨_, rfl⟩
  obtain ⟨yn, eyn⟩ : ∃ x, (itP r key).num = x := ⟨_, rfl⟩
  obtain ⟨ys, eys⟩ : ∃ x, (itP r key).str = x := ⟨_, rfl⟩
  obtain ⟨yn3, eyn3⟩ : ∃ x, (itP r key).items.length = x := ⟨_, rfl⟩
  obtain ⟨yn4, eyn4⟩ : ∃ x, (itP r key).keys.length = x := ⟨_, rfl⟩
  obtain ⟨O, eO⟩ : ∃ x, (getP r key).isSome = x := ⟨_, rfl⟩
  have hOO : (O == O) = true := by simp
  have cG : Hid (∀ w' M3 m3 M4 m4, Is (.slice M3 n m3) (r.map (fun b => b.2)) w' → Ks (.slice M4 n m4) (r.map (fun b => b.1)) w' → Calls Tryz.prog 29 #[.agg #[.int .i64 5, .int .i64 0, .string ⟨#[]⟩, .slice M3 n m3, .slice M4 n m4], .string key] w' fun e w'' => ∃ T3 t3 T4 t4, e = .returned (.tuple #[.agg #[.int .i64 yk, .int .i64 yn, .string ys, .slice T3 yn3 t3, .slice T4 yn4 t4], .bool O]) ∧ Va (itP r key) T3 t3 T4 t4 w'' ∧ Q w' w'') := Lib.hid (fun w' M3 m3 M4 m4 h3 h4 => by
    have h := get5_any hn hc0 hk hs key h3 h4
    unfold GivesG at h
    rw [eyk, eyn, eys, eyn3, eyn4, eO] at h
    exact h)
  have cH : Hid (∀ w' M3 m3 M4 m4, Is (.slice M3 n m3) (r.map (fun b => b.2)) w' → Ks (.slice M4 n m4) (r.map (fun b => b.1)) w' → Calls Tryz.prog 30 #[.agg #[.int .i64 5, .int .i64 0, .string ⟨#[]⟩, .slice M3 n m3, .slice M4 n m4], .string key] w' fun e w'' => ∃ T3 t3 T4 t4, e = .returned (.tuple #[.agg #[.int .i64 yk, .int .i64 yn, .string ys, .slice T3 yn3 t3, .slice T4 yn4 t4], .bool O]) ∧ Va (itP r key) T3 t3 T4 t4 w'' ∧ Q w' w'') := Lib.hid (fun w' M3 m3 M4 m4 h3 h4 => by
    have h := rget5_any hn hk (by omega) key h3 h4
    unfold GivesG at h
    rw [eyk, eyn, eys, eyn3, eyn4, eO] at h
    exact h)
  have cY : Hid (∀ w' T3 t3 T4 t4 U3 u3 U4 u4, Va (itP r key) T3 t3 T4 t4 w' → Va (itP r key) U3 u3 U4 u4 w' → Calls Tryz.prog 15 #[.agg #[.int .i64 yk, .int .i64 yn, .string ys, .slice T3 yn3 t3, .slice T4 yn4 t4], .agg #[.int .i64 yk, .int .i64 yn, .string ys, .slice U3 yn3 u3, .slice U4 yn4 u4]] w' fun e w'' => e = .returned (.bool true) ∧ Q w' w'') := Lib.hid (fun w' T3 t3 T4 t4 U3 u3 U4 u4 h1 h2 => by
    have h := req_self (itP r key) h1 h2
    rw [eyk, eyn, eys, eyn3, eyn4] at h
    exact h)
  have cU : Hid (∀ w', Q w w' → Calls Tryz.prog 13 #[.agg #[.int .i64 bk, .int .i64 bn, .string bs, .slice B3 bn3 l3, .slice B4 bn4 l4]] w' fun e w'' => e = .returned (.int .i64 (chkE b)) ∧ Q w' w'') := Lib.hid (fun w' q => by
    have h := refCheck_any b B3 l3 B4 l4 w' (hb.stays q)
    unfold vv at h
    rw [eb.1, eb.2.1, eb.2.2.1, eb.2.2.2.1, eb.2.2.2.2] at h
    exact h)
  obtain ⟨p, hp⟩ : ∃ x, putP r key b = x := ⟨_, rfl⟩
  have hpl : p.length ≤ 41 := by
    have h := put_len key b r asr
    rw [hp] at h
    have : (if (getP r key).isSome then 0 else 1) ≤ 1 := by split <;> omega
    omega
  have hpk : okR p := by rw [← hp]; exact okR_put hk hkm hb.2.2
  obtain ⟨N, hN⟩ : ∃ x, p.length = x := ⟨_, rfl⟩
  obtain ⟨cu, hcu⟩ : ∃ x, chkE b = x := ⟨_, rfl⟩
  rw [hcu] at cU
  have hcu' : (cu != 0) = true := by rw [hcu] at hu0; simpa using hu0
  have cC : Hid (∀ w' M3 m3 M4 m4, Is (.slice M3 n m3) (r.map (fun b => b.2)) w' → Ks (.slice M4 n m4) (r.map (fun b => b.1)) w' → Calls Tryz.prog 13 #[.agg #[.int .i64 5, .int .i64 0, .string ⟨#[]⟩, .slice M3 n m3, .slice M4 n m4]] w' fun e w'' => e = .returned (.int .i64 0) ∧ Q w' w'') := Lib.hid (fun w' M3 m3 M4 m4 h3 h4 => by
    have h := rchk5_any hn hk (by omega) h3 h4
    rw [hc0] at h
    exact h)
  have cD := Lib.hid (fun (w' : World) T3 t3 T4 t4 U3 u3 U4 u4 h1 h2 h3 h4 => req5_self (w := w') (T3 := T3) (t3 := t3) (T4 := T4) (t4 := t4) (U3 := U3) (u3 := u3) (U4 := U4) (u4 := u4) hn hk (by omega) h1 h2 h3 h4)
  clear hb eb hkm hc0 hs asr hk hn hp hpl hpk hN eyk eyn eys eyn3 eyn4 eO hn4 hu0 hcu
  obtain ⟨P2, hP2⟩ : ∃ x, w.heap.size = x := ⟨_, rfl⟩
  obtain ⟨wb2, hwb2⟩ : ∃ x, w.alloc (.cells #[.string key, .int .i64 bk, .int .i64 bn, .string bs, .slice B3 bn3 l3, .slice B4 bn4 l4] 41) = x := ⟨_, rfl⟩
  have qb2 : Q w wb2 := by rw [← hwb2]; exact Q.box _ _
  have bE : Bk P2 #[.string key, .int .i64 bk, .int .i64 bn, .string bs, .slice B3 bn3 l3, .slice B4 bn4 l4] 41 wb2 := by rw [← hwb2, ← hP2]; exact Bk.new _ _ _
  obtain ⟨P3, hP3⟩ : ∃ x, wb2.heap.size = x := ⟨_, rfl⟩
  obtain ⟨wb3, hwb3⟩ : ∃ x, (wb2.alloc (.cells #[.int .i64 0, .int .i64 0, .string ⟨#[]⟩, .slice none 0 0, .slice none 0 0] 26)).drew = x := ⟨_, rfl⟩
  have qE : Q wb2 wb3 := by rw [← hwb3]; exact Q.boxed wb2 _ 1
  have bZ : Bk P3 #[.int .i64 0, .int .i64 0, .string ⟨#[]⟩, .slice none 0 0, .slice none 0 0] 26 wb3 := by
    rw [← hwb3, ← hP3]
    exact (Bk.new _ _ _).stays (Q.drewN _ 1)
  have bE3 := bE.stays qE
  have v0 : wb2.drew.cell? ⟨P2, 0, none⟩ = _ := bE.at 0 _ rfl
  have v1 : wb2.drew.cell? ⟨P2, 1, none⟩ = _ := bE.at 1 _ rfl
  have v2 : wb2.drew.cell? ⟨P2, 2, none⟩ = _ := bE.at 2 _ rfl
  have v3 : wb2.drew.cell? ⟨P2, 3, none⟩ = _ := bE.at 3 _ rfl
  have v4 : wb2.drew.cell? ⟨P2, 4, none⟩ = _ := bE.at 4 _ rfl
  have v5 : wb2.drew.cell? ⟨P2, 5, none⟩ = _ := bE.at 5 _ rfl
  have u0 := bE3.at 0 _ rfl
  have u1 := bE3.at 1 _ rfl
  have u2 := bE3.at 2 _ rfl
  have u3 := bE3.at 3 _ rfl
  have u4 := bE3.at 4 _ rfl
  have u5 := bE3.at 5 _ rfl
  have z0 := bZ.at 0 _ rfl
  have z1 := bZ.at 1 _ rfl
  have z2 := bZ.at 2 _ rfl
  have z3 := bZ.at 3 _ rfl
  have z4 := bZ.at 4 _ rfl
  have f0 := bZ.frozen 0
  have f1 := bZ.frozen 1
  have f2 := bZ.frozen 2
  have f3 := bZ.frozen 3
  have f4 := bZ.frozen 4
  obtain ⟨bf, qf⟩ := store5 (k := bk) (n := bn) (s := bs) (s3 := .slice B3 bn3 l3) (s4 := .slice B4 bn4 l4) hP3.symm bZ qE
  obtain ⟨w4, hw4⟩ : ∃ x, set5 wb3 P3 0 (.int .i64 bk) (.int .i64 bn) (.string bs) (.slice B3 bn3 l3) (.slice B4 bn4 l4) = x := ⟨_, rfl⟩
  rw [hw4] at bf qf
  obtain ⟨L, hL⟩ : ∃ L : World → Prop, L = fun w' => Q w w' ∧ Bk P3 #[.int .i64 bk, .int .i64 bn, .string bs, .slice B3 bn3 l3, .slice B4 bn4 l4] 26 w' := ⟨_, rfl⟩
  have L4 : Hid (L w4) := Lib.hid (by rw [hL]; exact ⟨qb2.trans qf, bf⟩)
  have Lst : Hid (∀ w' w'', L w' → Q w' w'' → L w'') := Lib.hid (fun w' w'' h q => by rw [hL] at h ⊢; exact ⟨h.1.trans q, h.2.stays q⟩)
  have LQ : Hid (∀ w', L w' → Q w w') := Lib.hid (fun w' h => by rw [hL] at h; exact h.1)
  have Lsee : Hid (∀ w', L w' → w'.cell? ⟨P3, 0, none⟩ = some (.int .i64 bk) ∧ w'.cell? ⟨P3, 1, none⟩ = some (.int .i64 bn) ∧ w'.cell? ⟨P3, 2, none⟩ = some (.string bs) ∧ w'.cell? ⟨P3, 3, none⟩ = some (.slice B3 bn3 l3) ∧ w'.cell? ⟨P3, 4, none⟩ = some (.slice B4 bn4 l4)) := Lib.hid (fun w' h => by rw [hL] at h; exact ⟨h.2.at 0 _ rfl, h.2.at 1 _ rfl, h.2.at 2 _ rfl, h.2.at 3 _ rfl, h.2.at 4 _ rfl⟩)
  clear hL qb2 bf qf qE bZ bE bE3
  unfold set5 at hw4
  simp only [Nat.zero_add] at hw4
  go_enter Tryz.func5, Tryz.ntmps5
  go_wp2_with fail
  go_region
  try rw [hw4]
  clear hw4 v0 v1 v2 v3 v4 v5 u0 u1 u2 u3 u4 u5 z0 z1 z2 z3 z4 f0 f1 f2 f3 f4 hwb2 hwb3 hP2 hP3
  obtain ⟨x0, x1, x2, x3, x4⟩ := Lsee.out _ L4.out
  go_wp2_with fail
  refine (cL.out _).mono ?_
  rintro e wc1 ⟨rfl, qc1⟩
  have H1 := Lib.hid (Lst.out _ _ L4.out qc1)
  clear qc1 x0 x1 x2 x3 x4
  obtain ⟨x0, x1, x2, x3, x4⟩ := Lsee.out _ H1.out
  go_wp2_with fail
  refine (cS.out _ (LQ.out _ H1.out)).mono ?_
  rintro e wc2 ⟨rfl, qc2⟩
  have H2 := Lib.hid (Lst.out _ _ H1.out qc2)
  clear qc2 x0 x1 x2 x3 x4
  obtain ⟨x0, x1, x2, x3, x4⟩ := Lsee.out _ H2.out
  go_wp2_with fail
  refine (cT.out _ (LQ.out _ H2.out)).mono ?_
  rintro e wc3 ⟨rfl, qc3⟩
  have H3 := Lib.hid (Lst.out _ _ H2.out qc3)
  clear qc3 x0 x1 x2 x3 x4
  obtain ⟨x0, x1, x2, x3, x4⟩ := Lsee.out _ H3.out
  go_wp2_with fail
  refine (cM.out _ (LQ.out _ H3.out)).mono ?_
  rintro e wc4 ⟨M3, m3, M4, m4, rfl, hI, hK, qc4⟩
  obtain ⟨R4, hR4⟩ : ∃ x, wc4.heap.size = x := ⟨_, rfl⟩
  obtain ⟨wd4, hwd4⟩ : ∃ x, wc4.alloc (.cells #[.int .i64 5, .int .i64 0, .string ⟨#[]⟩, .slice M3 n m3, .slice M4 n m4] 26) = x := ⟨_, rfl⟩
  have qd4 : Q wc4 wd4 := by rw [← hwd4]; exact Q.box _ _
  have bd4 : Bk R4 #[.int .i64 5, .int .i64 0, .string ⟨#[]⟩, .slice M3 n m3, .slice M4 n m4] 26 wd4 := by rw [← hwd4, ← hR4]; exact Bk.new _ _ _
  obtain ⟨PM4, hPM4⟩ : ∃ M : World → Prop, M = fun w' => L w' ∧ Bk R4 #[.int .i64 5, .int .i64 0, .string ⟨#[]⟩, .slice M3 n m3, .slice M4 n m4] 26 w' ∧ Is (.slice M3 n m3) (r.map (fun b => b.2)) w' ∧ Ks (.slice M4 n m4) (r.map (fun b => b.1)) w' := ⟨_, rfl⟩
  have H4 : Hid (PM4 wd4) := Lib.hid (by rw [hPM4]; exact ⟨Lst.out _ _ H3.out (qc4.trans qd4), bd4, hI.stays qd4, hK.stays qd4⟩)
  have PM4st : Hid (∀ w' w'', PM4 w' → Q w' w'' → PM4 w'') := Lib.hid (fun w' w'' h q => by rw [hPM4] at h ⊢; exact ⟨Lst.out _ _ h.1 q, (h.2.1).stays q, (h.2.2.1).stays q, (h.2.2.2).stays q⟩)
  have PM4Q : Hid (∀ w', PM4 w' → Q w w') := Lib.hid (fun w' h => by rw [hPM4] at h; exact LQ.out _ h.1)
  have PM4x : Hid (∀ w', PM4 w' → L w' ∧ Bk R4 #[.int .i64 5, .int .i64 0, .string ⟨#[]⟩, .slice M3 n m3, .slice M4 n m4] 26 w' ∧ Is (.slice M3 n m3) (r.map (fun b => b.2)) w' ∧ Ks (.slice M4 n m4) (r.map (fun b => b.1)) w') := Lib.hid (fun w' h => by rw [hPM4] at h; exact h)
  have PM4see : Hid (∀ w', PM4 w' → w'.cell? ⟨P3, 0, none⟩ = some (.int .i64 bk) ∧ w'.cell? ⟨P3, 1, none⟩ = some (.int .i64 bn) ∧ w'.cell? ⟨P3, 2, none⟩ = some (.string bs) ∧ w'.cell? ⟨P3, 3, none⟩ = some (.slice B3 bn3 l3) ∧ w'.cell? ⟨P3, 4, none⟩ = some (.slice B4 bn4 l4) ∧ w'.cell? ⟨R4, 0, none⟩ = some (.int .i64 5) ∧ w'.cell? ⟨R4, 1, none⟩ = some (.int .i64 0) ∧ w'.cell? ⟨R4, 2, none⟩ = some (.string ⟨#[]⟩) ∧ w'.cell? ⟨R4, 3, none⟩ = some (.slice M3 n m3) ∧ w'.cell? ⟨R4, 4, none⟩ = some (.slice M4 n m4)) := Lib.hid (fun w' h => by
    rw [hPM4] at h
    have g := Lsee.out _ h.1
    exact ⟨g.1, g.2.1, g.2.2.1, g.2.2.2.1, g.2.2.2.2, (h.2.1).at 0 _ rfl, (h.2.1).at 1 _ rfl, (h.2.1).at 2 _ rfl, (h.2.1).at 3 _ rfl, (h.2.1).at 4 _ rfl⟩)
  clear hPM4 qc4 qd4 bd4 hI hK x0 x1 x2 x3 x4
  obtain ⟨x0, x1, x2, x3, x4, x5, x6, x7, x8, x9⟩ := PM4see.out _ H4.out
  go_wp2_with fail
  refine (cR.out _ (PM4Q.out _ H4.out)).mono ?_
  rintro e wc5 ⟨W3, w3', W4, w4', rfl, hI, hK, qc5⟩
  obtain ⟨R5, hR5⟩ : ∃ x, wc5.heap.size = x := ⟨_, rfl⟩
  obtain ⟨wd5, hwd5⟩ : ∃ x, wc5.alloc (.cells #[.int .i64 5, .int .i64 0, .string ⟨#[]⟩, .slice W3 n w3', .slice W4 n w4'] 26) = x := ⟨_, rfl⟩
  have qd5 : Q wc5 wd5 := by rw [← hwd5]; exact Q.box _ _
  have bd5 : Bk R5 #[.int .i64 5, .int .i64 0, .string ⟨#[]⟩, .slice W3 n w3', .slice W4 n w4'] 26 wd5 := by rw [← hwd5, ← hR5]; exact Bk.new _ _ _
  obtain ⟨PM5, hPM5⟩ : ∃ M : World → Prop, M = fun w' => PM4 w' ∧ Bk R5 #[.int .i64 5, .int .i64 0, .string ⟨#[]⟩, .slice W3 n w3', .slice W4 n w4'] 26 w' ∧ Is (.slice W3 n w3') (r.map (fun b => b.2)) w' ∧ Ks (.slice W4 n w4') (r.map (fun b => b.1)) w' := ⟨_, rfl⟩
  have H5 : Hid (PM5 wd5) := Lib.hid (by rw [hPM5]; exact ⟨PM4st.out _ _ H4.out (qc5.trans qd5), bd5, hI.stays qd5, hK.stays qd5⟩)
  have PM5st : Hid (∀ w' w'', PM5 w' → Q w' w'' → PM5 w'') := Lib.hid (fun w' w'' h q => by rw [hPM5] at h ⊢; exact ⟨PM4st.out _ _ h.1 q, (h.2.1).stays q, (h.2.2.1).stays q, (h.2.2.2).stays q⟩)
  have PM5Q : Hid (∀ w', PM5 w' → Q w w') := Lib.hid (fun w' h => by rw [hPM5] at h; exact PM4Q.out _ h.1)
  have PM5x : Hid (∀ w', PM5 w' → PM4 w' ∧ Bk R5 #[.int .i64 5, .int .i64 0, .string ⟨#[]⟩, .slice W3 n w3', .slice W4 n w4'] 26 w' ∧ Is (.slice W3 n w3') (r.map (fun b => b.2)) w' ∧ Ks (.slice W4 n w4') (r.map (fun b => b.1)) w') := Lib.hid (fun w' h => by rw [hPM5] at h; exact h)
  have PM5see : Hid (∀ w', PM5 w' → w'.cell? ⟨P3, 0, none⟩ = some (.int .i64 bk) ∧ w'.cell? ⟨P3, 1, none⟩ = some (.int .i64 bn) ∧ w'.cell? ⟨P3, 2, none⟩ = some (.string bs) ∧ w'.cell? ⟨P3, 3, none⟩ = some (.slice B3 bn3 l3) ∧ w'.cell? ⟨P3, 4, none⟩ = some (.slice B4 bn4 l4) ∧ w'.cell? ⟨R4, 0, none⟩ = some (.int .i64 5) ∧ w'.cell? ⟨R4, 1, none⟩ = some (.int .i64 0) ∧ w'.cell? ⟨R4, 2, none⟩ = some (.string ⟨#[]⟩) ∧ w'.cell? ⟨R4, 3, none⟩ = some (.slice M3 n m3) ∧ w'.cell? ⟨R4, 4, none⟩ = some (.slice M4 n m4) ∧ w'.cell? ⟨R5, 0, none⟩ = some (.int .i64 5) ∧ w'.cell? ⟨R5, 1, none⟩ = some (.int .i64 0) ∧ w'.cell? ⟨R5, 2, none⟩ = some (.string ⟨#[]⟩) ∧ w'.cell? ⟨R5, 3, none⟩ = some (.slice W3 n w3') ∧ w'.cell? ⟨R5, 4, none⟩ = some (.slice W4 n w4')) := Lib.hid (fun w' h => by
    rw [hPM5] at h
    have g := PM4see.out _ h.1
    exact ⟨g.1, g.2.1, g.2.2.1, g.2.2.2.1, g.2.2.2.2.1, g.2.2.2.2.2.1, g.2.2.2.2.2.2.1, g.2.2.2.2.2.2.2.1, g.2.2.2.2.2.2.2.2.1, g.2.2.2.2.2.2.2.2.2, (h.2.1).at 0 _ rfl, (h.2.1).at 1 _ rfl, (h.2.1).at 2 _ rfl, (h.2.1).at 3 _ rfl, (h.2.1).at 4 _ rfl⟩)
  clear hPM5 qc5 qd5 bd5 hI hK x0 x1 x2 x3 x4 x5 x6 x7 x8 x9
  obtain ⟨x0, x1, x2, x3, x4, x5, x6, x7, x8, x9, x10, x11, x12, x13, x14⟩ := PM5see.out _ H5.out
  go_wp2_with fail
  refine (cD.out _ _ _ _ _ _ _ _ _ (PM4x.out _ (PM5x.out _ H5.out).1).2.2.1 (PM4x.out _ (PM5x.out _ H5.out).1).2.2.2 (PM5x.out _ H5.out).2.2.1 (PM5x.out _ H5.out).2.2.2).mono ?_
  rintro e wc6 ⟨rfl, qc6⟩
  have H6 := Lib.hid (PM5st.out _ _ H5.out qc6)
  clear qc6 x0 x1 x2 x3 x4 x5 x6 x7 x8 x9 x10 x11 x12 x13 x14
  obtain ⟨x0, x1, x2, x3, x4, x5, x6, x7, x8, x9, x10, x11, x12, x13, x14⟩ := PM5see.out _ H6.out
  go_wp2_with fail
  refine (cC.out _ _ _ _ _ (PM4x.out _ (PM5x.out _ H6.out).1).2.2.1 (PM4x.out _ (PM5x.out _ H6.out).1).2.2.2).mono ?_
  rintro e wc7 ⟨rfl, qc7⟩
  have H7 := Lib.hid (PM5st.out _ _ H6.out qc7)
  clear qc7 x0 x1 x2 x3 x4 x5 x6 x7 x8 x9 x10 x11 x12 x13 x14
  obtain ⟨x0, x1, x2, x3, x4, x5, x6, x7, x8, x9, x10, x11, x12, x13, x14⟩ := PM5see.out _ H7.out
  go_wp2_with fail
  refine (cG.out _ _ _ _ _ (PM4x.out _ (PM5x.out _ H7.out).1).2.2.1 (PM4x.out _ (PM5x.out _ H7.out).1).2.2.2).mono ?_
  rintro e wc8 ⟨T3, t3, T4, t4, rfl, hV, qc8⟩
  obtain ⟨R8, hR8⟩ : ∃ x, wc8.heap.size = x := ⟨_, rfl⟩
  obtain ⟨wd8, hwd8⟩ : ∃ x, wc8.alloc (.cells #[.int .i64 yk, .int .i64 yn, .string ys, .slice T3 yn3 t3, .slice T4 yn4 t4] 26) = x := ⟨_, rfl⟩
  have qd8 : Q wc8 wd8 := by rw [← hwd8]; exact Q.box _ _
  have bd8 : Bk R8 #[.int .i64 yk, .int .i64 yn, .string ys, .slice T3 yn3 t3, .slice T4 yn4 t4] 26 wd8 := by rw [← hwd8, ← hR8]; exact Bk.new _ _ _
  obtain ⟨PM8, hPM8⟩ : ∃ M : World → Prop, M = fun w' => PM5 w' ∧ Bk R8 #[.int .i64 yk, .int .i64 yn, .string ys, .slice T3 yn3 t3, .slice T4 yn4 t4] 26 w' ∧ Va (itP r key) T3 t3 T4 t4 w' := ⟨_, rfl⟩
  have H8 : Hid (PM8 wd8) := Lib.hid (by rw [hPM8]; exact ⟨PM5st.out _ _ H7.out (qc8.trans qd8), bd8, hV.stays qd8⟩)
  have PM8st : Hid (∀ w' w'', PM8 w' → Q w' w'' → PM8 w'') := Lib.hid (fun w' w'' h q => by rw [hPM8] at h ⊢; exact ⟨PM5st.out _ _ h.1 q, (h.2.1).stays q, (h.2.2).stays q⟩)
  have PM8Q : Hid (∀ w', PM8 w' → Q w w') := Lib.hid (fun w' h => by rw [hPM8] at h; exact PM5Q.out _ h.1)
  have PM8x : Hid (∀ w', PM8 w' → PM5 w' ∧ Bk R8 #[.int .i64 yk, .int .i64 yn, .string ys, .slice T3 yn3 t3, .slice T4 yn4 t4] 26 w' ∧ Va (itP r key) T3 t3 T4 t4 w') := Lib.hid (fun w' h => by rw [hPM8] at h; exact h)
  have PM8see : Hid (∀ w', PM8 w' → w'.cell? ⟨P3, 0, none⟩ = some (.int .i64 bk) ∧ w'.cell? ⟨P3, 1, none⟩ = some (.int .i64 bn) ∧ w'.cell? ⟨P3, 2, none⟩ = some (.string bs) ∧ w'.cell? ⟨P3, 3, none⟩ = some (.slice B3 bn3 l3) ∧ w'.cell? ⟨P3, 4, none⟩ = some (.slice B4 bn4 l4) ∧ w'.cell? ⟨R4, 0, none⟩ = some (.int .i64 5) ∧ w'.cell? ⟨R4, 1, none⟩ = some (.int .i64 0) ∧ w'.cell? ⟨R4, 2, none⟩ = some (.string ⟨#[]⟩) ∧ w'.cell? ⟨R4, 3, none⟩ = some (.slice M3 n m3) ∧ w'.cell? ⟨R4, 4, none⟩ = some (.slice M4 n m4) ∧ w'.cell? ⟨R5, 0, none⟩ = some (.int .i64 5) ∧ w'.cell? ⟨R5, 1, none⟩ = some (.int .i64 0) ∧ w'.cell? ⟨R5, 2, none⟩ = some (.string ⟨#[]⟩) ∧ w'.cell? ⟨R5, 3, none⟩ = some (.slice W3 n w3') ∧ w'.cell? ⟨R5, 4, none⟩ = some (.slice W4 n w4') ∧ w'.cell? ⟨R8, 0, none⟩ = some (.int .i64 yk) ∧ w'.cell? ⟨R8, 1, none⟩ = some (.int .i64 yn) ∧ w'.cell? ⟨R8, 2, none⟩ = some (.string ys) ∧ w'.cell? ⟨R8, 3, none⟩ = some (.slice T3 yn3 t3) ∧ w'.cell? ⟨R8, 4, none⟩ = some (.slice T4 yn4 t4)) := Lib.hid (fun w' h => by
    rw [hPM8] at h
    have g := PM5see.out _ h.1
    exact ⟨g.1, g.2.1, g.2.2.1, g.2.2.2.1, g.2.2.2.2.1, g.2.2.2.2.2.1, g.2.2.2.2.2.2.1, g.2.2.2.2.2.2.2.1, g.2.2.2.2.2.2.2.2.1, g.2.2.2.2.2.2.2.2.2.1, g.2.2.2.2.2.2.2.2.2.2.1, g.2.2.2.2.2.2.2.2.2.2.2.1, g.2.2.2.2.2.2.2.2.2.2.2.2.1, g.2.2.2.2.2.2.2.2.2.2.2.2.2.1, g.2.2.2.2.2.2.2.2.2.2.2.2.2.2, (h.2.1).at 0 _ rfl, (h.2.1).at 1 _ rfl, (h.2.1).at 2 _ rfl, (h.2.1).at 3 _ rfl, (h.2.1).at 4 _ rfl⟩)
  clear hPM8 qc8 qd8 bd8 hV x0 x1 x2 x3 x4 x5 x6 x7 x8 x9 x10 x11 x12 x13 x14
  obtain ⟨x0, x1, x2, x3, x4, x5, x6, x7, x8, x9, x10, x11, x12, x13, x14, x15, x16, x17, x18, x19⟩ := PM8see.out _ H8.out
  go_wp2_with fail
  refine (cH.out _ _ _ _ _ (PM4x.out _ (PM5x.out _ (PM8x.out _ H8.out).1).1).2.2.1 (PM4x.out _ (PM5x.out _ (PM8x.out _ H8.out).1).1).2.2.2).mono ?_
  rintro e wc9 ⟨U3, u3, U4, u4, rfl, hV, qc9⟩
  obtain ⟨R9, hR9⟩ : ∃ x, wc9.heap.size = x := ⟨_, rfl⟩
  obtain ⟨wd9, hwd9⟩ : ∃ x, wc9.alloc (.cells #[.int .i64 yk, .int .i64 yn, .string ys, .slice U3 yn3 u3, .slice U4 yn4 u4] 26) = x := ⟨_, rfl⟩
  have qd9 : Q wc9 wd9 := by rw [← hwd9]; exact Q.box _ _
  have bd9 : Bk R9 #[.int .i64 yk, .int .i64 yn, .string ys, .slice U3 yn3 u3, .slice U4 yn4 u4] 26 wd9 := by rw [← hwd9, ← hR9]; exact Bk.new _ _ _
  obtain ⟨PM9, hPM9⟩ : ∃ M : World → Prop, M = fun w' => PM8 w' ∧ Bk R9 #[.int .i64 yk, .int .i64 yn, .string ys, .slice U3 yn3 u3, .slice U4 yn4 u4] 26 w' ∧ Va (itP r key) U3 u3 U4 u4 w' := ⟨_, rfl⟩
  have H9 : Hid (PM9 wd9) := Lib.hid (by rw [hPM9]; exact ⟨PM8st.out _ _ H8.out (qc9.trans qd9), bd9, hV.stays qd9⟩)
  have PM9st : Hid (∀ w' w'', PM9 w' → Q w' w'' → PM9 w'') := Lib.hid (fun w' w'' h q => by rw [hPM9] at h ⊢; exact ⟨PM8st.out _ _ h.1 q, (h.2.1).stays q, (h.2.2).stays q⟩)
  have PM9Q : Hid (∀ w', PM9 w' → Q w w') := Lib.hid (fun w' h => by rw [hPM9] at h; exact PM8Q.out _ h.1)
  have PM9x : Hid (∀ w', PM9 w' → PM8 w' ∧ Bk R9 #[.int .i64 yk, .int .i64 yn, .string ys, .slice U3 yn3 u3, .slice U4 yn4 u4] 26 w' ∧ Va (itP r key) U3 u3 U4 u4 w') := Lib.hid (fun w' h => by rw [hPM9] at h; exact h)
  have PM9see : Hid (∀ w', PM9 w' → w'.cell? ⟨P3, 0, none⟩ = some (.int .i64 bk) ∧ w'.cell? ⟨P3, 1, none⟩ = some (.int .i64 bn) ∧ w'.cell? ⟨P3, 2, none⟩ = some (.string bs) ∧ w'.cell? ⟨P3, 3, none⟩ = some (.slice B3 bn3 l3) ∧ w'.cell? ⟨P3, 4, none⟩ = some (.slice B4 bn4 l4) ∧ w'.cell? ⟨R4, 0, none⟩ = some (.int .i64 5) ∧ w'.cell? ⟨R4, 1, none⟩ = some (.int .i64 0) ∧ w'.cell? ⟨R4, 2, none⟩ = some (.string ⟨#[]⟩) ∧ w'.cell? ⟨R4, 3, none⟩ = some (.slice M3 n m3) ∧ w'.cell? ⟨R4, 4, none⟩ = some (.slice M4 n m4) ∧ w'.cell? ⟨R5, 0, none⟩ = some (.int .i64 5) ∧ w'.cell? ⟨R5, 1, none⟩ = some (.int .i64 0) ∧ w'.cell? ⟨R5, 2, none⟩ = some (.string ⟨#[]⟩) ∧ w'.cell? ⟨R5, 3, none⟩ = some (.slice W3 n w3') ∧ w'.cell? ⟨R5, 4, none⟩ = some (.slice W4 n w4') ∧ w'.cell? ⟨R8, 0, none⟩ = some (.int .i64 yk) ∧ w'.cell? ⟨R8, 1, none⟩ = some (.int .i64 yn) ∧ w'.cell? ⟨R8, 2, none⟩ = some (.string ys) ∧ w'.cell? ⟨R8, 3, none⟩ = some (.slice T3 yn3 t3) ∧ w'.cell? ⟨R8, 4, none⟩ = some (.slice T4 yn4 t4) ∧ w'.cell? ⟨R9, 0, none⟩ = some (.int .i64 yk) ∧ w'.cell? ⟨R9, 1, none⟩ = some (.int .i64 yn) ∧ w'.cell? ⟨R9, 2, none⟩ = some (.string ys) ∧ w'.cell? ⟨R9, 3, none⟩ = some (.slice U3 yn3 u3) ∧ w'.cell? ⟨R9, 4, none⟩ = some (.slice U4 yn4 u4)) := Lib.hid (fun w' h => by
    rw [hPM9] at h
    have g := PM8see.out _ h.1
    exact ⟨g.1, g.2.1, g.2.2.1, g.2.2.2.1, g.2.2.2.2.1, g.2.2.2.2.2.1, g.2.2.2.2.2.2.1, g.2.2.2.2.2.2.2.1, g.2.2.2.2.2.2.2.2.1, g.2.2.2.2.2.2.2.2.2.1, g.2.2.2.2.2.2.2.2.2.2.1, g.2.2.2.2.2.2.2.2.2.2.2.1, g.2.2.2.2.2.2.2.2.2.2.2.2.1, g.2.2.2.2.2.2.2.2.2.2.2.2.2.1, g.2.2.2.2.2.2.2.2.2.2.2.2.2.2.1, g.2.2.2.2.2.2.2.2.2.2.2.2.2.2.2.1, g.2.2.2.2.2.2.2.2.2.2.2.2.2.2.2.2.1, g.2.2.2.2.2.2.2.2.2.2.2.2.2.2.2.2.2.1, g.2.2.2.2.2.2.2.2.2.2.2.2.2.2.2.2.2.2.1, g.2.2.2.2.2.2.2.2.2.2.2.2.2.2.2.2.2.2.2, (h.2.1).at 0 _ rfl, (h.2.1).at 1 _ rfl, (h.2.1).at 2 _ rfl, (h.2.1).at 3 _ rfl, (h.2.1).at 4 _ rfl⟩)
  clear hPM9 qc9 qd9 bd9 hV x0 x1 x2 x3 x4 x5 x6 x7 x8 x9 x10 x11 x12 x13 x14 x15 x16 x17 x18 x19
  obtain ⟨x0, x1, x2, x3, x4, x5, x6, x7, x8, x9, x10, x11, x12, x13, x14, x15, x16, x17, x18, x19, x20, x21, x22, x23, x24⟩ := PM9see.out _ H9.out
  go_wp2_with fail
  clear x0 x1 x2 x3 x4 x5 x6 x7 x8 x9 x10 x11 x12 x13 x14 x15 x16 x17 x18 x19 x20 x21 x22 x23 x24
  refine Go.wp_region_held_drew (S := (fun w' => Hid (PM9 w') ∧ w'.cell? ⟨P3, 0, none⟩ = some (.int .i64 bk) ∧ w'.cell? ⟨P3, 1, none⟩ = some (.int .i64 bn) ∧ w'.cell? ⟨P3, 2, none⟩ = some (.string bs) ∧ w'.cell? ⟨P3, 3, none⟩ = some (.slice B3 bn3 l3) ∧ w'.cell? ⟨P3, 4, none⟩ = some (.slice B4 bn4 l4) ∧ w'.cell? ⟨R4, 0, none⟩ = some (.int .i64 5) ∧ w'.cell? ⟨R4, 1, none⟩ = some (.int .i64 0) ∧ w'.cell? ⟨R4, 2, none⟩ = some (.string ⟨#[]⟩) ∧ w'.cell? ⟨R4, 3, none⟩ = some (.slice M3 n m3) ∧ w'.cell? ⟨R4, 4, none⟩ = some (.slice M4 n m4) ∧ w'.cell? ⟨R5, 0, none⟩ = some (.int .i64 5) ∧ w'.cell? ⟨R5, 1, none⟩ = some (.int .i64 0) ∧ w'.cell? ⟨R5, 2, none⟩ = some (.string ⟨#[]⟩) ∧ w'.cell? ⟨R5, 3, none⟩ = some (.slice W3 n w3') ∧ w'.cell? ⟨R5, 4, none⟩ = some (.slice W4 n w4') ∧ w'.cell? ⟨R8, 0, none⟩ = some (.int .i64 yk) ∧ w'.cell? ⟨R8, 1, none⟩ = some (.int .i64 yn) ∧ w'.cell? ⟨R8, 2, none⟩ = some (.string ys) ∧ w'.cell? ⟨R8, 3, none⟩ = some (.slice T3 yn3 t3) ∧ w'.cell? ⟨R8, 4, none⟩ = some (.slice T4 yn4 t4) ∧ w'.cell? ⟨R9, 0, none⟩ = some (.int .i64 yk) ∧ w'.cell? ⟨R9, 1, none⟩ = some (.int .i64 yn) ∧ w'.cell? ⟨R9, 2, none⟩ = some (.string ys) ∧ w'.cell? ⟨R9, 3, none⟩ = some (.slice U3 yn3 u3) ∧ w'.cell? ⟨R9, 4, none⟩ = some (.slice U4 yn4 u4))) (by kernel_rfl) (⟨Lib.hid (PM9st.out _ _ H9.out (Q.drewN _ 1)), PM9see.out _ (PM9st.out _ _ H9.out (Q.drewN _ 1))⟩) (fun hHeld => ?_)
  refine Go.wpAnyH_take (i := 0) (oi := _) (v := ?_) rfl (by kernel_rfl) (by kernel_rfl) (by kernel_rfl) (fun _ _ _ h => h) (Or.inl ⟨by rfl, ?_⟩) (by assumption) ?_
  rotate_left 1
  · intro wx hSw
    go_simp <;> with_reducible rfl
  simp only [Act.put, List.getElem_toArray, List.getElem_cons_zero, List.setIfInBounds_toArray, List.set_cons_zero, List.set_cons_succ]
  refine Go.wpAnyH_take (i := 1) (oi := _) (v := ?_) rfl (by kernel_rfl) (by kernel_rfl) (by kernel_rfl) (fun _ _ _ h => h) (Or.inl ⟨by rfl, ?_⟩) (by assumption) ?_
  rotate_left 1
  · intro wx hSw
    go_simp <;> with_reducible rfl
  simp only [Act.put, List.getElem_toArray, List.getElem_cons_zero, List.getElem_cons_succ, List.setIfInBounds_toArray, List.set_cons_zero, List.set_cons_succ]
  refine Go.wpAnyH_take (i := 2) (oi := _) (v := ?_) rfl (by kernel_rfl) (by kernel_rfl) (by kernel_rfl) (fun _ _ _ h => h) (Or.inl ⟨by rfl, ?_⟩) (by assumption) ?_
  rotate_left 1
  · intro wx hSw
    go_simp <;> with_reducible rfl
  simp only [Act.put, List.getElem_toArray, List.getElem_cons_zero, List.getElem_cons_succ, List.setIfInBounds_toArray, List.set_cons_zero, List.set_cons_succ]
  refine Go.wpAnyH_take (i := 3) (oi := _) (v := ?_) rfl (by kernel_rfl) (by kernel_rfl) (by kernel_rfl) (fun _ _ _ h => h) (Or.inl ⟨by rfl, ?_⟩) (by assumption) ?_
  rotate_left 1
  · intro wx hSw
    go_simp <;> with_reducible rfl
  simp only [Act.put, List.getElem_toArray, List.getElem_cons_zero, List.getElem_cons_succ, List.setIfInBounds_toArray, List.set_cons_zero, List.set_cons_succ]
  refine Go.wpAnyH_take (i := 4) (oi := _) (v := ?_) rfl (by kernel_rfl) (by kernel_rfl) (by kernel_rfl) (fun _ _ _ h => h) (Or.inl ⟨by rfl, ?_⟩) (by assumption) ?_
  rotate_left 1
  · intro wx hSw
    go_simp <;> with_reducible rfl
  simp only [Act.put, List.getElem_toArray, List.getElem_cons_zero, List.getElem_cons_succ, List.setIfInBounds_toArray, List.set_cons_zero, List.set_cons_succ]
  refine Go.wpAnyH_take (i := 5) (oi := _) (v := ?_) rfl (by kernel_rfl) (by kernel_rfl) (by kernel_rfl) (fun _ _ _ h => h) (Or.inl ⟨by rfl, ?_⟩) (by assumption) ?_
  rotate_left 1
  · intro wx hSw
    go_simp <;> with_reducible rfl
  simp only [Act.put, List.getElem_toArray, List.getElem_cons_zero, List.getElem_cons_succ, List.setIfInBounds_toArray, List.set_cons_zero, List.set_cons_succ]
  refine Go.wpAnyH_ready (rs := [6]) (by kernel_rfl) (by simp) ?_
  refine Go.AllReadyH.cons rfl (fun K hK => ?_) Go.AllReadyH.nil
  rw [if_pos (by rfl)]
  go_simp
  refine (cY.out _ _ _ _ _ _ _ _ _ (PM8x.out _ (PM9x.out _ hHeld.1.out).1).2.2 (PM9x.out _ hHeld.1.out).2.2).mono ?_
  rintro e v6 ⟨rfl, q6⟩
  have g6 := Lib.hid (PM9st.out _ _ hHeld.1.out q6)

  refine hK.out _ _ (⟨g6, PM9see.out _ g6.out⟩) (fun hHeld => ?_)
  clear hK K
  refine Go.wpAnyH_take (i := 7) (oi := _) (v := ?_) rfl (by kernel_rfl) (by kernel_rfl) (by kernel_rfl) (fun _ _ _ h => h) (Or.inl ⟨by rfl, ?_⟩) (by assumption) ?_
  rotate_left 1
  · intro wx hSw
    go_simp <;> with_reducible rfl
  simp only [Act.put, List.getElem_toArray, List.getElem_cons_zero, List.getElem_cons_succ, List.setIfInBounds_toArray, List.set_cons_zero, List.set_cons_succ]
  refine Go.wpAnyH_take (i := 8) (oi := _) (v := ?_) rfl (by kernel_rfl) (by kernel_rfl) (by kernel_rfl) (fun _ _ _ h => h) (Or.inl ⟨by rfl, ?_⟩) (by assumption) ?_
  rotate_left 1
  · intro wx hSw
    go_simp <;> with_reducible rfl
  simp only [Act.put, List.getElem_toArray, List.getElem_cons_zero, List.getElem_cons_succ, List.setIfInBounds_toArray, List.set_cons_zero, List.set_cons_succ]
  refine Go.wpAnyH_take (i := 9) (oi := _) (v := ?_) rfl (by kernel_rfl) (by kernel_rfl) (by kernel_rfl) (fun _ _ _ h => h) (Or.inl ⟨by rfl, ?_⟩) (by assumption) ?_
  rotate_left 1
  · intro wx hSw
    go_simp <;> with_reducible rfl
  simp only [Act.put, List.getElem_toArray, List.getElem_cons_zero, List.getElem_cons_succ, List.setIfInBounds_toArray, List.set_cons_zero, List.set_cons_succ]
  refine Go.wpAnyH_ready (rs := [10]) (by kernel_rfl) (by simp) ?_
  refine Go.AllReadyH.cons rfl (fun K hK => ?_) Go.AllReadyH.nil
  rw [if_pos (by rfl)]
  go_simp
  refine (cU.out _ (PM9Q.out _ hHeld.1.out)).mono ?_
  rintro e v10 ⟨rfl, q10⟩
  have g10 := Lib.hid (PM9st.out _ _ hHeld.1.out q10)

  refine hK.out _ _ (⟨g10, PM9see.out _ g10.out⟩) (fun hHeld => ?_)
  clear hK K
  refine Go.wpAnyH_take (i := 11) (oi := _) (v := ?_) rfl (by kernel_rfl) (by kernel_rfl) (by kernel_rfl) (fun _ _ _ h => h) (Or.inl ⟨by rfl, ?_⟩) (by assumption) ?_
  rotate_left 1
  · intro wx hSw
    go_simp <;> with_reducible rfl
  simp only [Act.put, List.getElem_toArray, List.getElem_cons_zero, List.getElem_cons_succ, List.setIfInBounds_toArray, List.set_cons_zero, List.set_cons_succ]
  refine Go.wpAnyH_take (i := 12) (oi := _) (v := ?_) rfl (by kernel_rfl) (by kernel_rfl) (by kernel_rfl) (fun _ _ _ h => h) (Or.inl ⟨by rfl, ?_⟩) (by assumption) ?_
  rotate_left 1
  · intro wx hSw
    go_simp <;> with_reducible rfl
  simp only [Act.put, List.getElem_toArray, List.getElem_cons_zero, List.getElem_cons_succ, List.setIfInBounds_toArray, List.set_cons_zero, List.set_cons_succ]
  refine Go.wpAnyH_take (i := 13) (oi := _) (v := undef) rfl (by kernel_rfl) (by kernel_rfl) (by kernel_rfl) (fun _ _ _ h => h) (Or.inr ⟨by rfl, rfl⟩) (by assumption) ?_
  simp only [Act.put, List.getElem_toArray, List.getElem_cons_zero, List.getElem_cons_succ, List.setIfInBounds_toArray, List.set_cons_zero, List.set_cons_succ]
  refine Go.wpAnyH_take (i := 14) (oi := _) (v := undef) rfl (by kernel_rfl) (by kernel_rfl) (by kernel_rfl) (fun _ _ _ h => h) (Or.inr ⟨by rfl, rfl⟩) (by assumption) ?_
  simp only [Act.put, List.getElem_toArray, List.getElem_cons_zero, List.getElem_cons_succ, List.setIfInBounds_toArray, List.set_cons_zero, List.set_cons_succ]
  refine Go.wpAnyH_take (i := 15) (oi := _) (v := undef) rfl (by kernel_rfl) (by kernel_rfl) (by kernel_rfl) (fun _ _ _ h => h) (Or.inr ⟨by rfl, rfl⟩) (by assumption) ?_
  simp only [Act.put, List.getElem_toArray, List.getElem_cons_zero, List.getElem_cons_succ, List.setIfInBounds_toArray, List.set_cons_zero, List.set_cons_succ]
  refine Go.wpAnyH_take (i := 16) (oi := _) (v := undef) rfl (by kernel_rfl) (by kernel_rfl) (by kernel_rfl) (fun _ _ _ h => h) (Or.inr ⟨by rfl, rfl⟩) (by assumption) ?_
  simp only [Act.put, List.getElem_toArray, List.getElem_cons_zero, List.getElem_cons_succ, List.setIfInBounds_toArray, List.set_cons_zero, List.set_cons_succ]
  refine Go.wpAnyH_take (i := 17) (oi := _) (v := undef) rfl (by kernel_rfl) (by kernel_rfl) (by kernel_rfl) (fun _ _ _ h => h) (Or.inr ⟨by rfl, rfl⟩) (by assumption) ?_
  simp only [Act.put, List.getElem_toArray, List.getElem_cons_zero, List.getElem_cons_succ, List.setIfInBounds_toArray, List.set_cons_zero, List.set_cons_succ]
  refine Go.wpAnyH_take (i := 18) (oi := _) (v := undef) rfl (by kernel_rfl) (by kernel_rfl) (by kernel_rfl) (fun _ _ _ h => h) (Or.inr ⟨by rfl, rfl⟩) (by assumption) ?_
  simp only [Act.put, List.getElem_toArray, List.getElem_cons_zero, List.getElem_cons_succ, List.setIfInBounds_toArray, List.set_cons_zero, List.set_cons_succ]
  refine Go.wpAnyH_take (i := 19) (oi := _) (v := undef) rfl (by kernel_rfl) (by kernel_rfl) (by kernel_rfl) (fun _ _ _ h => h) (Or.inr ⟨by rfl, rfl⟩) (by assumption) ?_
  simp only [Act.put, List.getElem_toArray, List.getElem_cons_zero, List.getElem_cons_succ, List.setIfInBounds_toArray, List.set_cons_zero, List.set_cons_succ]
  refine Go.wpAnyH_take (i := 20) (oi := _) (v := undef) rfl (by kernel_rfl) (by kernel_rfl) (by kernel_rfl) (fun _ _ _ h => h) (Or.inr ⟨by rfl, rfl⟩) (by assumption) ?_
  simp only [Act.put, List.getElem_toArray, List.getElem_cons_zero, List.getElem_cons_succ, List.setIfInBounds_toArray, List.set_cons_zero, List.set_cons_succ]
  refine Go.wpAnyH_take (i := 21) (oi := _) (v := undef) rfl (by kernel_rfl) (by kernel_rfl) (by kernel_rfl) (fun _ _ _ h => h) (Or.inr ⟨by rfl, rfl⟩) (by assumption) ?_
  simp only [Act.put, List.getElem_toArray, List.getElem_cons_zero, List.getElem_cons_succ, List.setIfInBounds_toArray, List.set_cons_zero, List.set_cons_succ]
  refine Go.wpAnyH_take (i := 22) (oi := _) (v := ?_) rfl (by kernel_rfl) (by kernel_rfl) (by kernel_rfl) (fun _ _ _ h => h) (Or.inl ⟨by rfl, ?_⟩) (by assumption) ?_
  rotate_left 1
  · intro wx hSw
    go_simp <;> with_reducible rfl
  simp only [Act.put, List.getElem_toArray, List.getElem_cons_zero, List.getElem_cons_succ, List.setIfInBounds_toArray, List.set_cons_zero, List.set_cons_succ]
  refine Go.wpAnyH_take (i := 23) (oi := _) (v := ?_) rfl (by kernel_rfl) (by kernel_rfl) (by kernel_rfl) (fun _ _ _ h => h) (Or.inl ⟨by rfl, ?_⟩) (by assumption) ?_
  rotate_left 1
  · intro wx hSw
    go_simp <;> with_reducible rfl
  simp only [Act.put, List.getElem_toArray, List.getElem_cons_zero, List.getElem_cons_succ, List.setIfInBounds_toArray, List.set_cons_zero, List.set_cons_succ]
  refine Go.wpAnyH_take (i := 24) (oi := _) (v := ?_) rfl (by kernel_rfl) (by kernel_rfl) (by kernel_rfl) (fun _ _ _ h => h) (Or.inl ⟨by rfl, ?_⟩) (by assumption) ?_
  rotate_left 1
  · intro wx hSw
    go_simp <;> with_reducible rfl
  simp only [Act.put, List.getElem_toArray, List.getElem_cons_zero, List.getElem_cons_succ, List.setIfInBounds_toArray, List.set_cons_zero, List.set_cons_succ]
  refine Go.wpAnyH_ready (rs := [25]) (by kernel_rfl) (by simp) ?_
  refine Go.AllReadyH.cons rfl (fun K hK => ?_) Go.AllReadyH.nil
  rw [if_pos (by rfl)]
  go_simp
  refine (cA.out _ (PM9Q.out _ hHeld.1.out)).mono ?_
  rintro e v25 ⟨rfl, q25⟩
  have g25 := Lib.hid (PM9st.out _ _ hHeld.1.out q25)

  refine hK.out _ _ (⟨g25, PM9see.out _ g25.out⟩) (fun hHeld => ?_)
  clear hK K
  refine Go.wpAnyH_take (i := 26) (oi := _) (v := ?_) rfl (by kernel_rfl) (by kernel_rfl) (by kernel_rfl) (fun _ _ _ h => h) (Or.inl ⟨by rfl, ?_⟩) (by assumption) ?_
  rotate_left 1
  · intro wx hSw
    go_simp <;> with_reducible rfl
  simp only [Act.put, List.getElem_toArray, List.getElem_cons_zero, List.getElem_cons_succ, List.setIfInBounds_toArray, List.set_cons_zero, List.set_cons_succ]
  refine Go.wpAnyH_take (i := 27) (oi := _) (v := ?_) rfl (by kernel_rfl) (by kernel_rfl) (by kernel_rfl) (fun _ _ _ h => h) (Or.inl ⟨by rfl, ?_⟩) (by assumption) ?_
  rotate_left 1
  · intro wx hSw
    go_simp <;> with_reducible rfl
  simp only [Act.put, List.getElem_toArray, List.getElem_cons_zero, List.getElem_cons_succ, List.setIfInBounds_toArray, List.set_cons_zero, List.set_cons_succ]
  refine Go.wpAnyH_done (by kernel_rfl) ?_ _
  have HE := Lib.hid hHeld.1.out
  clear hHeld
  go_wp2_with fail
  go_ret
  exact ⟨rfl, PM9Q.out _ HE.out⟩
set_option maxRecDepth 100000 in
set_option maxHeartbeats 40000000 in
theorem maps_h (A4 : Option Addr) (n4 c4 : Nat) (A3 : Option Addr) (n3 c3 : Nat) (key : ByteArray) (bk bn : Int) (bs : ByteArray) (B3 : Option Addr) (bn3 l3 : Nat) (B4 : Option Addr) (bn4 l4 : Nat) (w : World) (cA : Hid (∀ w', Q w w' → Calls Tryz.prog 11 #[] w' fun e w'' => e = .returned (.bool true) ∧ Q w' w'')) (h40 : n4 ≤ 40) (h41 : n3 ≤ 40) (cL : Hid (∀ w', Calls Tryz.prog 14 #[.slice A3 n3 c3] w' fun e w'' => e = .returned (.agg #[.int .i64 4, .int .i64 0, .string ⟨#[]⟩, .slice A3 n3 c3, .slice none 0 0]) ∧ Q w' w'')) (cS : Hid (∀ w', Q w w' → Calls Tryz.prog 10 #[.agg #[.int .i64 4, .int .i64 0, .string ⟨#[]⟩, .slice A3 n3 c3, .slice none 0 0], .int .i64 400] w' fun e w'' => e = .returned (.bool true) ∧ Q w' w'')) (cT : Hid (∀ w', Q w w' → Calls Tryz.prog 10 #[.agg #[.int .i64 bk, .int .i64 bn, .string bs, .slice B3 bn3 l3, .slice B4 bn4 l4], .int .i64 400] w' fun e w'' => e = .returned (.bool true) ∧ Q w' w'')) (r : List (ByteArray × V)) (n : Nat) (hn : r.length = n) (hn4 : n ≤ 40) (hk : okR r) (cM : Hid (∀ w', Q w w' → Calls Tryz.prog 27 #[.slice A4 n4 c4, .slice A3 n3 c3] w' fun e w'' => ∃ M3 m3 M4 m4, e = .returned (.tuple #[.agg #[.int .i64 5, .int .i64 0, .string ⟨#[]⟩, .slice M3 n m3, .slice M4 n m4], .int .i64 0]) ∧ Is (.slice M3 n m3) (r.map (fun b => b.2)) w'' ∧ Ks (.slice M4 n m4) (r.map (fun b => b.1)) w'' ∧ Q w' w'')) (cR : Hid (∀ w', Q w w' → Calls Tryz.prog 28 #[.slice A4 n4 c4, .slice A3 n3 c3] w' fun e w'' => ∃ M3 m3 M4 m4, e = .returned (.tuple #[.agg #[.int .i64 5, .int .i64 0, .string ⟨#[]⟩, .slice M3 n m3, .slice M4 n m4], .int .i64 0]) ∧ Is (.slice M3 n m3) (r.map (fun b => b.2)) w'' ∧ Ks (.slice M4 n m4) (r.map (fun b => b.1)) w'' ∧ Q w' w'')) (asr : asc r) (hc0 : chkE (mk5 r) = 0) (hs : nodes (mk5 r) ≤ 400) (b : V) (hb : Va b B3 l3 B4 l4 w) (eb : b.kind = bk ∧ b.num = bn ∧ b.str = bs ∧ b.items.length = bn3 ∧ b.keys.length = bn4) (hkz : key.size ≤ 281474976710656) (hkm : key.size ≤ maxLen) (hu0 : chkE b = 0) (hus : nodes b ≤ 400) :
    Calls Tryz.prog 5 #[.slice A4 n4 c4, .slice A3 n3 c3, .agg #[.string key, .int .i64 bk, .int .i64 bn, .string bs, .slice B3 bn3 l3, .slice B4 bn4 l4]] w fun e w' => e = .returned (.bool true) ∧ Q w w' := by
  have f1 : decide (40 < n4) = false := decide_eq_false (by omega)
  have f2 : decide ((40 : Int) < (n4 : Int)) = false := decide_eq_false (by omega)
  have g1 : decide (40 < n3) = false := decide_eq_false (by omega)
  have g2 : decide ((40 : Int) < (n3 : Int)) = false := decide_eq_false (by omega)
  clear h40 h41
  obtain ⟨yk, eyk⟩ : ∃ x, (itP r key).kind = x := ⟨_, rfl⟩
  obtain ⟨yn, eyn⟩ : ∃ x, (itP r key).num = x := ⟨_, rfl⟩
  obtain ⟨ys, eys⟩ : ∃ x, (itP r key).str = x := ⟨_, rfl⟩
  obtain ⟨yn3, eyn3⟩ : ∃ x, (itP r key).items.length = x := ⟨_, rfl⟩
  obtain ⟨yn4, eyn4⟩ : ∃ x, (itP r key).keys.length = x := ⟨_, rfl⟩
  obtain ⟨O, eO⟩ : ∃ x, (getP r key).isSome = x := ⟨_, rfl⟩
  have hOO : (O == O) = true := by simp
  have cG : Hid (∀ w' M3 m3 M4 m4, Is (.slice M3 n m3) (r.map (fun b => b.2)) w' → Ks (.slice M4 n m4) (r.map (fun b => b.1)) w' → Calls Tryz.prog 29 #[.agg #[.int .i64 5, .int .i64 0, .string ⟨#[]⟩, .slice M3 n m3, .slice M4 n m4], .string key] w' fun e w'' => ∃ T3 t3 T4 t4, e = .returned (.tuple #[.agg #[.int .i64 yk, .int .i64 yn, .string ys, .slice T3 yn3 t3, .slice T4 yn4 t4], .bool O]) ∧ Va (itP r key) T3 t3 T4 t4 w'' ∧ Q w' w'') := Lib.hid (fun w' M3 m3 M4 m4 h3 h4 => by
    have h := get5_any hn hc0 hk hs key h3 h4
    unfold GivesG at h
    rw [eyk, eyn, eys, eyn3, eyn4, eO] at h
    exact h)
  have cH : Hid (∀ w' M3 m3 M4 m4, Is (.slice M3 n m3) (r.map (fun b => b.2)) w' → Ks (.slice M4 n m4) (r.map (fun b => b.1)) w' → Calls Tryz.prog 30 #[.agg #[.int .i64 5, .int .i64 0, .string ⟨#[]⟩, .slice M3 n m3, .slice M4 n m4], .string key] w' fun e w'' => ∃ T3 t3 T4 t4, e = .returned (.tuple #[.agg #[.int .i64 yk, .int .i64 yn, .string ys, .slice T3 yn3 t3, .slice T4 yn4 t4], .bool O]) ∧ Va (itP r key) T3 t3 T4 t4 w'' ∧ Q w' w'') := Lib.hid (fun w' M3 m3 M4 m4 h3 h4 => by
    have h := rget5_any hn hk (by omega) key h3 h4
    unfold GivesG at h
    rw [eyk, eyn, eys, eyn3, eyn4, eO] at h
    exact h)
  have cY : Hid (∀ w' T3 t3 T4 t4 U3 u3 U4 u4, Va (itP r key) T3 t3 T4 t4 w' → Va (itP r key) U3 u3 U4 u4 w' → Calls Tryz.prog 15 #[.agg #[.int .i64 yk, .int .i64 yn, .string ys, .slice T3 yn3 t3, .slice T4 yn4 t4], .agg #[.int .i64 yk, .int .i64 yn, .string ys, .slice U3 yn3 u3, .slice U4 yn4 u4]] w' fun e w'' => e = .returned (.bool true) ∧ Q w' w'') := Lib.hid (fun w' T3 t3 T4 t4 U3 u3 U4 u4 h1 h2 => by
    have h := req_self (itP r key) h1 h2
    rw [eyk, eyn, eys, eyn3, eyn4] at h
    exact h)
  have cU : Hid (∀ w', Q w w' → Calls Tryz.prog 13 #[.agg #[.int .i64 bk, .int .i64 bn, .string bs, .slice B3 bn3 l3, .slice B4 bn4 l4]] w' fun e w'' => e = .returned (.int .i64 (chkE b)) ∧ Q w' w'') := Lib.hid (fun w' q => by
    have h := refCheck_any b B3 l3 B4 l4 w' (hb.stays q)
    unfold vv at h
    rw [eb.1, eb.2.1, eb.2.2.1, eb.2.2.2.1, eb.2.2.2.2] at h
    exact h)
  obtain ⟨p, hp⟩ : ∃ x, putP r key b = x := ⟨_, rfl⟩
  have hpl : p.length ≤ 41 := by
    have h := put_len key b r asr
    rw [hp] at h
    have : (if (getP r key).isSome then 0 else 1) ≤ 1 := by split <;> omega
    omega
  have hpk : okR p := by rw [← hp]; exact okR_put hk hkm hb.2.2
  obtain ⟨N, hN⟩ : ∃ x, p.length = x := ⟨_, rfl⟩
  have hNN : (putP r key b).length = N := by rw [hp]; exact hN
  have cP : Hid (∀ w' M3 m3 M4 m4, Q w w' → Is (.slice M3 n m3) (r.map (fun b => b.2)) w' → Ks (.slice M4 n m4) (r.map (fun b => b.1)) w' → Calls Tryz.prog 31 #[.agg #[.int .i64 5, .int .i64 0, .string ⟨#[]⟩, .slice M3 n m3, .slice M4 n m4], .string key, .agg #[.int .i64 bk, .int .i64 bn, .string bs, .slice B3 bn3 l3, .slice B4 bn4 l4]] w' (GivesP p N w')) := Lib.hid (fun w' M3 m3 M4 m4 q h3 h4 => by
    have h := put5_any hn hc0 hs key hkz b hNN hu0 hus h3 h4 (hb.stays q)
    rw [eb.1, eb.2.1, eb.2.2.1, eb.2.2.2.1, eb.2.2.2.2, hp] at h
    exact h)
  have cV : Hid (∀ w' M3 m3 M4 m4, Q w w' → Is (.slice M3 n m3) (r.map (fun b => b.2)) w' → Ks (.slice M4 n m4) (r.map (fun b => b.1)) w' → Calls Tryz.prog 32 #[.agg #[.int .i64 5, .int .i64 0, .string ⟨#[]⟩, .slice M3 n m3, .slice M4 n m4], .string key, .agg #[.int .i64 bk, .int .i64 bn, .string bs, .slice B3 bn3 l3, .slice B4 bn4 l4]] w' (GivesP p N w')) := Lib.hid (fun w' M3 m3 M4 m4 q h3 h4 => by
    have h := rput5_any hn asr (by omega) key b hNN h3 h4 (hb.stays q)
    rw [eb.1, eb.2.1, eb.2.2.1, eb.2.2.2.1, eb.2.2.2.2, hp] at h
    exact h)
  have cW : Hid (∀ w' T3 t3 T4 t4 U3 u3 U4 u4, Is (.slice T3 N t3) (p.map (fun b => b.2)) w' → Ks (.slice T4 N t4) (p.map (fun b => b.1)) w' → Is (.slice U3 N u3) (p.map (fun b => b.2)) w' → Ks (.slice U4 N u4) (p.map (fun b => b.1)) w' → Calls Tryz.prog 15 #[.agg #[.int .i64 5, .int .i64 0, .string ⟨#[]⟩, .slice T3 N t3, .slice T4 N t4], .agg #[.int .i64 5, .int .i64 0, .string ⟨#[]⟩, .slice U3 N u3, .slice U4 N u4]] w' fun e w'' => e = .returned (.bool true) ∧ Q w' w'') := Lib.hid (fun w' T3 t3 T4 t4 U3 u3 U4 u4 h1 h2 h3 h4 => req5_self hN hpk (by omega) h1 h2 h3 h4)
  rw [hu0] at cU
  have cC : Hid (∀ w' M3 m3 M4 m4, Is (.slice M3 n m3) (r.map (fun b => b.2)) w' → Ks (.slice M4 n m4) (r.map (fun b => b.1)) w' → Calls Tryz.prog 13 #[.agg #[.int .i64 5, .int .i64 0, .string ⟨#[]⟩, .slice M3 n m3, .slice M4 n m4]] w' fun e w'' => e = .returned (.int .i64 0) ∧ Q w' w'') := Lib.hid (fun w' M3 m3 M4 m4 h3 h4 => by
    have h := rchk5_any hn hk (by omega) h3 h4
    rw [hc0] at h
    exact h)
  have cD := Lib.hid (fun (w' : World) T3 t3 T4 t4 U3 u3 U4 u4 h1 h2 h3 h4 => req5_self (w := w') (T3 := T3) (t3 := t3) (T4 := T4) (t4 := t4) (U3 := U3) (u3 := u3) (U4 := U4) (u4 := u4) hn hk (by omega) h1 h2 h3 h4)
  clear hb eb hkz hkm hc0 hs asr hk hn hp hpl hpk hN eyk eyn eys eyn3 eyn4 eO hn4 hu0 hus hNN
  obtain ⟨P2, hP2⟩ : ∃ x, w.heap.size = x := ⟨_, rfl⟩
  obtain ⟨wb2, hwb2⟩ : ∃ x, w.alloc (.cells #[.string key, .int .i64 bk, .int .i64 bn, .string bs, .slice B3 bn3 l3, .slice B4 bn4 l4] 41) = x := ⟨_, rfl⟩
  have qb2 : Q w wb2 := by rw [← hwb2]; exact Q.box _ _
  have bE : Bk P2 #[.string key, .int .i64 bk, .int .i64 bn, .string bs, .slice B3 bn3 l3, .slice B4 bn4 l4] 41 wb2 := by rw [← hwb2, ← hP2]; exact Bk.new _ _ _
  obtain ⟨P3, hP3⟩ : ∃ x, wb2.heap.size = x := ⟨_, rfl⟩
  obtain ⟨wb3, hwb3⟩ : ∃ x, (wb2.alloc (.cells #[.int .i64 0, .int .i64 0, .string ⟨#[]⟩, .slice none 0 0, .slice none 0 0] 26)).drew = x := ⟨_, rfl⟩
  have qE : Q wb2 wb3 := by rw [← hwb3]; exact Q.boxed wb2 _ 1
  have bZ : Bk P3 #[.int .i64 0, .int .i64 0, .string ⟨#[]⟩, .slice none 0 0, .slice none 0 0] 26 wb3 := by
    rw [← hwb3, ← hP3]
    exact (Bk.new _ _ _).stays (Q.drewN _ 1)
  have bE3 := bE.stays qE
  have v0 : wb2.drew.cell? ⟨P2, 0, none⟩ = _ := bE.at 0 _ rfl
  have v1 : wb2.drew.cell? ⟨P2, 1, none⟩ = _ := bE.at 1 _ rfl
  have v2 : wb2.drew.cell? ⟨P2, 2, none⟩ = _ := bE.at 2 _ rfl
  have v3 : wb2.drew.cell? ⟨P2, 3, none⟩ = _ := bE.at 3 _ rfl
  have v4 : wb2.drew.cell? ⟨P2, 4, none⟩ = _ := bE.at 4 _ rfl
  have v5 : wb2.drew.cell? ⟨P2, 5, none⟩ = _ := bE.at 5 _ rfl
  have u0 := bE3.at 0 _ rfl
  have u1 := bE3.at 1 _ rfl
  have u2 := bE3.at 2 _ rfl
  have u3 := bE3.at 3 _ rfl
  have u4 := bE3.at 4 _ rfl
  have u5 := bE3.at 5 _ rfl
  have z0 := bZ.at 0 _ rfl
  have z1 := bZ.at 1 _ rfl
  have z2 := bZ.at 2 _ rfl
  have z3 := bZ.at 3 _ rfl
  have z4 := bZ.at 4 _ rfl
  have f0 := bZ.frozen 0
  have f1 := bZ.frozen 1
  have f2 := bZ.frozen 2
  have f3 := bZ.frozen 3
  have f4 := bZ.frozen 4
  obtain ⟨bf, qf⟩ := store5 (k := bk) (n := bn) (s := bs) (s3 := .slice B3 bn3 l3) (s4 := .slice B4 bn4 l4) hP3.symm bZ qE
  obtain ⟨w4, hw4⟩ : ∃ x, set5 wb3 P3 0 (.int .i64 bk) (.int .i64 bn) (.string bs) (.slice B3 bn3 l3) (.slice B4 bn4 l4) = x := ⟨_, rfl⟩
  rw [hw4] at bf qf
  obtain ⟨L, hL⟩ : ∃ L : World → Prop, L = fun w' => Q w w' ∧ Bk P3 #[.int .i64 bk, .int .i64 bn, .string bs, .slice B3 bn3 l3, .slice B4 bn4 l4] 26 w' := ⟨_, rfl⟩
  have L4 : Hid (L w4) := Lib.hid (by rw [hL]; exact ⟨qb2.trans qf, bf⟩)
  have Lst : Hid (∀ w' w'', L w' → Q w' w'' → L w'') := Lib.hid (fun w' w'' h q => by rw [hL] at h ⊢; exact ⟨h.1.trans q, h.2.stays q⟩)
  have LQ : Hid (∀ w', L w' → Q w w') := Lib.hid (fun w' h => by rw [hL] at h; exact h.1)
  have Lsee : Hid (∀ w', L w' → w'.cell? ⟨P3, 0, none⟩ = some (.int .i64 bk) ∧ w'.cell? ⟨P3, 1, none⟩ = some (.int .i64 bn) ∧ w'.cell? ⟨P3, 2, none⟩ = some (.string bs) ∧ w'.cell? ⟨P3, 3, none⟩ = some (.slice B3 bn3 l3) ∧ w'.cell? ⟨P3, 4, none⟩ = some (.slice B4 bn4 l4)) := Lib.hid (fun w' h => by rw [hL] at h; exact ⟨h.2.at 0 _ rfl, h.2.at 1 _ rfl, h.2.at 2 _ rfl, h.2.at 3 _ rfl, h.2.at 4 _ rfl⟩)
  clear hL qb2 bf qf qE bZ bE bE3
  unfold set5 at hw4
  simp only [Nat.zero_add] at hw4
  go_enter Tryz.func5, Tryz.ntmps5
  go_wp2_with fail
  go_region
  try rw [hw4]
  clear hw4 v0 v1 v2 v3 v4 v5 u0 u1 u2 u3 u4 u5 z0 z1 z2 z3 z4 f0 f1 f2 f3 f4 hwb2 hwb3 hP2 hP3
  obtain ⟨x0, x1, x2, x3, x4⟩ := Lsee.out _ L4.out
  go_wp2_with fail
  refine (cL.out _).mono ?_
  rintro e wc1 ⟨rfl, qc1⟩
  have H1 := Lib.hid (Lst.out _ _ L4.out qc1)
  clear qc1 x0 x1 x2 x3 x4
  obtain ⟨x0, x1, x2, x3, x4⟩ := Lsee.out _ H1.out
  go_wp2_with fail
  refine (cS.out _ (LQ.out _ H1.out)).mono ?_
  rintro e wc2 ⟨rfl, qc2⟩
  have H2 := Lib.hid (Lst.out _ _ H1.out qc2)
  clear qc2 x0 x1 x2 x3 x4
  obtain ⟨x0, x1, x2, x3, x4⟩ := Lsee.out _ H2.out
  go_wp2_with fail
  refine (cT.out _ (LQ.out _ H2.out)).mono ?_
  rintro e wc3 ⟨rfl, qc3⟩
  have H3 := Lib.hid (Lst.out _ _ H2.out qc3)
  clear qc3 x0 x1 x2 x3 x4
  obtain ⟨x0, x1, x2, x3, x4⟩ := Lsee.out _ H3.out
  go_wp2_with fail
  refine (cM.out _ (LQ.out _ H3.out)).mono ?_
  rintro e wc4 ⟨M3, m3, M4, m4, rfl, hI, hK, qc4⟩
  obtain ⟨R4, hR4⟩ : ∃ x, wc4.heap.size = x := ⟨_, rfl⟩
  obtain ⟨wd4, hwd4⟩ : ∃ x, wc4.alloc (.cells #[.int .i64 5, .int .i64 0, .string ⟨#[]⟩, .slice M3 n m3, .slice M4 n m4] 26) = x := ⟨_, rfl⟩
  have qd4 : Q wc4 wd4 := by rw [← hwd4]; exact Q.box _ _
  have bd4 : Bk R4 #[.int .i64 5, .int .i64 0, .string ⟨#[]⟩, .slice M3 n m3, .slice M4 n m4] 26 wd4 := by rw [← hwd4, ← hR4]; exact Bk.new _ _ _
  obtain ⟨PM4, hPM4⟩ : ∃ M : World → Prop, M = fun w' => L w' ∧ Bk R4 #[.int .i64 5, .int .i64 0, .string ⟨#[]⟩, .slice M3 n m3, .slice M4 n m4] 26 w' ∧ Is (.slice M3 n m3) (r.map (fun b => b.2)) w' ∧ Ks (.slice M4 n m4) (r.map (fun b => b.1)) w' := ⟨_, rfl⟩
  have H4 : Hid (PM4 wd4) := Lib.hid (by rw [hPM4]; exact ⟨Lst.out _ _ H3.out (qc4.trans qd4), bd4, hI.stays qd4, hK.stays qd4⟩)
  have PM4st : Hid (∀ w' w'', PM4 w' → Q w' w'' → PM4 w'') := Lib.hid (fun w' w'' h q => by rw [hPM4] at h ⊢; exact ⟨Lst.out _ _ h.1 q, (h.2.1).stays q, (h.2.2.1).stays q, (h.2.2.2).stays q⟩)
  have PM4Q : Hid (∀ w', PM4 w' → Q w w') := Lib.hid (fun w' h => by rw [hPM4] at h; exact LQ.out _ h.1)
  have PM4x : Hid (∀ w', PM4 w' → L w' ∧ Bk R4 #[.int .i64 5, .int .i64 0, .string ⟨#[]⟩, .slice M3 n m3, .slice M4 n m4] 26 w' ∧ Is (.slice M3 n m3) (r.map (fun b => b.2)) w' ∧ Ks (.slice M4 n m4) (r.map (fun b => b.1)) w') := Lib.hid (fun w' h => by rw [hPM4] at h; exact h)
  have PM4see : Hid (∀ w', PM4 w' → w'.cell? ⟨P3, 0, none⟩ = some (.int .i64 bk) ∧ w'.cell? ⟨P3, 1, none⟩ = some (.int .i64 bn) ∧ w'.cell? ⟨P3, 2, none⟩ = some (.string bs) ∧ w'.cell? ⟨P3, 3, none⟩ = some (.slice B3 bn3 l3) ∧ w'.cell? ⟨P3, 4, none⟩ = some (.slice B4 bn4 l4) ∧ w'.cell? ⟨R4, 0, none⟩ = some (.int .i64 5) ∧ w'.cell? ⟨R4, 1, none⟩ = some (.int .i64 0) ∧ w'.cell? ⟨R4, 2, none⟩ = some (.string ⟨#[]⟩) ∧ w'.cell? ⟨R4, 3, none⟩ = some (.slice M3 n m3) ∧ w'.cell? ⟨R4, 4, none⟩ = some (.slice M4 n m4)) := Lib.hid (fun w' h => by
    rw [hPM4] at h
    have g := Lsee.out _ h.1
    exact ⟨g.1, g.2.1, g.2.2.1, g.2.2.2.1, g.2.2.2.2, (h.2.1).at 0 _ rfl, (h.2.1).at 1 _ rfl, (h.2.1).at 2 _ rfl, (h.2.1).at 3 _ rfl, (h.2.1).at 4 _ rfl⟩)
  clear hPM4 qc4 qd4 bd4 hI hK x0 x1 x2 x3 x4
  obtain ⟨x0, x1, x2, x3, x4, x5, x6, x7, x8, x9⟩ := PM4see.out _ H4.out
  go_wp2_with fail
  refine (cR.out _ (PM4Q.out _ H4.out)).mono ?_
  rintro e wc5 ⟨W3, w3', W4, w4', rfl, hI, hK, qc5⟩
  obtain ⟨R5, hR5⟩ : ∃ x, wc5.heap.size = x := ⟨_, rfl⟩
  obtain ⟨wd5, hwd5⟩ : ∃ x, wc5.alloc (.cells #[.int .i64 5, .int .i64 0, .string ⟨#[]⟩, .slice W3 n w3', .slice W4 n w4'] 26) = x := ⟨_, rfl⟩
  have qd5 : Q wc5 wd5 := by rw [← hwd5]; exact Q.box _ _
  have bd5 : Bk R5 #[.int .i64 5, .int .i64 0, .string ⟨#[]⟩, .slice W3 n w3', .slice W4 n w4'] 26 wd5 := by rw [← hwd5, ← hR5]; exact Bk.new _ _ _
  obtain ⟨PM5, hPM5⟩ : ∃ M : World → Prop, M = fun w' => PM4 w' ∧ Bk R5 #[.int .i64 5, .int .i64 0, .string ⟨#[]⟩, .slice W3 n w3', .slice W4 n w4'] 26 w' ∧ Is (.slice W3 n w3') (r.map (fun b => b.2)) w' ∧ Ks (.slice W4 n w4') (r.map (fun b => b.1)) w' := ⟨_, rfl⟩
  have H5 : Hid (PM5 wd5) := Lib.hid (by rw [hPM5]; exact ⟨PM4st.out _ _ H4.out (qc5.trans qd5), bd5, hI.stays qd5, hK.stays qd5⟩)
  have PM5st : Hid (∀ w' w'', PM5 w' → Q w' w'' → PM5 w'') := Lib.hid (fun w' w'' h q => by rw [hPM5] at h ⊢; exact ⟨PM4st.out _ _ h.1 q, (h.2.1).stays q, (h.2.2.1).stays q, (h.2.2.2).stays q⟩)
  have PM5Q : Hid (∀ w', PM5 w' → Q w w') := Lib.hid (fun w' h => by rw [hPM5] at h; exact PM4Q.out _ h.1)
  have PM5x : Hid (∀ w', PM5 w' → PM4 w' ∧ Bk R5 #[.int .i64 5, .int .i64 0, .string ⟨#[]⟩, .slice W3 n w3', .slice W4 n w4'] 26 w' ∧ Is (.slice W3 n w3') (r.map (fun b => b.2)) w' ∧ Ks (.slice W4 n w4') (r.map (fun b => b.1)) w') := Lib.hid (fun w' h => by rw [hPM5] at h; exact h)
  have PM5see : Hid (∀ w', PM5 w' → w'.cell? ⟨P3, 0, none⟩ = some (.int .i64 bk) ∧ w'.cell? ⟨P3, 1, none⟩ = some (.int .i64 bn) ∧ w'.cell? ⟨P3, 2, none⟩ = some (.string bs) ∧ w'.cell? ⟨P3, 3, none⟩ = some (.slice B3 bn3 l3) ∧ w'.cell? ⟨P3, 4, none⟩ = some (.slice B4 bn4 l4) ∧ w'.cell? ⟨R4, 0, none⟩ = some (.int .i64 5) ∧ w'.cell? ⟨R4, 1, none⟩ = some (.int .i64 0) ∧ w'.cell? ⟨R4, 2, none⟩ = some (.string ⟨#[]⟩) ∧ w'.cell? ⟨R4, 3, none⟩ = some (.slice M3 n m3) ∧ w'.cell? ⟨R4, 4, none⟩ = some (.slice M4 n m4) ∧ w'.cell? ⟨R5, 0, none⟩ = some (.int .i64 5) ∧ w'.cell? ⟨R5, 1, none⟩ = some (.int .i64 0) ∧ w'.cell? ⟨R5, 2, none⟩ = some (.string ⟨#[]⟩) ∧ w'.cell? ⟨R5, 3, none⟩ = some (.slice W3 n w3') ∧ w'.cell? ⟨R5, 4, none⟩ = some (.slice W4 n w4')) := Lib.hid (fun w' h => by
    rw [hPM5] at h
    have g := PM4see.out _ h.1
    exact ⟨g.1, g.2.1, g.2.2.1, g.2.2.2.1, g.2.2.2.2.1, g.2.2.2.2.2.1, g.2.2.2.2.2.2.1, g.2.2.2.2.2.2.2.1, g.2.2.2.2.2.2.2.2.1, g.2.2.2.2.2.2.2.2.2, (h.2.1).at 0 _ rfl, (h.2.1).at 1 _ rfl, (h.2.1).at 2 _ rfl, (h.2.1).at 3 _ rfl, (h.2.1).at 4 _ rfl⟩)
  clear hPM5 qc5 qd5 bd5 hI hK x0 x1 x2 x3 x4 x5 x6 x7 x8 x9
  obtain ⟨x0, x1, x2, x3, x4, x5, x6, x7, x8, x9, x10, x11, x12, x13, x14⟩ := PM5see.out _ H5.out
  go_wp2_with fail
  refine (cD.out _ _ _ _ _ _ _ _ _ (PM4x.out _ (PM5x.out _ H5.out).1).2.2.1 (PM4x.out _ (PM5x.out _ H5.out).1).2.2.2 (PM5x.out _ H5.out).2.2.1 (PM5x.out _ H5.out).2.2.2).mono ?_
  rintro e wc6 ⟨rfl, qc6⟩
  have H6 := Lib.hid (PM5st.out _ _ H5.out qc6)
  clear qc6 x0 x1 x2 x3 x4 x5 x6 x7 x8 x9 x10 x11 x12 x13 x14
  obtain ⟨x0, x1, x2, x3, x4, x5, x6, x7, x8, x9, x10, x11, x12, x13, x14⟩ := PM5see.out _ H6.out
  go_wp2_with fail
  refine (cC.out _ _ _ _ _ (PM4x.out _ (PM5x.out _ H6.out).1).2.2.1 (PM4x.out _ (PM5x.out _ H6.out).1).2.2.2).mono ?_
  rintro e wc7 ⟨rfl, qc7⟩
  have H7 := Lib.hid (PM5st.out _ _ H6.out qc7)
  clear qc7 x0 x1 x2 x3 x4 x5 x6 x7 x8 x9 x10 x11 x12 x13 x14
  obtain ⟨x0, x1, x2, x3, x4, x5, x6, x7, x8, x9, x10, x11, x12, x13, x14⟩ := PM5see.out _ H7.out
  go_wp2_with fail
  refine (cG.out _ _ _ _ _ (PM4x.out _ (PM5x.out _ H7.out).1).2.2.1 (PM4x.out _ (PM5x.out _ H7.out).1).2.2.2).mono ?_
  rintro e wc8 ⟨T3, t3, T4, t4, rfl, hV, qc8⟩
  obtain ⟨R8, hR8⟩ : ∃ x, wc8.heap.size = x := ⟨_, rfl⟩
  obtain ⟨wd8, hwd8⟩ : ∃ x, wc8.alloc (.cells #[.int .i64 yk, .int .i64 yn, .string ys, .slice T3 yn3 t3, .slice T4 yn4 t4] 26) = x := ⟨_, rfl⟩
  have qd8 : Q wc8 wd8 := by rw [← hwd8]; exact Q.box _ _
  have bd8 : Bk R8 #[.int .i64 yk, .int .i64 yn, .string ys, .slice T3 yn3 t3, .slice T4 yn4 t4] 26 wd8 := by rw [← hwd8, ← hR8]; exact Bk.new _ _ _
  obtain ⟨PM8, hPM8⟩ : ∃ M : World → Prop, M = fun w' => PM5 w' ∧ Bk R8 #[.int .i64 yk, .int .i64 yn, .string ys, .slice T3 yn3 t3, .slice T4 yn4 t4] 26 w' ∧ Va (itP r key) T3 t3 T4 t4 w' := ⟨_, rfl⟩
  have H8 : Hid (PM8 wd8) := Lib.hid (by rw [hPM8]; exact ⟨PM5st.out _ _ H7.out (qc8.trans qd8), bd8, hV.stays qd8⟩)
  have PM8st : Hid (∀ w' w'', PM8 w' → Q w' w'' → PM8 w'') := Lib.hid (fun w' w'' h q => by rw [hPM8] at h ⊢; exact ⟨PM5st.out _ _ h.1 q, (h.2.1).stays q, (h.2.2).stays q⟩)
  have PM8Q : Hid (∀ w', PM8 w' → Q w w') := Lib.hid (fun w' h => by rw [hPM8] at h; exact PM5Q.out _ h.1)
  have PM8x : Hid (∀ w', PM8 w' → PM5 w' ∧ Bk R8 #[.int .i64 yk, .int .i64 yn, .string ys, .slice T3 yn3 t3, .slice T4 yn4 t4] 26 w' ∧ Va (itP r key) T3 t3 T4 t4 w') := Lib.hid (fun w' h => by rw [hPM8] at h; exact h)
  have PM8see : Hid (∀ w', PM8 w' → w'.cell? ⟨P3, 0, none⟩ = some (.int .i64 bk) ∧ w'.cell? ⟨P3, 1, none⟩ = some (.int .i64 bn) ∧ w'.cell? ⟨P3, 2, none⟩ = some (.string bs) ∧ w'.cell? ⟨P3, 3, none⟩ = some (.slice B3 bn3 l3) ∧ w'.cell? ⟨P3, 4, none⟩ = some (.slice B4 bn4 l4) ∧ w'.cell? ⟨R4, 0, none⟩ = some (.int .i64 5) ∧ w'.cell? ⟨R4, 1, none⟩ = some (.int .i64 0) ∧ w'.cell? ⟨R4, 2, none⟩ = some (.string ⟨#[]⟩) ∧ w'.cell? ⟨R4, 3, none⟩ = some (.slice M3 n m3) ∧ w'.cell? ⟨R4, 4, none⟩ = some (.slice M4 n m4) ∧ w'.cell? ⟨R5, 0, none⟩ = some (.int .i64 5) ∧ w'.cell? ⟨R5, 1, none⟩ = some (.int .i64 0) ∧ w'.cell? ⟨R5, 2, none⟩ = some (.string ⟨#[]⟩) ∧ w'.cell? ⟨R5, 3, none⟩ = some (.slice W3 n w3') ∧ w'.cell? ⟨R5, 4, none⟩ = some (.slice W4 n w4') ∧ w'.cell? ⟨R8, 0, none⟩ = some (.int .i64 yk) ∧ w'.cell? ⟨R8, 1, none⟩ = some (.int .i64 yn) ∧ w'.cell? ⟨R8, 2, none⟩ = some (.string ys) ∧ w'.cell? ⟨R8, 3, none⟩ = some (.slice T3 yn3 t3) ∧ w'.cell? ⟨R8, 4, none⟩ = some (.slice T4 yn4 t4)) := Lib.hid (fun w' h => by
    rw [hPM8] at h
    have g := PM5see.out _ h.1
    exact ⟨g.1, g.2.1, g.2.2.1, g.2.2.2.1, g.2.2.2.2.1, g.2.2.2.2.2.1, g.2.2.2.2.2.2.1, g.2.2.2.2.2.2.2.1, g.2.2.2.2.2.2.2.2.1, g.2.2.2.2.2.2.2.2.2.1, g.2.2.2.2.2.2.2.2.2.2.1, g.2.2.2.2.2.2.2.2.2.2.2.1, g.2.2.2.2.2.2.2.2.2.2.2.2.1, g.2.2.2.2.2.2.2.2.2.2.2.2.2.1, g.2.2.2.2.2.2.2.2.2.2.2.2.2.2, (h.2.1).at 0 _ rfl, (h.2.1).at 1 _ rfl, (h.2.1).at 2 _ rfl, (h.2.1).at 3 _ rfl, (h.2.1).at 4 _ rfl⟩)
  clear hPM8 qc8 qd8 bd8 hV x0 x1 x2 x3 x4 x5 x6 x7 x8 x9 x10 x11 x12 x13 x14
  obtain ⟨x0, x1, x2, x3, x4, x5, x6, x7, x8, x9, x10, x11, x12, x13, x14, x15, x16, x17, x18, x19⟩ := PM8see.out _ H8.out
  go_wp2_with fail
  refine (cH.out _ _ _ _ _ (PM4x.out _ (PM5x.out _ (PM8x.out _ H8.out).1).1).2.2.1 (PM4x.out _ (PM5x.out _ (PM8x.out _ H8.out).1).1).2.2.2).mono ?_
  rintro e wc9 ⟨U3, u3, U4, u4, rfl, hV, qc9⟩
  obtain ⟨R9, hR9⟩ : ∃ x, wc9.heap.size = x := ⟨_, rfl⟩
  obtain ⟨wd9, hwd9⟩ : ∃ x, wc9.alloc (.cells #[.int .i64 yk, .int .i64 yn, .string ys, .slice U3 yn3 u3, .slice U4 yn4 u4] 26) = x := ⟨_, rfl⟩
  have qd9 : Q wc9 wd9 := by rw [← hwd9]; exact Q.box _ _
  have bd9 : Bk R9 #[.int .i64 yk, .int .i64 yn, .string ys, .slice U3 yn3 u3, .slice U4 yn4 u4] 26 wd9 := by rw [← hwd9, ← hR9]; exact Bk.new _ _ _
  obtain ⟨PM9, hPM9⟩ : ∃ M : World → Prop, M = fun w' => PM8 w' ∧ Bk R9 #[.int .i64 yk, .int .i64 yn, .string ys, .slice U3 yn3 u3, .slice U4 yn4 u4] 26 w' ∧ Va (itP r key) U3 u3 U4 u4 w' := ⟨_, rfl⟩
  have H9 : Hid (PM9 wd9) := Lib.hid (by rw [hPM9]; exact ⟨PM8st.out _ _ H8.out (qc9.trans qd9), bd9, hV.stays qd9⟩)
  have PM9st : Hid (∀ w' w'', PM9 w' → Q w' w'' → PM9 w'') := Lib.hid (fun w' w'' h q => by rw [hPM9] at h ⊢; exact ⟨PM8st.out _ _ h.1 q, (h.2.1).stays q, (h.2.2).stays q⟩)
  have PM9Q : Hid (∀ w', PM9 w' → Q w w') := Lib.hid (fun w' h => by rw [hPM9] at h; exact PM8Q.out _ h.1)
  have PM9x : Hid (∀ w', PM9 w' → PM8 w' ∧ Bk R9 #[.int .i64 yk, .int .i64 yn, .string ys, .slice U3 yn3 u3, .slice U4 yn4 u4] 26 w' ∧ Va (itP r key) U3 u3 U4 u4 w') := Lib.hid (fun w' h => by rw [hPM9] at h; exact h)
  have PM9see : Hid (∀ w', PM9 w' → w'.cell? ⟨P3, 0, none⟩ = some (.int .i64 bk) ∧ w'.cell? ⟨P3, 1, none⟩ = some (.int .i64 bn) ∧ w'.cell? ⟨P3, 2, none⟩ = some (.string bs) ∧ w'.cell? ⟨P3, 3, none⟩ = some (.slice B3 bn3 l3) ∧ w'.cell? ⟨P3, 4, none⟩ = some (.slice B4 bn4 l4) ∧ w'.cell? ⟨R4, 0, none⟩ = some (.int .i64 5) ∧ w'.cell? ⟨R4, 1, none⟩ = some (.int .i64 0) ∧ w'.cell? ⟨R4, 2, none⟩ = some (.string ⟨#[]⟩) ∧ w'.cell? ⟨R4, 3, none⟩ = some (.slice M3 n m3) ∧ w'.cell? ⟨R4, 4, none⟩ = some (.slice M4 n m4) ∧ w'.cell? ⟨R5, 0, none⟩ = some (.int .i64 5) ∧ w'.cell? ⟨R5, 1, none⟩ = some (.int .i64 0) ∧ w'.cell? ⟨R5, 2, none⟩ = some (.string ⟨#[]⟩) ∧ w'.cell? ⟨R5, 3, none⟩ = some (.slice W3 n w3') ∧ w'.cell? ⟨R5, 4, none⟩ = some (.slice W4 n w4') ∧ w'.cell? ⟨R8, 0, none⟩ = some (.int .i64 yk) ∧ w'.cell? ⟨R8, 1, none⟩ = some (.int .i64 yn) ∧ w'.cell? ⟨R8, 2, none⟩ = some (.string ys) ∧ w'.cell? ⟨R8, 3, none⟩ = some (.slice T3 yn3 t3) ∧ w'.cell? ⟨R8, 4, none⟩ = some (.slice T4 yn4 t4) ∧ w'.cell? ⟨R9, 0, none⟩ = some (.int .i64 yk) ∧ w'.cell? ⟨R9, 1, none⟩ = some (.int .i64 yn) ∧ w'.cell? ⟨R9, 2, none⟩ = some (.string ys) ∧ w'.cell? ⟨R9, 3, none⟩ = some (.slice U3 yn3 u3) ∧ w'.cell? ⟨R9, 4, none⟩ = some (.slice U4 yn4 u4)) := Lib.hid (fun w' h => by
    rw [hPM9] at h
    have g := PM8see.out _ h.1
    exact ⟨g.1, g.2.1, g.2.2.1, g.2.2.2.1, g.2.2.2.2.1, g.2.2.2.2.2.1, g.2.2.2.2.2.2.1, g.2.2.2.2.2.2.2.1, g.2.2.2.2.2.2.2.2.1, g.2.2.2.2.2.2.2.2.2.1, g.2.2.2.2.2.2.2.2.2.2.1, g.2.2.2.2.2.2.2.2.2.2.2.1, g.2.2.2.2.2.2.2.2.2.2.2.2.1, g.2.2.2.2.2.2.2.2.2.2.2.2.2.1, g.2.2.2.2.2.2.2.2.2.2.2.2.2.2.1, g.2.2.2.2.2.2.2.2.2.2.2.2.2.2.2.1, g.2.2.2.2.2.2.2.2.2.2.2.2.2.2.2.2.1, g.2.2.2.2.2.2.2.2.2.2.2.2.2.2.2.2.2.1, g.2.2.2.2.2.2.2.2.2.2.2.2.2.2.2.2.2.2.1, g.2.2.2.2.2.2.2.2.2.2.2.2.2.2.2.2.2.2.2, (h.2.1).at 0 _ rfl, (h.2.1).at 1 _ rfl, (h.2.1).at 2 _ rfl, (h.2.1).at 3 _ rfl, (h.2.1).at 4 _ rfl⟩)
  clear hPM9 qc9 qd9 bd9 hV x0 x1 x2 x3 x4 x5 x6 x7 x8 x9 x10 x11 x12 x13 x14 x15 x16 x17 x18 x19
  obtain ⟨x0, x1, x2, x3, x4, x5, x6, x7, x8, x9, x10, x11, x12, x13, x14, x15, x16, x17, x18, x19, x20, x21, x22, x23, x24⟩ := PM9see.out _ H9.out
  go_wp2_with fail
  clear x0 x1 x2 x3 x4 x5 x6 x7 x8 x9 x10 x11 x12 x13 x14 x15 x16 x17 x18 x19 x20 x21 x22 x23 x24
  refine Go.wp_region_held_drew (S := (fun w' => Hid (PM9 w') ∧ w'.cell? ⟨P3, 0, none⟩ = some (.int .i64 bk) ∧ w'.cell? ⟨P3, 1, none⟩ = some (.int .i64 bn) ∧ w'.cell? ⟨P3, 2, none⟩ = some (.string bs) ∧ w'.cell? ⟨P3, 3, none⟩ = some (.slice B3 bn3 l3) ∧ w'.cell? ⟨P3, 4, none⟩ = some (.slice B4 bn4 l4) ∧ w'.cell? ⟨R4, 0, none⟩ = some (.int .i64 5) ∧ w'.cell? ⟨R4, 1, none⟩ = some (.int .i64 0) ∧ w'.cell? ⟨R4, 2, none⟩ = some (.string ⟨#[]⟩) ∧ w'.cell? ⟨R4, 3, none⟩ = some (.slice M3 n m3) ∧ w'.cell? ⟨R4, 4, none⟩ = some (.slice M4 n m4) ∧ w'.cell? ⟨R5, 0, none⟩ = some (.int .i64 5) ∧ w'.cell? ⟨R5, 1, none⟩ = some (.int .i64 0) ∧ w'.cell? ⟨R5, 2, none⟩ = some (.string ⟨#[]⟩) ∧ w'.cell? ⟨R5, 3, none⟩ = some (.slice W3 n w3') ∧ w'.cell? ⟨R5, 4, none⟩ = some (.slice W4 n w4') ∧ w'.cell? ⟨R8, 0, none⟩ = some (.int .i64 yk) ∧ w'.cell? ⟨R8, 1, none⟩ = some (.int .i64 yn) ∧ w'.cell? ⟨R8, 2, none⟩ = some (.string ys) ∧ w'.cell? ⟨R8, 3, none⟩ = some (.slice T3 yn3 t3) ∧ w'.cell? ⟨R8, 4, none⟩ = some (.slice T4 yn4 t4) ∧ w'.cell? ⟨R9, 0, none⟩ = some (.int .i64 yk) ∧ w'.cell? ⟨R9, 1, none⟩ = some (.int .i64 yn) ∧ w'.cell? ⟨R9, 2, none⟩ = some (.string ys) ∧ w'.cell? ⟨R9, 3, none⟩ = some (.slice U3 yn3 u3) ∧ w'.cell? ⟨R9, 4, none⟩ = some (.slice U4 yn4 u4))) (by kernel_rfl) (⟨Lib.hid (PM9st.out _ _ H9.out (Q.drewN _ 1)), PM9see.out _ (PM9st.out _ _ H9.out (Q.drewN _ 1))⟩) (fun hHeld => ?_)
  refine Go.wpAnyH_take (i := 0) (oi := _) (v := ?_) rfl (by kernel_rfl) (by kernel_rfl) (by kernel_rfl) (fun _ _ _ h => h) (Or.inl ⟨by rfl, ?_⟩) (by assumption) ?_
  rotate_left 1
  · intro wx hSw
    go_simp <;> with_reducible rfl
  simp only [Act.put, List.getElem_toArray, List.getElem_cons_zero, List.setIfInBounds_toArray, List.set_cons_zero, List.set_cons_succ]
  refine Go.wpAnyH_take (i := 1) (oi := _) (v := ?_) rfl (by kernel_rfl) (by kernel_rfl) (by kernel_rfl) (fun _ _ _ h => h) (Or.inl ⟨by rfl, ?_⟩) (by assumption) ?_
  rotate_left 1
  · intro wx hSw
    go_simp <;> with_reducible rfl
  simp only [Act.put, List.getElem_toArray, List.getElem_cons_zero, List.getElem_cons_succ, List.setIfInBounds_toArray, List.set_cons_zero, List.set_cons_succ]
  refine Go.wpAnyH_take (i := 2) (oi := _) (v := ?_) rfl (by kernel_rfl) (by kernel_rfl) (by kernel_rfl) (fun _ _ _ h => h) (Or.inl ⟨by rfl, ?_⟩) (by assumption) ?_
  rotate_left 1
  · intro wx hSw
    go_simp <;> with_reducible rfl
  simp only [Act.put, List.getElem_toArray, List.getElem_cons_zero, List.getElem_cons_succ, List.setIfInBounds_toArray, List.set_cons_zero, List.set_cons_succ]
  refine Go.wpAnyH_take (i := 3) (oi := _) (v := ?_) rfl (by kernel_rfl) (by kernel_rfl) (by kernel_rfl) (fun _ _ _ h => h) (Or.inl ⟨by rfl, ?_⟩) (by assumption) ?_
  rotate_left 1
  · intro wx hSw
    go_simp <;> with_reducible rfl
  simp only [Act.put, List.getElem_toArray, List.getElem_cons_zero, List.getElem_cons_succ, List.setIfInBounds_toArray, List.set_cons_zero, List.set_cons_succ]
  refine Go.wpAnyH_take (i := 4) (oi := _) (v := ?_) rfl (by kernel_rfl) (by kernel_rfl) (by kernel_rfl) (fun _ _ _ h => h) (Or.inl ⟨by rfl, ?_⟩) (by assumption) ?_
  rotate_left 1
  · intro wx hSw
    go_simp <;> with_reducible rfl
  simp only [Act.put, List.getElem_toArray, List.getElem_cons_zero, List.getElem_cons_succ, List.setIfInBounds_toArray, List.set_cons_zero, List.set_cons_succ]
  refine Go.wpAnyH_take (i := 5) (oi := _) (v := ?_) rfl (by kernel_rfl) (by kernel_rfl) (by kernel_rfl) (fun _ _ _ h => h) (Or.inl ⟨by rfl, ?_⟩) (by assumption) ?_
  rotate_left 1
  · intro wx hSw
    go_simp <;> with_reducible rfl
  simp only [Act.put, List.getElem_toArray, List.getElem_cons_zero, List.getElem_cons_succ, List.setIfInBounds_toArray, List.set_cons_zero, List.set_cons_succ]
  refine Go.wpAnyH_ready (rs := [6]) (by kernel_rfl) (by simp) ?_
  refine Go.AllReadyH.cons rfl (fun K hK => ?_) Go.AllReadyH.nil
  rw [if_pos (by rfl)]
  go_simp
  refine (cY.out _ _ _ _ _ _ _ _ _ (PM8x.out _ (PM9x.out _ hHeld.1.out).1).2.2 (PM9x.out _ hHeld.1.out).2.2).mono ?_
  rintro e v6 ⟨rfl, q6⟩
  have g6 := Lib.hid (PM9st.out _ _ hHeld.1.out q6)

  refine hK.out _ _ (⟨g6, PM9see.out _ g6.out⟩) (fun hHeld => ?_)
  clear hK K
  refine Go.wpAnyH_take (i := 7) (oi := _) (v := ?_) rfl (by kernel_rfl) (by kernel_rfl) (by kernel_rfl) (fun _ _ _ h => h) (Or.inl ⟨by rfl, ?_⟩) (by assumption) ?_
  rotate_left 1
  · intro wx hSw
    go_simp <;> with_reducible rfl
  simp only [Act.put, List.getElem_toArray, List.getElem_cons_zero, List.getElem_cons_succ, List.setIfInBounds_toArray, List.set_cons_zero, List.set_cons_succ]
  refine Go.wpAnyH_take (i := 8) (oi := _) (v := ?_) rfl (by kernel_rfl) (by kernel_rfl) (by kernel_rfl) (fun _ _ _ h => h) (Or.inl ⟨by rfl, ?_⟩) (by assumption) ?_
  rotate_left 1
  · intro wx hSw
    go_simp <;> with_reducible rfl
  simp only [Act.put, List.getElem_toArray, List.getElem_cons_zero, List.getElem_cons_succ, List.setIfInBounds_toArray, List.set_cons_zero, List.set_cons_succ]
  refine Go.wpAnyH_take (i := 9) (oi := _) (v := ?_) rfl (by kernel_rfl) (by kernel_rfl) (by kernel_rfl) (fun _ _ _ h => h) (Or.inl ⟨by rfl, ?_⟩) (by assumption) ?_
  rotate_left 1
  · intro wx hSw
    go_simp <;> with_reducible rfl
  simp only [Act.put, List.getElem_toArray, List.getElem_cons_zero, List.getElem_cons_succ, List.setIfInBounds_toArray, List.set_cons_zero, List.set_cons_succ]
  refine Go.wpAnyH_ready (rs := [10]) (by kernel_rfl) (by simp) ?_
  refine Go.AllReadyH.cons rfl (fun K hK => ?_) Go.AllReadyH.nil
  rw [if_pos (by rfl)]
  go_simp
  refine (cU.out _ (PM9Q.out _ hHeld.1.out)).mono ?_
  rintro e v10 ⟨rfl, q10⟩
  have g10 := Lib.hid (PM9st.out _ _ hHeld.1.out q10)

  refine hK.out _ _ (⟨g10, PM9see.out _ g10.out⟩) (fun hHeld => ?_)
  clear hK K
  refine Go.wpAnyH_take (i := 11) (oi := _) (v := ?_) rfl (by kernel_rfl) (by kernel_rfl) (by kernel_rfl) (fun _ _ _ h => h) (Or.inl ⟨by rfl, ?_⟩) (by assumption) ?_
  rotate_left 1
  · intro wx hSw
    go_simp <;> with_reducible rfl
  simp only [Act.put, List.getElem_toArray, List.getElem_cons_zero, List.getElem_cons_succ, List.setIfInBounds_toArray, List.set_cons_zero, List.set_cons_succ]
  refine Go.wpAnyH_take (i := 12) (oi := _) (v := ?_) rfl (by kernel_rfl) (by kernel_rfl) (by kernel_rfl) (fun _ _ _ h => h) (Or.inl ⟨by rfl, ?_⟩) (by assumption) ?_
  rotate_left 1
  · intro wx hSw
    go_simp <;> with_reducible rfl
  simp only [Act.put, List.getElem_toArray, List.getElem_cons_zero, List.getElem_cons_succ, List.setIfInBounds_toArray, List.set_cons_zero, List.set_cons_succ]
  refine Go.wpAnyH_take (i := 13) (oi := _) (v := ?_) rfl (by kernel_rfl) (by kernel_rfl) (by kernel_rfl) (fun _ _ _ h => h) (Or.inl ⟨by rfl, ?_⟩) (by assumption) ?_
  rotate_left 1
  · intro wx hSw
    go_simp <;> with_reducible rfl
  simp only [Act.put, List.getElem_toArray, List.getElem_cons_zero, List.getElem_cons_succ, List.setIfInBounds_toArray, List.set_cons_zero, List.set_cons_succ]
  refine Go.wpAnyH_take (i := 14) (oi := _) (v := ?_) rfl (by kernel_rfl) (by kernel_rfl) (by kernel_rfl) (fun _ _ _ h => h) (Or.inl ⟨by rfl, ?_⟩) (by assumption) ?_
  rotate_left 1
  · intro wx hSw
    go_simp <;> with_reducible rfl
  simp only [Act.put, List.getElem_toArray, List.getElem_cons_zero, List.getElem_cons_succ, List.setIfInBounds_toArray, List.set_cons_zero, List.set_cons_succ]
  refine Go.wpAnyH_take (i := 15) (oi := _) (v := ?_) rfl (by kernel_rfl) (by kernel_rfl) (by kernel_rfl) (fun _ _ _ h => h) (Or.inl ⟨by rfl, ?_⟩) (by assumption) ?_
  rotate_left 1
  · intro wx hSw
    go_simp <;> with_reducible rfl
  simp only [Act.put, List.getElem_toArray, List.getElem_cons_zero, List.getElem_cons_succ, List.setIfInBounds_toArray, List.set_cons_zero, List.set_cons_succ]
  refine Go.wpAnyH_take (i := 17) (oi := _) (v := ?_) rfl (by kernel_rfl) (by kernel_rfl) (by kernel_rfl) (fun _ _ _ h => h) (Or.inl ⟨by rfl, ?_⟩) (by assumption) ?_
  rotate_left 1
  · intro wx hSw
    go_simp <;> with_reducible rfl
  simp only [Act.put, List.getElem_toArray, List.getElem_cons_zero, List.getElem_cons_succ, List.setIfInBounds_toArray, List.set_cons_zero, List.set_cons_succ]
  refine Go.wpAnyH_take (i := 18) (oi := _) (v := ?_) rfl (by kernel_rfl) (by kernel_rfl) (by kernel_rfl) (fun _ _ _ h => h) (Or.inl ⟨by rfl, ?_⟩) (by assumption) ?_
  rotate_left 1
  · intro wx hSw
    go_simp <;> with_reducible rfl
  simp only [Act.put, List.getElem_toArray, List.getElem_cons_zero, List.getElem_cons_succ, List.setIfInBounds_toArray, List.set_cons_zero, List.set_cons_succ]
  refine Go.wpAnyH_take (i := 19) (oi := _) (v := ?_) rfl (by kernel_rfl) (by kernel_rfl) (by kernel_rfl) (fun _ _ _ h => h) (Or.inl ⟨by rfl, ?_⟩) (by assumption) ?_
  rotate_left 1
  · intro wx hSw
    go_simp <;> with_reducible rfl
  simp only [Act.put, List.getElem_toArray, List.getElem_cons_zero, List.getElem_cons_succ, List.setIfInBounds_toArray, List.set_cons_zero, List.set_cons_succ]
  refine Go.wpAnyH_ready (rs := [16]) (by kernel_rfl) (by simp) ?_
  refine Go.AllReadyH.cons rfl (fun K hK => ?_) Go.AllReadyH.nil
  rw [if_pos (by rfl)]
  go_simp
  refine (cP.out _ _ _ _ _ (PM9Q.out _ hHeld.1.out) (PM4x.out _ (PM5x.out _ (PM8x.out _ (PM9x.out _ hHeld.1.out).1).1).1).2.2.1 (PM4x.out _ (PM5x.out _ (PM8x.out _ (PM9x.out _ hHeld.1.out).1).1).1).2.2.2).mono ?_
  rintro e v16 ⟨S3, s3, S4, s4, rfl, i3, i4, q16⟩
  have g16 := Lib.hid (PM9st.out _ _ hHeld.1.out q16)
  have G16 := Lib.hid (And.intro i3 i4)
  clear i3 i4
  refine hK.out _ _ (⟨g16, PM9see.out _ g16.out⟩) (fun hHeld => ?_)
  clear hK K
  refine Go.wpAnyH_ready (rs := [20]) (by kernel_rfl) (by simp) ?_
  refine Go.AllReadyH.cons rfl (fun K hK => ?_) Go.AllReadyH.nil
  rw [if_pos (by rfl)]
  go_simp
  refine (cV.out _ _ _ _ _ (PM9Q.out _ hHeld.1.out) (PM4x.out _ (PM5x.out _ (PM8x.out _ (PM9x.out _ hHeld.1.out).1).1).1).2.2.1 (PM4x.out _ (PM5x.out _ (PM8x.out _ (PM9x.out _ hHeld.1.out).1).1).1).2.2.2).mono ?_
  rintro e v20 ⟨V3, v3', V4, v4', rfl, i3, i4, q20⟩
  have g20 := Lib.hid (PM9st.out _ _ hHeld.1.out q20)
  have G20 := Lib.hid (And.intro i3 i4)
  have G17 := Lib.hid (And.intro (G16.out.1.stays q20) (G16.out.2.stays q20))
  clear i3 i4
  refine hK.out _ _ (⟨g20, PM9see.out _ g20.out⟩) (fun hHeld => ?_)
  clear hK K
  refine Go.wpAnyH_ready (rs := [21]) (by kernel_rfl) (by simp) ?_
  refine Go.AllReadyH.cons rfl (fun K hK => ?_) Go.AllReadyH.nil
  rw [if_pos (by rfl)]
  go_simp
  refine (cW.out _ _ _ _ _ _ _ _ _ G17.out.1 G17.out.2 G20.out.1 G20.out.2).mono ?_
  rintro e v21 ⟨rfl, q21⟩
  have g21 := Lib.hid (PM9st.out _ _ hHeld.1.out q21)

  refine hK.out _ _ (⟨g21, PM9see.out _ g21.out⟩) (fun hHeld => ?_)
  clear hK K
  refine Go.wpAnyH_take (i := 22) (oi := _) (v := ?_) rfl (by kernel_rfl) (by kernel_rfl) (by kernel_rfl) (fun _ _ _ h => h) (Or.inl ⟨by rfl, ?_⟩) (by assumption) ?_
  rotate_left 1
  · intro wx hSw
    go_simp <;> with_reducible rfl
  simp only [Act.put, List.getElem_toArray, List.getElem_cons_zero, List.getElem_cons_succ, List.setIfInBounds_toArray, List.set_cons_zero, List.set_cons_succ]
  refine Go.wpAnyH_take (i := 23) (oi := _) (v := ?_) rfl (by kernel_rfl) (by kernel_rfl) (by kernel_rfl) (fun _ _ _ h => h) (Or.inl ⟨by rfl, ?_⟩) (by assumption) ?_
  rotate_left 1
  · intro wx hSw
    go_simp <;> with_reducible rfl
  simp only [Act.put, List.getElem_toArray, List.getElem_cons_zero, List.getElem_cons_succ, List.setIfInBounds_toArray, List.set_cons_zero, List.set_cons_succ]
  refine Go.wpAnyH_take (i := 24) (oi := _) (v := ?_) rfl (by kernel_rfl) (by kernel_rfl) (by kernel_rfl) (fun _ _ _ h => h) (Or.inl ⟨by rfl, ?_⟩) (by assumption) ?_
  rotate_left 1
  · intro wx hSw
    go_simp <;> with_reducible rfl
  simp only [Act.put, List.getElem_toArray, List.getElem_cons_zero, List.getElem_cons_succ, List.setIfInBounds_toArray, List.set_cons_zero, List.set_cons_succ]
  refine Go.wpAnyH_ready (rs := [25]) (by kernel_rfl) (by simp) ?_
  refine Go.AllReadyH.cons rfl (fun K hK => ?_) Go.AllReadyH.nil
  rw [if_pos (by rfl)]
  go_simp
  refine (cA.out _ (PM9Q.out _ hHeld.1.out)).mono ?_
  rintro e v25 ⟨rfl, q25⟩
  have g25 := Lib.hid (PM9st.out _ _ hHeld.1.out q25)

  refine hK.out _ _ (⟨g25, PM9see.out _ g25.out⟩) (fun hHeld => ?_)
  clear hK K
  refine Go.wpAnyH_take (i := 26) (oi := _) (v := ?_) rfl (by kernel_rfl) (by kernel_rfl) (by kernel_rfl) (fun _ _ _ h => h) (Or.inl ⟨by rfl, ?_⟩) (by assumption) ?_
  rotate_left 1
  · intro wx hSw
    go_simp <;> with_reducible rfl
  simp only [Act.put, List.getElem_toArray, List.getElem_cons_zero, List.getElem_cons_succ, List.setIfInBounds_toArray, List.set_cons_zero, List.set_cons_succ]
  refine Go.wpAnyH_take (i := 27) (oi := _) (v := ?_) rfl (by kernel_rfl) (by kernel_rfl) (by kernel_rfl) (fun _ _ _ h => h) (Or.inl ⟨by rfl, ?_⟩) (by assumption) ?_
  rotate_left 1
  · intro wx hSw
    go_simp <;> with_reducible rfl
  simp only [Act.put, List.getElem_toArray, List.getElem_cons_zero, List.getElem_cons_succ, List.setIfInBounds_toArray, List.set_cons_zero, List.set_cons_succ]
  refine Go.wpAnyH_done (by kernel_rfl) ?_ _
  have HE := Lib.hid hHeld.1.out
  clear hHeld
  go_wp2_with fail
  go_ret
  exact ⟨rfl, PM9Q.out _ HE.out⟩

end Go.Proofs.YtjmchjphdfbhiaaGreatDoor.val
