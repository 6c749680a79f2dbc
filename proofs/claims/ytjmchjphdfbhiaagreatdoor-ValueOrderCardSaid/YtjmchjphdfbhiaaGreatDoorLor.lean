/- The law ValueOrder. -/
import Derived.Test.YtjmchjphdfbhiaaGreatDoorVal
import Derived.Test.YtjmchjphdfbhiaaGreatDoorWva
import Derived.Test.YtjmchjphdfbhiaaGreatDoorWfx
namespace Go.Proofs.YtjmchjphdfbhiaaGreatDoor.val
open Go.RowKit
open Go.Proofs.YtjmchjphdfbhiaaGreatDoor
open Go.Proofs.YtjmchjphdfbhiaaGreatDoor.lit (Fx)
set_option maxRecDepth 100000 in
set_option maxHeartbeats 40000000 in
theorem orderLaw_any (a : V) (A3 : Option Addr) (k3 : Nat) (A4 : Option Addr) (k4 : Nat) (b : V) (B3 : Option Addr) (l3 : Nat) (B4 : Option Addr) (l4 : Nat) (c : V) (C3 : Option Addr) (m3 : Nat) (C4 : Option Addr) (m4 : Nat) (w : World) (ha : Va a A3 k3 A4 k4 w) (hb : Va b B3 l3 B4 l4 w) (hc : Va c C3 m3 C4 m4 w) (f : Fx w) :
    Calls Tryz.prog 7 #[vv a A3 k3 A4 k4, vv b B3 l3 B4 l4, vv c C3 m3 C4 m4] w fun e w' => e = .returned (.bool true) ∧ Q w w' := by
  have cA := Lib.hid (fun w' (q : Q w w') => awake_any w' (q.fx f))
  have cVal : Hid (∀ w' D, Q w w' → Bk D #[.int .i64 a.kind, .int .i64 a.num, .string a.str, .slice A3 a.items.length k3, .slice A4 a.keys.length k4, .int .i64 b.kind, .int .i64 b.num, .string b.str, .slice B3 b.items.length l3, .slice B4 b.keys.length l4, .int .i64 c.kind, .int .i64 c.num, .string c.str, .slice C3 c.items.length m3, .slice C4 c.keys.length m4] 26 w' → Calls Tryz.prog 33 #[.slice (some ⟨D, 0, none⟩) 3 3] w' fun e w'' => e = .returned (.bool ([a, b, c].all okV)) ∧ Q w' w'') := Lib.hid (fun w' D q hD => valid_law [a, b, c] _ 3 3 w' ⟨_, 3, rfl, Nat.le_refl _, fun _ => ⟨D, 0, rfl, by
    rw [VL_cons, VL_cons, VL_cons]
    exact ⟨⟨_, _, _, _, _, hD.at 0 _ rfl, hD.at 1 _ rfl, hD.at 2 _ rfl, hD.at 3 _ rfl, hD.at 4 _ rfl, Vi.of (ha.1.stays q) (ha.2.1.stays q)⟩, ⟨_, _, _, _, _, hD.at 5 _ rfl, hD.at 6 _ rfl, hD.at 7 _ rfl, hD.at 8 _ rfl, hD.at 9 _ rfl, Vi.of (hb.1.stays q) (hb.2.1.stays q)⟩, ⟨_, _, _, _, _, hD.at 10 _ rfl, hD.at 11 _ rfl, hD.at 12 _ rfl, hD.at 13 _ rfl, hD.at 14 _ rfl, Vi.of (hc.1.stays q) (hc.2.1.stays q)⟩, VL_nil _ _ _⟩⟩⟩ ((WfL_cons _ _).2 ⟨ha.2.2, (WfL_cons _ _).2 ⟨hb.2.2, (WfL_cons _ _).2 ⟨hc.2.2, WfL_nil⟩⟩⟩) (by decide))
  unfold vv
  by_cases hall : [a, b, c].all okV = true
  rotate_left 1
  · rw [Bool.not_eq_true] at hall
    rw [hall] at cVal
    clear hall
    obtain ⟨ak, eak⟩ : ∃ x, a.kind = x := ⟨_, rfl⟩
    obtain ⟨an, ean⟩ : ∃ x, a.num = x := ⟨_, rfl⟩
    obtain ⟨as', eas_⟩ : ∃ x, a.str = x := ⟨_, rfl⟩
    obtain ⟨an3, ean3⟩ : ∃ x, a.items.length = x := ⟨_, rfl⟩
    obtain ⟨an4, ean4⟩ : ∃ x, a.keys.length = x := ⟨_, rfl⟩
    obtain ⟨bk, ebk⟩ : ∃ x, b.kind = x := ⟨_, rfl⟩
    obtain ⟨bn, ebn⟩ : ∃ x, b.num = x := ⟨_, rfl⟩
    obtain ⟨bs, ebs⟩ : ∃ x, b.str = x := ⟨_, rfl⟩
    obtain ⟨bn3, ebn3⟩ : ∃ x, b.items.length = x := ⟨_, rfl⟩
    obtain ⟨bn4, ebn4⟩ : ∃ x, b.keys.length = x := ⟨_, rfl⟩
    obtain ⟨ck, eck⟩ : ∃ x, c.kind = x := ⟨_, rfl⟩
    obtain ⟨cn, ecn⟩ : ∃ x, c.num = x := ⟨_, rfl⟩
    obtain ⟨cs, ecs⟩ : ∃ x, c.str = x := ⟨_, rfl⟩
    obtain ⟨cn3, ecn3⟩ : ∃ x, c.items.length = x := ⟨_, rfl⟩
    obtain ⟨cn4, ecn4⟩ : ∃ x, c.keys.length = x := ⟨_, rfl⟩
    rw [eak, ean, eas_, ean3, ean4] at cVal
    rw [eak, ean, eas_, ean3, ean4] at ⊢
    rw [ebk, ebn, ebs, ebn3, ebn4] at cVal
    rw [ebk, ebn, ebs, ebn3, ebn4] at ⊢
    rw [eck, ecn, ecs, ecn3, ecn4] at cVal
    rw [eck, ecn, ecs, ecn3, ecn4] at ⊢
    clear ha hb hc
    obtain ⟨P1, hP1⟩ : ∃ x, w.heap.size = x := ⟨_, rfl⟩
    obtain ⟨wb1, hwb1⟩ : ∃ x, w.alloc (.cells #[.int .i64 ak, .int .i64 an, .string as', .slice A3 an3 k3, .slice A4 an4 k4] 26) = x := ⟨_, rfl⟩
    have qb1 : Q w wb1 := by rw [← hwb1]; exact Q.box _ _
    have bb1 : Bk P1 #[.int .i64 ak, .int .i64 an, .string as', .slice A3 an3 k3, .slice A4 an4 k4] 26 wb1 := by rw [← hwb1, ← hP1]; exact Bk.new _ _ _
    obtain ⟨P2, hP2⟩ : ∃ x, wb1.heap.size = x := ⟨_, rfl⟩
    obtain ⟨wb2, hwb2⟩ : ∃ x, wb1.alloc (.cells #[.int .i64 bk, .int .i64 bn, .string bs, .slice B3 bn3 l3, .slice B4 bn4 l4] 26) = x := ⟨_, rfl⟩
    have qb2 : Q wb1 wb2 := by rw [← hwb2]; exact Q.box _ _
    have bb2 : Bk P2 #[.int .i64 bk, .int .i64 bn, .string bs, .slice B3 bn3 l3, .slice B4 bn4 l4] 26 wb2 := by rw [← hwb2, ← hP2]; exact Bk.new _ _ _
    obtain ⟨P3, hP3⟩ : ∃ x, wb2.heap.size = x := ⟨_, rfl⟩
    obtain ⟨wb3, hwb3⟩ : ∃ x, wb2.alloc (.cells #[.int .i64 ck, .int .i64 cn, .string cs, .slice C3 cn3 m3, .slice C4 cn4 m4] 26) = x := ⟨_, rfl⟩
    have qb3 : Q wb2 wb3 := by rw [← hwb3]; exact Q.box _ _
    have bb3 : Bk P3 #[.int .i64 ck, .int .i64 cn, .string cs, .slice C3 cn3 m3, .slice C4 cn4 m4] 26 wb3 := by rw [← hwb3, ← hP3]; exact Bk.new _ _ _
    obtain ⟨L, hL⟩ : ∃ L : World → Prop, L = fun w' => Q w w' ∧ Bk P1 #[.int .i64 ak, .int .i64 an, .string as', .slice A3 an3 k3, .slice A4 an4 k4] 26 w' ∧ Bk P2 #[.int .i64 bk, .int .i64 bn, .string bs, .slice B3 bn3 l3, .slice B4 bn4 l4] 26 w' ∧ Bk P3 #[.int .i64 ck, .int .i64 cn, .string cs, .slice C3 cn3 m3, .slice C4 cn4 m4] 26 w' := ⟨_, rfl⟩
    have L0 : Hid (L wb3) := Lib.hid (by rw [hL]; exact ⟨((qb1).trans qb2).trans qb3, ((bb1).stays qb2).stays qb3, (bb2).stays qb3, bb3⟩)
    have stays : Hid (∀ w' w'', L w' → Q w' w'' → L w'') := Lib.hid (fun w' w'' h q => by rw [hL] at h ⊢; exact ⟨h.1.trans q, (h.2.1).stays q, (h.2.2.1).stays q, (h.2.2.2).stays q⟩)
    have LQ : Hid (∀ w', L w' → Q w w') := Lib.hid (fun w' h => by rw [hL] at h; exact h.1)
    have seen : Hid (∀ w', L w' → Hid (L w') ∧ w'.cell? ⟨P1, 0, none⟩ = some (.int .i64 ak) ∧ w'.cell? ⟨P1, 1, none⟩ = some (.int .i64 an) ∧ w'.cell? ⟨P1, 2, none⟩ = some (.string as') ∧ w'.cell? ⟨P1, 3, none⟩ = some (.slice A3 an3 k3) ∧ w'.cell? ⟨P1, 4, none⟩ = some (.slice A4 an4 k4) ∧ w'.cell? ⟨P2, 0, none⟩ = some (.int .i64 bk) ∧ w'.cell? ⟨P2, 1, none⟩ = some (.int .i64 bn) ∧ w'.cell? ⟨P2, 2, none⟩ = some (.string bs) ∧ w'.cell? ⟨P2, 3, none⟩ = some (.slice B3 bn3 l3) ∧ w'.cell? ⟨P2, 4, none⟩ = some (.slice B4 bn4 l4) ∧ w'.cell? ⟨P3, 0, none⟩ = some (.int .i64 ck) ∧ w'.cell? ⟨P3, 1, none⟩ = some (.int .i64 cn) ∧ w'.cell? ⟨P3, 2, none⟩ = some (.string cs) ∧ w'.cell? ⟨P3, 3, none⟩ = some (.slice C3 cn3 m3) ∧ w'.cell? ⟨P3, 4, none⟩ = some (.slice C4 cn4 m4)) := Lib.hid (fun w' h => ⟨Lib.hid h, by rw [hL] at h; exact ⟨(h.2.1).at 0 _ rfl, (h.2.1).at 1 _ rfl, (h.2.1).at 2 _ rfl, (h.2.1).at 3 _ rfl, (h.2.1).at 4 _ rfl, (h.2.2.1).at 0 _ rfl, (h.2.2.1).at 1 _ rfl, (h.2.2.1).at 2 _ rfl, (h.2.2.1).at 3 _ rfl, (h.2.2.1).at 4 _ rfl, (h.2.2.2).at 0 _ rfl, (h.2.2.2).at 1 _ rfl, (h.2.2.2).at 2 _ rfl, (h.2.2.2).at 3 _ rfl, (h.2.2.2).at 4 _ rfl⟩⟩)
    clear hL qb1 bb1 qb2 bb2 qb3 bb3
    obtain ⟨-, x0, x1, x2, x3, x4, x5, x6, x7, x8, x9, x10, x11, x12, x13, x14⟩ := seen.out _ L0.out
    obtain ⟨D, hD⟩ : ∃ x, wb3.heap.size = x := ⟨_, rfl⟩
    obtain ⟨wd, hwd⟩ : ∃ x, wb3.alloc (.cells #[.int .i64 ak, .int .i64 an, .string as', .slice A3 an3 k3, .slice A4 an4 k4, .int .i64 bk, .int .i64 bn, .string bs, .slice B3 bn3 l3, .slice B4 bn4 l4, .int .i64 ck, .int .i64 cn, .string cs, .slice C3 cn3 m3, .slice C4 cn4 m4] 26) = x := ⟨_, rfl⟩
    have LD : Hid (L wd) := Lib.hid (by rw [← hwd]; exact stays.out _ _ L0.out (Q.box _ _))
    have cVd := Lib.hid (cVal.out wd D (LQ.out _ LD.out) (by rw [← hwd, ← hD]; exact Bk.new _ _ _))
    go_enter Tryz.func7, Tryz.ntmps7
    go_wp2_with fail
    refine (cVd.out).mono ?_
    rintro e w_1 ⟨rfl, q1⟩
    have H1 := Lib.hid (stays.out _ _ LD.out q1)
    clear x0 x1 x2 x3 x4 x5 x6 x7 x8 x9 x10 x11 x12 x13 x14 q1 hwd hD
    obtain ⟨-, x0, x1, x2, x3, x4, x5, x6, x7, x8, x9, x10, x11, x12, x13, x14⟩ := seen.out _ H1.out
    go_wp2_with fail
    refine (cA.out _ (LQ.out _ H1.out)).mono ?_
    rintro e wz ⟨rfl, qz⟩
    clear x0 x1 x2 x3 x4 x5 x6 x7 x8 x9 x10 x11 x12 x13 x14
    go_wp2_with fail
    go_ret
    exact ⟨rfl, (LQ.out _ H1.out).trans qz⟩
  rw [hall] at cVal
  simp only [List.all_cons, List.all_nil, Bool.and_true, Bool.and_eq_true] at hall
  obtain ⟨oa, ob, oc⟩ := hall
  obtain ⟨na, ca, sa⟩ := okV_says oa
  obtain ⟨nb, cb, sb⟩ := okV_says ob
  obtain ⟨nc, cc, sc⟩ := okV_says oc
  have rab : Hid (∀ w', Q w w' → Calls Tryz.prog 35 #[.agg #[.int .i64 a.kind, .int .i64 a.num, .string a.str, .slice A3 a.items.length k3, .slice A4 a.keys.length k4], .agg #[.int .i64 b.kind, .int .i64 b.num, .string b.str, .slice B3 b.items.length l3, .slice B4 b.keys.length l4]] w' fun e w'' => e = .returned (.int .i64 (cV a b)) ∧ Q w' w'') := Lib.hid (fun w' q => compare_any a b _ _ _ _ w' w q ⟨ha.1, ha.2.1, ha.2.2⟩ ⟨hb.1, hb.2.1, hb.2.2⟩ sa sb (by omega))
  have rbc : Hid (∀ w', Q w w' → Calls Tryz.prog 35 #[.agg #[.int .i64 b.kind, .int .i64 b.num, .string b.str, .slice B3 b.items.length l3, .slice B4 b.keys.length l4], .agg #[.int .i64 c.kind, .int .i64 c.num, .string c.str, .slice C3 c.items.length m3, .slice C4 c.keys.length m4]] w' fun e w'' => e = .returned (.int .i64 (cV b c)) ∧ Q w' w'') := Lib.hid (fun w' q => compare_any b c _ _ _ _ w' w q ⟨hb.1, hb.2.1, hb.2.2⟩ ⟨hc.1, hc.2.1, hc.2.2⟩ sb sc (by omega))
  have rba : Hid (∀ w', Q w w' → Calls Tryz.prog 35 #[.agg #[.int .i64 b.kind, .int .i64 b.num, .string b.str, .slice B3 b.items.length l3, .slice B4 b.keys.length l4], .agg #[.int .i64 a.kind, .int .i64 a.num, .string a.str, .slice A3 a.items.length k3, .slice A4 a.keys.length k4]] w' fun e w'' => e = .returned (.int .i64 (cV b a)) ∧ Q w' w'') := Lib.hid (fun w' q => compare_any b a _ _ _ _ w' w q ⟨hb.1, hb.2.1, hb.2.2⟩ ⟨ha.1, ha.2.1, ha.2.2⟩ sb sa (by omega))
  have raa : Hid (∀ w', Q w w' → Calls Tryz.prog 35 #[.agg #[.int .i64 a.kind, .int .i64 a.num, .string a.str, .slice A3 a.items.length k3, .slice A4 a.keys.length k4], .agg #[.int .i64 a.kind, .int .i64 a.num, .string a.str, .slice A3 a.items.length k3, .slice A4 a.keys.length k4]] w' fun e w'' => e = .returned (.int .i64 (cV a a)) ∧ Q w' w'') := Lib.hid (fun w' q => compare_any a a _ _ _ _ w' w q ⟨ha.1, ha.2.1, ha.2.2⟩ ⟨ha.1, ha.2.1, ha.2.2⟩ sa sa (by omega))
  have rac : Hid (∀ w', Q w w' → Calls Tryz.prog 35 #[.agg #[.int .i64 a.kind, .int .i64 a.num, .string a.str, .slice A3 a.items.length k3, .slice A4 a.keys.length k4], .agg #[.int .i64 c.kind, .int .i64 c.num, .string c.str, .slice C3 c.items.length m3, .slice C4 c.keys.length m4]] w' fun e w'' => e = .returned (.int .i64 (cV a c)) ∧ Q w' w'') := Lib.hid (fun w' q => compare_any a c _ _ _ _ w' w q ⟨ha.1, ha.2.1, ha.2.2⟩ ⟨hc.1, hc.2.1, hc.2.2⟩ sa sc (by omega))
  have qab : Hid (∀ w', Q w w' → Calls Tryz.prog 34 #[.agg #[.int .i64 a.kind, .int .i64 a.num, .string a.str, .slice A3 a.items.length k3, .slice A4 a.keys.length k4], .agg #[.int .i64 b.kind, .int .i64 b.num, .string b.str, .slice B3 b.items.length l3, .slice B4 b.keys.length l4]] w' fun e w'' => e = .returned (.bool (decide (cV a b = 0))) ∧ Q w' w'') := Lib.hid (fun w' q => equal_any a b _ _ _ _ w' w q ⟨ha.1, ha.2.1, ha.2.2⟩ ⟨hb.1, hb.2.1, hb.2.2⟩ sa sb (by omega))
  have qaa : Hid (∀ w', Q w w' → Calls Tryz.prog 34 #[.agg #[.int .i64 a.kind, .int .i64 a.num, .string a.str, .slice A3 a.items.length k3, .slice A4 a.keys.length k4], .agg #[.int .i64 a.kind, .int .i64 a.num, .string a.str, .slice A3 a.items.length k3, .slice A4 a.keys.length k4]] w' fun e w'' => e = .returned (.bool (decide (cV a a = 0))) ∧ Q w' w'') := Lib.hid (fun w' q => equal_any a a _ _ _ _ w' w q ⟨ha.1, ha.2.1, ha.2.2⟩ ⟨ha.1, ha.2.1, ha.2.2⟩ sa sa (by omega))
  have t1 := cV_two.1 a b sa sb
  have t2 := cV_two.1 b c sb sc
  have t3 := cV_two.1 a c sa sc
  have t4 : cV a a = 0 := (cV_two.1 a a sa sa).1.2 rfl
  have t5 := cV_three.1 a b c sa sb sc
  have t6 : cV a b ≤ 0 → cV b c ≤ 0 → (cV a b < 0 ∨ cV b c < 0 → cV a c = -1) ∧ (cV a b = 0 → cV b c = 0 → cV a c = 0) := by
    intro h1 h2
    have h3 := t5 h1 h2
    refine ⟨fun h => ?_, fun h h' => ?_⟩
    · have hne : ¬ cV a c = 0 := by
        intro h0
        have e := t3.1.1 h0
        subst e
        have := t1.2.1
        omega
      omega
    · have e1 := t1.1.1 h
      have e2 := t2.1.1 h'
      rw [e1, e2]
      exact (cV_two.1 c c sc sc).1.2 rfl
  rw [t4] at raa qaa
  rw [show decide ((0 : Int) = 0) = true from rfl] at qaa
  have t7 : cV b a = - cV a b := t1.2.1
  obtain ⟨x, hx⟩ : ∃ x, cV a b = x := ⟨_, rfl⟩
  obtain ⟨y, hy⟩ : ∃ x, cV b c = x := ⟨_, rfl⟩
  obtain ⟨z, hz⟩ : ∃ x, cV a c = x := ⟨_, rfl⟩
  rw [hx] at rab qab
  rw [hy] at rbc
  rw [t7, hx] at rba
  rw [hz] at rac
  have hxc : x = -1 ∨ x = 0 ∨ x = 1 := by omega
  have hyc : y = -1 ∨ y = 0 ∨ y = 1 := by omega
  have hzc : Hid (x ≤ 0 → y ≤ 0 → (x < 0 ∨ y < 0 → z = -1) ∧ (x = 0 → y = 0 → z = 0)) := Lib.hid (by rw [← hx, ← hy, ← hz]; exact t6)
  clear t1 t2 t3 t4 t5 t6 t7 hx hy hz oa ob oc na nb nc ca cb cc sa sb sc
  obtain ⟨ak, eak⟩ : ∃ x, a.kind = x := ⟨_, rfl⟩
  obtain ⟨an, ean⟩ : ∃ x, a.num = x := ⟨_, rfl⟩
  obtain ⟨as', eas_⟩ : ∃ x, a.str = x := ⟨_, rfl⟩
  obtain ⟨an3, ean3⟩ : ∃ x, a.items.length = x := ⟨_, rfl⟩
  obtain ⟨an4, ean4⟩ : ∃ x, a.keys.length = x := ⟨_, rfl⟩
  obtain ⟨bk, ebk⟩ : ∃ x, b.kind = x := ⟨_, rfl⟩
  obtain ⟨bn, ebn⟩ : ∃ x, b.num = x := ⟨_, rfl⟩
  obtain ⟨bs, ebs⟩ : ∃ x, b.str = x := ⟨_, rfl⟩
  obtain ⟨bn3, ebn3⟩ : ∃ x, b.items.length = x := ⟨_, rfl⟩
  obtain ⟨bn4, ebn4⟩ : ∃ x, b.keys.length = x := ⟨_, rfl⟩
  obtain ⟨ck, eck⟩ : ∃ x, c.kind = x := ⟨_, rfl⟩
  obtain ⟨cn, ecn⟩ : ∃ x, c.num = x := ⟨_, rfl⟩
  obtain ⟨cs, ecs⟩ : ∃ x, c.str = x := ⟨_, rfl⟩
  obtain ⟨cn3, ecn3⟩ : ∃ x, c.items.length = x := ⟨_, rfl⟩
  obtain ⟨cn4, ecn4⟩ : ∃ x, c.keys.length = x := ⟨_, rfl⟩
  rw [eak, ean, eas_, ean3, ean4] at cVal
  rw [eak, ean, eas_, ean3, ean4] at rab
  rw [eak, ean, eas_, ean3, ean4] at rba
  rw [eak, ean, eas_, ean3, ean4] at raa
  rw [eak, ean, eas_, ean3, ean4] at rac
  rw [eak, ean, eas_, ean3, ean4] at qab
  rw [eak, ean, eas_, ean3, ean4] at qaa
  rw [eak, ean, eas_, ean3, ean4] at ⊢
  rw [ebk, ebn, ebs, ebn3, ebn4] at cVal
  rw [ebk, ebn, ebs, ebn3, ebn4] at rab
  rw [ebk, ebn, ebs, ebn3, ebn4] at rbc
  rw [ebk, ebn, ebs, ebn3, ebn4] at rba
  rw [ebk, ebn, ebs, ebn3, ebn4] at qab
  rw [ebk, ebn, ebs, ebn3, ebn4] at ⊢
  rw [eck, ecn, ecs, ecn3, ecn4] at cVal
  rw [eck, ecn, ecs, ecn3, ecn4] at rbc
  rw [eck, ecn, ecs, ecn3, ecn4] at rac
  rw [eck, ecn, ecs, ecn3, ecn4] at ⊢
  clear ha hb hc f
  obtain ⟨P1, hP1⟩ : ∃ x, w.heap.size = x := ⟨_, rfl⟩
  obtain ⟨wb1, hwb1⟩ : ∃ x, w.alloc (.cells #[.int .i64 ak, .int .i64 an, .string as', .slice A3 an3 k3, .slice A4 an4 k4] 26) = x := ⟨_, rfl⟩
  have qb1 : Q w wb1 := by rw [← hwb1]; exact Q.box _ _
  have bb1 : Bk P1 #[.int .i64 ak, .int .i64 an, .string as', .slice A3 an3 k3, .slice A4 an4 k4] 26 wb1 := by rw [← hwb1, ← hP1]; exact Bk.new _ _ _
  obtain ⟨P2, hP2⟩ : ∃ x, wb1.heap.size = x := ⟨_, rfl⟩
  obtain ⟨wb2, hwb2⟩ : ∃ x, wb1.alloc (.cells #[.int .i64 bk, .int .i64 bn, .string bs, .slice B3 bn3 l3, .slice B4 bn4 l4] 26) = x := ⟨_, rfl⟩
  have qb2 : Q wb1 wb2 := by rw [← hwb2]; exact Q.box _ _
  have bb2 : Bk P2 #[.int .i64 bk, .int .i64 bn, .string bs, .slice B3 bn3 l3, .slice B4 bn4 l4] 26 wb2 := by rw [← hwb2, ← hP2]; exact Bk.new _ _ _
  obtain ⟨P3, hP3⟩ : ∃ x, wb2.heap.size = x := ⟨_, rfl⟩
  obtain ⟨wb3, hwb3⟩ : ∃ x, wb2.alloc (.cells #[.int .i64 ck, .int .i64 cn, .string cs, .slice C3 cn3 m3, .slice C4 cn4 m4] 26) = x := ⟨_, rfl⟩
  have qb3 : Q wb2 wb3 := by rw [← hwb3]; exact Q.box _ _
  have bb3 : Bk P3 #[.int .i64 ck, .int .i64 cn, .string cs, .slice C3 cn3 m3, .slice C4 cn4 m4] 26 wb3 := by rw [← hwb3, ← hP3]; exact Bk.new _ _ _
  obtain ⟨L, hL⟩ : ∃ L : World → Prop, L = fun w' => Q w w' ∧ Bk P1 #[.int .i64 ak, .int .i64 an, .string as', .slice A3 an3 k3, .slice A4 an4 k4] 26 w' ∧ Bk P2 #[.int .i64 bk, .int .i64 bn, .string bs, .slice B3 bn3 l3, .slice B4 bn4 l4] 26 w' ∧ Bk P3 #[.int .i64 ck, .int .i64 cn, .string cs, .slice C3 cn3 m3, .slice C4 cn4 m4] 26 w' := ⟨_, rfl⟩
  have L0 : Hid (L wb3) := Lib.hid (by rw [hL]; exact ⟨((qb1).trans qb2).trans qb3, ((bb1).stays qb2).stays qb3, (bb2).stays qb3, bb3⟩)
  have stays : Hid (∀ w' w'', L w' → Q w' w'' → L w'') := Lib.hid (fun w' w'' h q => by rw [hL] at h ⊢; exact ⟨h.1.trans q, (h.2.1).stays q, (h.2.2.1).stays q, (h.2.2.2).stays q⟩)
  have LQ : Hid (∀ w', L w' → Q w w') := Lib.hid (fun w' h => by rw [hL] at h; exact h.1)
  have seen : Hid (∀ w', L w' → Hid (L w') ∧ w'.cell? ⟨P1, 0, none⟩ = some (.int .i64 ak) ∧ w'.cell? ⟨P1, 1, none⟩ = some (.int .i64 an) ∧ w'.cell? ⟨P1, 2, none⟩ = some (.string as') ∧ w'.cell? ⟨P1, 3, none⟩ = some (.slice A3 an3 k3) ∧ w'.cell? ⟨P1, 4, none⟩ = some (.slice A4 an4 k4) ∧ w'.cell? ⟨P2, 0, none⟩ = some (.int .i64 bk) ∧ w'.cell? ⟨P2, 1, none⟩ = some (.int .i64 bn) ∧ w'.cell? ⟨P2, 2, none⟩ = some (.string bs) ∧ w'.cell? ⟨P2, 3, none⟩ = some (.slice B3 bn3 l3) ∧ w'.cell? ⟨P2, 4, none⟩ = some (.slice B4 bn4 l4) ∧ w'.cell? ⟨P3, 0, none⟩ = some (.int .i64 ck) ∧ w'.cell? ⟨P3, 1, none⟩ = some (.int .i64 cn) ∧ w'.cell? ⟨P3, 2, none⟩ = some (.string cs) ∧ w'.cell? ⟨P3, 3, none⟩ = some (.slice C3 cn3 m3) ∧ w'.cell? ⟨P3, 4, none⟩ = some (.slice C4 cn4 m4)) := Lib.hid (fun w' h => ⟨Lib.hid h, by rw [hL] at h; exact ⟨(h.2.1).at 0 _ rfl, (h.2.1).at 1 _ rfl, (h.2.1).at 2 _ rfl, (h.2.1).at 3 _ rfl, (h.2.1).at 4 _ rfl, (h.2.2.1).at 0 _ rfl, (h.2.2.1).at 1 _ rfl, (h.2.2.1).at 2 _ rfl, (h.2.2.1).at 3 _ rfl, (h.2.2.1).at 4 _ rfl, (h.2.2.2).at 0 _ rfl, (h.2.2.2).at 1 _ rfl, (h.2.2.2).at 2 _ rfl, (h.2.2.2).at 3 _ rfl, (h.2.2.2).at 4 _ rfl⟩⟩)
  clear hL qb1 bb1 qb2 bb2 qb3 bb3
  obtain ⟨-, x0, x1, x2, x3, x4, x5, x6, x7, x8, x9, x10, x11, x12, x13, x14⟩ := seen.out _ L0.out
  have kab : Hid (∀ w', L w' → Calls Tryz.prog 35 #[.agg #[.int .i64 ak, .int .i64 an, .string as', .slice A3 an3 k3, .slice A4 an4 k4], .agg #[.int .i64 bk, .int .i64 bn, .string bs, .slice B3 bn3 l3, .slice B4 bn4 l4]] w' fun e w'' => e = .returned (.int .i64 x) ∧ L w'') := Lib.hid (fun w' h => (rab.out w' (LQ.out _ h)).mono fun _ _ g => ⟨g.1, stays.out _ _ h g.2⟩)
  have kbc : Hid (∀ w', L w' → Calls Tryz.prog 35 #[.agg #[.int .i64 bk, .int .i64 bn, .string bs, .slice B3 bn3 l3, .slice B4 bn4 l4], .agg #[.int .i64 ck, .int .i64 cn, .string cs, .slice C3 cn3 m3, .slice C4 cn4 m4]] w' fun e w'' => e = .returned (.int .i64 y) ∧ L w'') := Lib.hid (fun w' h => (rbc.out w' (LQ.out _ h)).mono fun _ _ g => ⟨g.1, stays.out _ _ h g.2⟩)
  have kba : Hid (∀ w', L w' → Calls Tryz.prog 35 #[.agg #[.int .i64 bk, .int .i64 bn, .string bs, .slice B3 bn3 l3, .slice B4 bn4 l4], .agg #[.int .i64 ak, .int .i64 an, .string as', .slice A3 an3 k3, .slice A4 an4 k4]] w' fun e w'' => e = .returned (.int .i64 (-x)) ∧ L w'') := Lib.hid (fun w' h => (rba.out w' (LQ.out _ h)).mono fun _ _ g => ⟨g.1, stays.out _ _ h g.2⟩)
  have kaa : Hid (∀ w', L w' → Calls Tryz.prog 35 #[.agg #[.int .i64 ak, .int .i64 an, .string as', .slice A3 an3 k3, .slice A4 an4 k4], .agg #[.int .i64 ak, .int .i64 an, .string as', .slice A3 an3 k3, .slice A4 an4 k4]] w' fun e w'' => e = .returned (.int .i64 0) ∧ L w'') := Lib.hid (fun w' h => (raa.out w' (LQ.out _ h)).mono fun _ _ g => ⟨g.1, stays.out _ _ h g.2⟩)
  have kac : Hid (∀ w', L w' → Calls Tryz.prog 35 #[.agg #[.int .i64 ak, .int .i64 an, .string as', .slice A3 an3 k3, .slice A4 an4 k4], .agg #[.int .i64 ck, .int .i64 cn, .string cs, .slice C3 cn3 m3, .slice C4 cn4 m4]] w' fun e w'' => e = .returned (.int .i64 z) ∧ L w'') := Lib.hid (fun w' h => (rac.out w' (LQ.out _ h)).mono fun _ _ g => ⟨g.1, stays.out _ _ h g.2⟩)
  have eab : Hid (∀ w', L w' → Calls Tryz.prog 34 #[.agg #[.int .i64 ak, .int .i64 an, .string as', .slice A3 an3 k3, .slice A4 an4 k4], .agg #[.int .i64 bk, .int .i64 bn, .string bs, .slice B3 bn3 l3, .slice B4 bn4 l4]] w' fun e w'' => e = .returned (.bool (decide (x = 0))) ∧ L w'') := Lib.hid (fun w' h => (qab.out w' (LQ.out _ h)).mono fun _ _ g => ⟨g.1, stays.out _ _ h g.2⟩)
  have eaa : Hid (∀ w', L w' → Calls Tryz.prog 34 #[.agg #[.int .i64 ak, .int .i64 an, .string as', .slice A3 an3 k3, .slice A4 an4 k4], .agg #[.int .i64 ak, .int .i64 an, .string as', .slice A3 an3 k3, .slice A4 an4 k4]] w' fun e w'' => e = .returned (.bool true) ∧ L w'') := Lib.hid (fun w' h => (qaa.out w' (LQ.out _ h)).mono fun _ _ g => ⟨g.1, stays.out _ _ h g.2⟩)
  clear rab rbc rba raa rac qab qaa
  rcases hxc with rfl | rfl | rfl
  · rcases hyc with rfl | rfl | rfl
    · obtain rfl : z = -1 := by have h := hzc.out (by decide) (by decide); first | exact h.1 (by decide) | exact h.2 rfl rfl
      clear hzc
      rw [show decide ((-1 : Int) = 0) = false from rfl] at eab
      rw [show (-(-1 : Int)) = 1 from rfl] at kba
      obtain ⟨D, hD⟩ : ∃ x, wb3.heap.size = x := ⟨_, rfl⟩
      obtain ⟨wd, hwd⟩ : ∃ x, wb3.alloc (.cells #[.int .i64 ak, .int .i64 an, .string as', .slice A3 an3 k3, .slice A4 an4 k4, .int .i64 bk, .int .i64 bn, .string bs, .slice B3 bn3 l3, .slice B4 bn4 l4, .int .i64 ck, .int .i64 cn, .string cs, .slice C3 cn3 m3, .slice C4 cn4 m4] 26) = x := ⟨_, rfl⟩
      have LD : Hid (L wd) := Lib.hid (by rw [← hwd]; exact stays.out _ _ L0.out (Q.box _ _))
      have cVd := Lib.hid (cVal.out wd D (LQ.out _ LD.out) (by rw [← hwd, ← hD]; exact Bk.new _ _ _))
      go_enter Tryz.func7, Tryz.ntmps7
      go_wp2_with fail
      refine (cVd.out).mono ?_
      rintro e w_1 ⟨rfl, q1⟩
      have H1 := Lib.hid (stays.out _ _ LD.out q1)
      clear x0 x1 x2 x3 x4 x5 x6 x7 x8 x9 x10 x11 x12 x13 x14 q1 hwd hD
      obtain ⟨-, x0, x1, x2, x3, x4, x5, x6, x7, x8, x9, x10, x11, x12, x13, x14⟩ := seen.out _ H1.out
      go_wp2_with fail
      clear x0 x1 x2 x3 x4 x5 x6 x7 x8 x9 x10 x11 x12 x13 x14
      refine Go.wp_region_held_drew (S := (fun w' => Hid (L w') ∧ w'.cell? ⟨P1, 0, none⟩ = some (.int .i64 ak) ∧ w'.cell? ⟨P1, 1, none⟩ = some (.int .i64 an) ∧ w'.cell? ⟨P1, 2, none⟩ = some (.string as') ∧ w'.cell? ⟨P1, 3, none⟩ = some (.slice A3 an3 k3) ∧ w'.cell? ⟨P1, 4, none⟩ = some (.slice A4 an4 k4) ∧ w'.cell? ⟨P2, 0, none⟩ = some (.int .i64 bk) ∧ w'.cell? ⟨P2, 1, none⟩ = some (.int .i64 bn) ∧ w'.cell? ⟨P2, 2, none⟩ = some (.string bs) ∧ w'.cell? ⟨P2, 3, none⟩ = some (.slice B3 bn3 l3) ∧ w'.cell? ⟨P2, 4, none⟩ = some (.slice B4 bn4 l4) ∧ w'.cell? ⟨P3, 0, none⟩ = some (.int .i64 ck) ∧ w'.cell? ⟨P3, 1, none⟩ = some (.int .i64 cn) ∧ w'.cell? ⟨P3, 2, none⟩ = some (.string cs) ∧ w'.cell? ⟨P3, 3, none⟩ = some (.slice C3 cn3 m3) ∧ w'.cell? ⟨P3, 4, none⟩ = some (.slice C4 cn4 m4))) (by kernel_rfl) (seen.out _ (stays.out _ _ H1.out (Q.drewN _ 1))) (fun hHeld => ?_)
      refine Go.wpAnyH_take (i := 0) (oi := _) (v := ?_) rfl (by kernel_rfl) (by kernel_rfl) (by kernel_rfl) (fun _ _ _ h => h) (Or.inl ⟨by rfl, ?_⟩) (by assumption) ?_
      rotate_left 1
      · intro wx hSw
        go_simp <;> with_reducible rfl
      simp only [Act.put, List.getElem_toArray, List.getElem_cons_zero, List.setIfInBounds_toArray, List.set_cons_zero, List.set_cons_succ]
      refine Go.wpAnyH_take (i := 1) (oi := _) (v := ?_) rfl (by kernel_rfl) (by kernel_rfl) (by kernel_rfl) (fun _ _ _ h => h) (Or.inl ⟨by rfl, ?_⟩) (by assumption) ?_
      rotate_left 1
      · intro wx hSw
        go_simp <;> with_reducible rfl
      simp only [Act.put, List.getElem_toArray, List.getElem_cons_zero, List.getElem_cons_succ, List.setIfInBounds_toArray, List.set_cons_zero, List.set_cons_succ]
      refine Go.wpAnyH_take (i := 3) (oi := _) (v := ?_) rfl (by kernel_rfl) (by kernel_rfl) (by kernel_rfl) (fun _ _ _ h => h) (Or.inl ⟨by rfl, ?_⟩) (by assumption) ?_
      rotate_left 1
      · intro wx hSw
        go_simp <;> with_reducible rfl
      simp only [Act.put, List.getElem_toArray, List.getElem_cons_zero, List.getElem_cons_succ, List.setIfInBounds_toArray, List.set_cons_zero, List.set_cons_succ]
      refine Go.wpAnyH_take (i := 4) (oi := _) (v := ?_) rfl (by kernel_rfl) (by kernel_rfl) (by kernel_rfl) (fun _ _ _ h => h) (Or.inl ⟨by rfl, ?_⟩) (by assumption) ?_
      rotate_left 1
      · intro wx hSw
        go_simp <;> with_reducible rfl
      simp only [Act.put, List.getElem_toArray, List.getElem_cons_zero, List.getElem_cons_succ, List.setIfInBounds_toArray, List.set_cons_zero, List.set_cons_succ]
      refine Go.wpAnyH_ready (rs := [2]) (by kernel_rfl) (by simp) ?_
      refine Go.AllReadyH.cons rfl (fun K hK => ?_) Go.AllReadyH.nil
      rw [if_pos (by rfl)]
      go_simp
      refine (kab.out _ hHeld.1.out).mono ?_
      rintro e v2_2 ⟨rfl, g2_2⟩
      refine hK.out _ _ (seen.out _ g2_2) (fun hHeld => ?_)
      clear hK K
      refine Go.wpAnyH_ready (rs := [5]) (by kernel_rfl) (by simp) ?_
      refine Go.AllReadyH.cons rfl (fun K hK => ?_) Go.AllReadyH.nil
      rw [if_pos (by rfl)]
      go_simp
      refine (kbc.out _ hHeld.1.out).mono ?_
      rintro e v2_5 ⟨rfl, g2_5⟩
      refine hK.out _ _ (seen.out _ g2_5) (fun hHeld => ?_)
      clear hK K
      refine Go.wpAnyH_take (i := 6) (oi := _) (v := ?_) rfl (by kernel_rfl) (by kernel_rfl) (by kernel_rfl) (fun _ _ _ h => h) (Or.inl ⟨by rfl, ?_⟩) (by assumption) ?_
      rotate_left 1
      · intro wx hSw
        go_simp <;> with_reducible rfl
      simp only [Act.put, List.getElem_toArray, List.getElem_cons_zero, List.getElem_cons_succ, List.setIfInBounds_toArray, List.set_cons_zero, List.set_cons_succ]
      refine Go.wpAnyH_take (i := 7) (oi := _) (v := ?_) rfl (by kernel_rfl) (by kernel_rfl) (by kernel_rfl) (fun _ _ _ h => h) (Or.inl ⟨by rfl, ?_⟩) (by assumption) ?_
      rotate_left 1
      · intro wx hSw
        go_simp <;> with_reducible rfl
      simp only [Act.put, List.getElem_toArray, List.getElem_cons_zero, List.getElem_cons_succ, List.setIfInBounds_toArray, List.set_cons_zero, List.set_cons_succ]
      refine Go.wpAnyH_done (by kernel_rfl) ?_ _
      have H2 := Lib.hid hHeld.1.out
      obtain ⟨-, x0, x1, x2, x3, x4, x5, x6, x7, x8, x9, x10, x11, x12, x13, x14⟩ := hHeld
      go_wp2_with fail
      refine (kba.out _ H2.out).mono ?_
      rintro e w_3 ⟨rfl, h3⟩
      have H3 := Lib.hid h3
      clear x0 x1 x2 x3 x4 x5 x6 x7 x8 x9 x10 x11 x12 x13 x14 h3
      obtain ⟨-, x0, x1, x2, x3, x4, x5, x6, x7, x8, x9, x10, x11, x12, x13, x14⟩ := seen.out _ H3.out
      go_wp2_with fail
      refine (eab.out _ H3.out).mono ?_
      rintro e w_4 ⟨rfl, h4⟩
      have H4 := Lib.hid h4
      clear x0 x1 x2 x3 x4 x5 x6 x7 x8 x9 x10 x11 x12 x13 x14 h4
      obtain ⟨-, x0, x1, x2, x3, x4, x5, x6, x7, x8, x9, x10, x11, x12, x13, x14⟩ := seen.out _ H4.out
      go_wp2_with fail
      refine (kaa.out _ H4.out).mono ?_
      rintro e w_5 ⟨rfl, h5⟩
      have H5 := Lib.hid h5
      clear x0 x1 x2 x3 x4 x5 x6 x7 x8 x9 x10 x11 x12 x13 x14 h5
      obtain ⟨-, x0, x1, x2, x3, x4, x5, x6, x7, x8, x9, x10, x11, x12, x13, x14⟩ := seen.out _ H5.out
      go_wp2_with fail
      refine (eaa.out _ H5.out).mono ?_
      rintro e w_6 ⟨rfl, h6⟩
      have H6 := Lib.hid h6
      clear x0 x1 x2 x3 x4 x5 x6 x7 x8 x9 x10 x11 x12 x13 x14 h6
      obtain ⟨-, x0, x1, x2, x3, x4, x5, x6, x7, x8, x9, x10, x11, x12, x13, x14⟩ := seen.out _ H6.out
      go_wp2_with fail
      refine (kac.out _ H6.out).mono ?_
      rintro e w_7 ⟨rfl, h7⟩
      have H7 := Lib.hid h7
      clear x0 x1 x2 x3 x4 x5 x6 x7 x8 x9 x10 x11 x12 x13 x14 h7
      obtain ⟨-, x0, x1, x2, x3, x4, x5, x6, x7, x8, x9, x10, x11, x12, x13, x14⟩ := seen.out _ H7.out
      go_wp2_with fail
      refine (kac.out _ H7.out).mono ?_
      rintro e w_8 ⟨rfl, h8⟩
      have H8 := Lib.hid h8
      clear x0 x1 x2 x3 x4 x5 x6 x7 x8 x9 x10 x11 x12 x13 x14 h8
      obtain ⟨-, x0, x1, x2, x3, x4, x5, x6, x7, x8, x9, x10, x11, x12, x13, x14⟩ := seen.out _ H8.out
      go_wp2_with fail
      refine (cA.out _ (LQ.out _ H8.out)).mono ?_
      rintro e wz ⟨rfl, qz⟩
      clear x0 x1 x2 x3 x4 x5 x6 x7 x8 x9 x10 x11 x12 x13 x14
      go_wp2_with fail
      go_ret
      exact ⟨rfl, (LQ.out _ H8.out).trans qz⟩
    · obtain rfl : z = -1 := by have h := hzc.out (by decide) (by decide); first | exact h.1 (by decide) | exact h.2 rfl rfl
      clear hzc
      rw [show decide ((-1 : Int) = 0) = false from rfl] at eab
      rw [show (-(-1 : Int)) = 1 from rfl] at kba
      obtain ⟨D, hD⟩ : ∃ x, wb3.heap.size = x := ⟨_, rfl⟩
      obtain ⟨wd, hwd⟩ : ∃ x, wb3.alloc (.cells #[.int .i64 ak, .int .i64 an, .string as', .slice A3 an3 k3, .slice A4 an4 k4, .int .i64 bk, .int .i64 bn, .string bs, .slice B3 bn3 l3, .slice B4 bn4 l4, .int .i64 ck, .int .i64 cn, .string cs, .slice C3 cn3 m3, .slice C4 cn4 m4] 26) = x := ⟨_, rfl⟩
      have LD : Hid (L wd) := Lib.hid (by rw [← hwd]; exact stays.out _ _ L0.out (Q.box _ _))
      have cVd := Lib.hid (cVal.out wd D (LQ.out _ LD.out) (by rw [← hwd, ← hD]; exact Bk.new _ _ _))
      go_enter Tryz.func7, Tryz.ntmps7
      go_wp2_with fail
      refine (cVd.out).mono ?_
      rintro e w_1 ⟨rfl, q1⟩
      have H1 := Lib.hid (stays.out _ _ LD.out q1)
      clear x0 x1 x2 x3 x4 x5 x6 x7 x8 x9 x10 x11 x12 x13 x14 q1 hwd hD
      obtain ⟨-, x0, x1, x2, x3, x4, x5, x6, x7, x8, x9, x10, x11, x12, x13, x14⟩ := seen.out _ H1.out
      go_wp2_with fail
      clear x0 x1 x2 x3 x4 x5 x6 x7 x8 x9 x10 x11 x12 x13 x14
      refine Go.wp_region_held_drew (S := (fun w' => Hid (L w') ∧ w'.cell? ⟨P1, 0, none⟩ = some (.int .i64 ak) ∧ w'.cell? ⟨P1, 1, none⟩ = some (.int .i64 an) ∧ w'.cell? ⟨P1, 2, none⟩ = some (.string as') ∧ w'.cell? ⟨P1, 3, none⟩ = some (.slice A3 an3 k3) ∧ w'.cell? ⟨P1, 4, none⟩ = some (.slice A4 an4 k4) ∧ w'.cell? ⟨P2, 0, none⟩ = some (.int .i64 bk) ∧ w'.cell? ⟨P2, 1, none⟩ = some (.int .i64 bn) ∧ w'.cell? ⟨P2, 2, none⟩ = some (.string bs) ∧ w'.cell? ⟨P2, 3, none⟩ = some (.slice B3 bn3 l3) ∧ w'.cell? ⟨P2, 4, none⟩ = some (.slice B4 bn4 l4) ∧ w'.cell? ⟨P3, 0, none⟩ = some (.int .i64 ck) ∧ w'.cell? ⟨P3, 1, none⟩ = some (.int .i64 cn) ∧ w'.cell? ⟨P3, 2, none⟩ = some (.string cs) ∧ w'.cell? ⟨P3, 3, none⟩ = some (.slice C3 cn3 m3) ∧ w'.cell? ⟨P3, 4, none⟩ = some (.slice C4 cn4 m4))) (by kernel_rfl) (seen.out _ (stays.out _ _ H1.out (Q.drewN _ 1))) (fun hHeld => ?_)
      refine Go.wpAnyH_take (i := 0) (oi := _) (v := ?_) rfl (by kernel_rfl) (by kernel_rfl) (by kernel_rfl) (fun _ _ _ h => h) (Or.inl ⟨by rfl, ?_⟩) (by assumption) ?_
      rotate_left 1
      · intro wx hSw
        go_simp <;> with_reducible rfl
      simp only [Act.put, List.getElem_toArray, List.getElem_cons_zero, List.setIfInBounds_toArray, List.set_cons_zero, List.set_cons_succ]
      refine Go.wpAnyH_take (i := 1) (oi := _) (v := ?_) rfl (by kernel_rfl) (by kernel_rfl) (by kernel_rfl) (fun _ _ _ h => h) (Or.inl ⟨by rfl, ?_⟩) (by assumption) ?_
      rotate_left 1
      · intro wx hSw
        go_simp <;> with_reducible rfl
      simp only [Act.put, List.getElem_toArray, List.getElem_cons_zero, List.getElem_cons_succ, List.setIfInBounds_toArray, List.set_cons_zero, List.set_cons_succ]
      refine Go.wpAnyH_take (i := 3) (oi := _) (v := ?_) rfl (by kernel_rfl) (by kernel_rfl) (by kernel_rfl) (fun _ _ _ h => h) (Or.inl ⟨by rfl, ?_⟩) (by assumption) ?_
      rotate_left 1
      · intro wx hSw
        go_simp <;> with_reducible rfl
      simp only [Act.put, List.getElem_toArray, List.getElem_cons_zero, List.getElem_cons_succ, List.setIfInBounds_toArray, List.set_cons_zero, List.set_cons_succ]
      refine Go.wpAnyH_take (i := 4) (oi := _) (v := ?_) rfl (by kernel_rfl) (by kernel_rfl) (by kernel_rfl) (fun _ _ _ h => h) (Or.inl ⟨by rfl, ?_⟩) (by assumption) ?_
      rotate_left 1
      · intro wx hSw
        go_simp <;> with_reducible rfl
      simp only [Act.put, List.getElem_toArray, List.getElem_cons_zero, List.getElem_cons_succ, List.setIfInBounds_toArray, List.set_cons_zero, List.set_cons_succ]
      refine Go.wpAnyH_ready (rs := [2]) (by kernel_rfl) (by simp) ?_
      refine Go.AllReadyH.cons rfl (fun K hK => ?_) Go.AllReadyH.nil
      rw [if_pos (by rfl)]
      go_simp
      refine (kab.out _ hHeld.1.out).mono ?_
      rintro e v2_2 ⟨rfl, g2_2⟩
      refine hK.out _ _ (seen.out _ g2_2) (fun hHeld => ?_)
      clear hK K
      refine Go.wpAnyH_ready (rs := [5]) (by kernel_rfl) (by simp) ?_
      refine Go.AllReadyH.cons rfl (fun K hK => ?_) Go.AllReadyH.nil
      rw [if_pos (by rfl)]
      go_simp
      refine (kbc.out _ hHeld.1.out).mono ?_
      rintro e v2_5 ⟨rfl, g2_5⟩
      refine hK.out _ _ (seen.out _ g2_5) (fun hHeld => ?_)
      clear hK K
      refine Go.wpAnyH_take (i := 6) (oi := _) (v := ?_) rfl (by kernel_rfl) (by kernel_rfl) (by kernel_rfl) (fun _ _ _ h => h) (Or.inl ⟨by rfl, ?_⟩) (by assumption) ?_
      rotate_left 1
      · intro wx hSw
        go_simp <;> with_reducible rfl
      simp only [Act.put, List.getElem_toArray, List.getElem_cons_zero, List.getElem_cons_succ, List.setIfInBounds_toArray, List.set_cons_zero, List.set_cons_succ]
      refine Go.wpAnyH_take (i := 7) (oi := _) (v := ?_) rfl (by kernel_rfl) (by kernel_rfl) (by kernel_rfl) (fun _ _ _ h => h) (Or.inl ⟨by rfl, ?_⟩) (by assumption) ?_
      rotate_left 1
      · intro wx hSw
        go_simp <;> with_reducible rfl
      simp only [Act.put, List.getElem_toArray, List.getElem_cons_zero, List.getElem_cons_succ, List.setIfInBounds_toArray, List.set_cons_zero, List.set_cons_succ]
      refine Go.wpAnyH_done (by kernel_rfl) ?_ _
      have H2 := Lib.hid hHeld.1.out
      obtain ⟨-, x0, x1, x2, x3, x4, x5, x6, x7, x8, x9, x10, x11, x12, x13, x14⟩ := hHeld
      go_wp2_with fail
      refine (kba.out _ H2.out).mono ?_
      rintro e w_3 ⟨rfl, h3⟩
      have H3 := Lib.hid h3
      clear x0 x1 x2 x3 x4 x5 x6 x7 x8 x9 x10 x11 x12 x13 x14 h3
      obtain ⟨-, x0, x1, x2, x3, x4, x5, x6, x7, x8, x9, x10, x11, x12, x13, x14⟩ := seen.out _ H3.out
      go_wp2_with fail
      refine (eab.out _ H3.out).mono ?_
      rintro e w_4 ⟨rfl, h4⟩
      have H4 := Lib.hid h4
      clear x0 x1 x2 x3 x4 x5 x6 x7 x8 x9 x10 x11 x12 x13 x14 h4
      obtain ⟨-, x0, x1, x2, x3, x4, x5, x6, x7, x8, x9, x10, x11, x12, x13, x14⟩ := seen.out _ H4.out
      go_wp2_with fail
      refine (kaa.out _ H4.out).mono ?_
      rintro e w_5 ⟨rfl, h5⟩
      have H5 := Lib.hid h5
      clear x0 x1 x2 x3 x4 x5 x6 x7 x8 x9 x10 x11 x12 x13 x14 h5
      obtain ⟨-, x0, x1, x2, x3, x4, x5, x6, x7, x8, x9, x10, x11, x12, x13, x14⟩ := seen.out _ H5.out
      go_wp2_with fail
      refine (eaa.out _ H5.out).mono ?_
      rintro e w_6 ⟨rfl, h6⟩
      have H6 := Lib.hid h6
      clear x0 x1 x2 x3 x4 x5 x6 x7 x8 x9 x10 x11 x12 x13 x14 h6
      obtain ⟨-, x0, x1, x2, x3, x4, x5, x6, x7, x8, x9, x10, x11, x12, x13, x14⟩ := seen.out _ H6.out
      go_wp2_with fail
      refine (kac.out _ H6.out).mono ?_
      rintro e w_7 ⟨rfl, h7⟩
      have H7 := Lib.hid h7
      clear x0 x1 x2 x3 x4 x5 x6 x7 x8 x9 x10 x11 x12 x13 x14 h7
      obtain ⟨-, x0, x1, x2, x3, x4, x5, x6, x7, x8, x9, x10, x11, x12, x13, x14⟩ := seen.out _ H7.out
      go_wp2_with fail
      refine (kac.out _ H7.out).mono ?_
      rintro e w_8 ⟨rfl, h8⟩
      have H8 := Lib.hid h8
      clear x0 x1 x2 x3 x4 x5 x6 x7 x8 x9 x10 x11 x12 x13 x14 h8
      obtain ⟨-, x0, x1, x2, x3, x4, x5, x6, x7, x8, x9, x10, x11, x12, x13, x14⟩ := seen.out _ H8.out
      go_wp2_with fail
      refine (cA.out _ (LQ.out _ H8.out)).mono ?_
      rintro e wz ⟨rfl, qz⟩
      clear x0 x1 x2 x3 x4 x5 x6 x7 x8 x9 x10 x11 x12 x13 x14
      go_wp2_with fail
      go_ret
      exact ⟨rfl, (LQ.out _ H8.out).trans qz⟩
    · clear hzc
      rw [show decide ((-1 : Int) = 0) = false from rfl] at eab
      rw [show (-(-1 : Int)) = 1 from rfl] at kba
      obtain ⟨D, hD⟩ : ∃ x, wb3.heap.size = x := ⟨_, rfl⟩
      obtain ⟨wd, hwd⟩ : ∃ x, wb3.alloc (.cells #[.int .i64 ak, .int .i64 an, .string as', .slice A3 an3 k3, .slice A4 an4 k4, .int .i64 bk, .int .i64 bn, .string bs, .slice B3 bn3 l3, .slice B4 bn4 l4, .int .i64 ck, .int .i64 cn, .string cs, .slice C3 cn3 m3, .slice C4 cn4 m4] 26) = x := ⟨_, rfl⟩
      have LD : Hid (L wd) := Lib.hid (by rw [← hwd]; exact stays.out _ _ L0.out (Q.box _ _))
      have cVd := Lib.hid (cVal.out wd D (LQ.out _ LD.out) (by rw [← hwd, ← hD]; exact Bk.new _ _ _))
      go_enter Tryz.func7, Tryz.ntmps7
      go_wp2_with fail
      refine (cVd.out).mono ?_
      rintro e w_1 ⟨rfl, q1⟩
      have H1 := Lib.hid (stays.out _ _ LD.out q1)
      clear x0 x1 x2 x3 x4 x5 x6 x7 x8 x9 x10 x11 x12 x13 x14 q1 hwd hD
      obtain ⟨-, x0, x1, x2, x3, x4, x5, x6, x7, x8, x9, x10, x11, x12, x13, x14⟩ := seen.out _ H1.out
      go_wp2_with fail
      clear x0 x1 x2 x3 x4 x5 x6 x7 x8 x9 x10 x11 x12 x13 x14
      refine Go.wp_region_held_drew (S := (fun w' => Hid (L w') ∧ w'.cell? ⟨P1, 0, none⟩ = some (.int .i64 ak) ∧ w'.cell? ⟨P1, 1, none⟩ = some (.int .i64 an) ∧ w'.cell? ⟨P1, 2, none⟩ = some (.string as') ∧ w'.cell? ⟨P1, 3, none⟩ = some (.slice A3 an3 k3) ∧ w'.cell? ⟨P1, 4, none⟩ = some (.slice A4 an4 k4) ∧ w'.cell? ⟨P2, 0, none⟩ = some (.int .i64 bk) ∧ w'.cell? ⟨P2, 1, none⟩ = some (.int .i64 bn) ∧ w'.cell? ⟨P2, 2, none⟩ = some (.string bs) ∧ w'.cell? ⟨P2, 3, none⟩ = some (.slice B3 bn3 l3) ∧ w'.cell? ⟨P2, 4, none⟩ = some (.slice B4 bn4 l4) ∧ w'.cell? ⟨P3, 0, none⟩ = some (.int .i64 ck) ∧ w'.cell? ⟨P3, 1, none⟩ = some (.int .i64 cn) ∧ w'.cell? ⟨P3, 2, none⟩ = some (.string cs) ∧ w'.cell? ⟨P3, 3, none⟩ = some (.slice C3 cn3 m3) ∧ w'.cell? ⟨P3, 4, none⟩ = some (.slice C4 cn4 m4))) (by kernel_rfl) (seen.out _ (stays.out _ _ H1.out (Q.drewN _ 1))) (fun hHeld => ?_)
      refine Go.wpAnyH_take (i := 0) (oi := _) (v := ?_) rfl (by kernel_rfl) (by kernel_rfl) (by kernel_rfl) (fun _ _ _ h => h) (Or.inl ⟨by rfl, ?_⟩) (by assumption) ?_
      rotate_left 1
      · intro wx hSw
        go_simp <;> with_reducible rfl
      simp only [Act.put, List.getElem_toArray, List.getElem_cons_zero, List.setIfInBounds_toArray, List.set_cons_zero, List.set_cons_succ]
      refine Go.wpAnyH_take (i := 1) (oi := _) (v := ?_) rfl (by kernel_rfl) (by kernel_rfl) (by kernel_rfl) (fun _ _ _ h => h) (Or.inl ⟨by rfl, ?_⟩) (by assumption) ?_
      rotate_left 1
      · intro wx hSw
        go_simp <;> with_reducible rfl
      simp only [Act.put, List.getElem_toArray, List.getElem_cons_zero, List.getElem_cons_succ, List.setIfInBounds_toArray, List.set_cons_zero, List.set_cons_succ]
      refine Go.wpAnyH_take (i := 3) (oi := _) (v := ?_) rfl (by kernel_rfl) (by kernel_rfl) (by kernel_rfl) (fun _ _ _ h => h) (Or.inl ⟨by rfl, ?_⟩) (by assumption) ?_
      rotate_left 1
      · intro wx hSw
        go_simp <;> with_reducible rfl
      simp only [Act.put, List.getElem_toArray, List.getElem_cons_zero, List.getElem_cons_succ, List.setIfInBounds_toArray, List.set_cons_zero, List.set_cons_succ]
      refine Go.wpAnyH_take (i := 4) (oi := _) (v := ?_) rfl (by kernel_rfl) (by kernel_rfl) (by kernel_rfl) (fun _ _ _ h => h) (Or.inl ⟨by rfl, ?_⟩) (by assumption) ?_
      rotate_left 1
      · intro wx hSw
        go_simp <;> with_reducible rfl
      simp only [Act.put, List.getElem_toArray, List.getElem_cons_zero, List.getElem_cons_succ, List.setIfInBounds_toArray, List.set_cons_zero, List.set_cons_succ]
      refine Go.wpAnyH_ready (rs := [2]) (by kernel_rfl) (by simp) ?_
      refine Go.AllReadyH.cons rfl (fun K hK => ?_) Go.AllReadyH.nil
      rw [if_pos (by rfl)]
      go_simp
      refine (kab.out _ hHeld.1.out).mono ?_
      rintro e v2_2 ⟨rfl, g2_2⟩
      refine hK.out _ _ (seen.out _ g2_2) (fun hHeld => ?_)
      clear hK K
      refine Go.wpAnyH_ready (rs := [5]) (by kernel_rfl) (by simp) ?_
      refine Go.AllReadyH.cons rfl (fun K hK => ?_) Go.AllReadyH.nil
      rw [if_pos (by rfl)]
      go_simp
      refine (kbc.out _ hHeld.1.out).mono ?_
      rintro e v2_5 ⟨rfl, g2_5⟩
      refine hK.out _ _ (seen.out _ g2_5) (fun hHeld => ?_)
      clear hK K
      refine Go.wpAnyH_take (i := 6) (oi := _) (v := ?_) rfl (by kernel_rfl) (by kernel_rfl) (by kernel_rfl) (fun _ _ _ h => h) (Or.inl ⟨by rfl, ?_⟩) (by assumption) ?_
      rotate_left 1
      · intro wx hSw
        go_simp <;> with_reducible rfl
      simp only [Act.put, List.getElem_toArray, List.getElem_cons_zero, List.getElem_cons_succ, List.setIfInBounds_toArray, List.set_cons_zero, List.set_cons_succ]
      refine Go.wpAnyH_take (i := 7) (oi := _) (v := ?_) rfl (by kernel_rfl) (by kernel_rfl) (by kernel_rfl) (fun _ _ _ h => h) (Or.inl ⟨by rfl, ?_⟩) (by assumption) ?_
      rotate_left 1
      · intro wx hSw
        go_simp <;> with_reducible rfl
      simp only [Act.put, List.getElem_toArray, List.getElem_cons_zero, List.getElem_cons_succ, List.setIfInBounds_toArray, List.set_cons_zero, List.set_cons_succ]
      refine Go.wpAnyH_done (by kernel_rfl) ?_ _
      have H2 := Lib.hid hHeld.1.out
      obtain ⟨-, x0, x1, x2, x3, x4, x5, x6, x7, x8, x9, x10, x11, x12, x13, x14⟩ := hHeld
      go_wp2_with fail
      refine (kba.out _ H2.out).mono ?_
      rintro e w_3 ⟨rfl, h3⟩
      have H3 := Lib.hid h3
      clear x0 x1 x2 x3 x4 x5 x6 x7 x8 x9 x10 x11 x12 x13 x14 h3
      obtain ⟨-, x0, x1, x2, x3, x4, x5, x6, x7, x8, x9, x10, x11, x12, x13, x14⟩ := seen.out _ H3.out
      go_wp2_with fail
      refine (eab.out _ H3.out).mono ?_
      rintro e w_4 ⟨rfl, h4⟩
      have H4 := Lib.hid h4
      clear x0 x1 x2 x3 x4 x5 x6 x7 x8 x9 x10 x11 x12 x13 x14 h4
      obtain ⟨-, x0, x1, x2, x3, x4, x5, x6, x7, x8, x9, x10, x11, x12, x13, x14⟩ := seen.out _ H4.out
      go_wp2_with fail
      refine (kaa.out _ H4.out).mono ?_
      rintro e w_5 ⟨rfl, h5⟩
      have H5 := Lib.hid h5
      clear x0 x1 x2 x3 x4 x5 x6 x7 x8 x9 x10 x11 x12 x13 x14 h5
      obtain ⟨-, x0, x1, x2, x3, x4, x5, x6, x7, x8, x9, x10, x11, x12, x13, x14⟩ := seen.out _ H5.out
      go_wp2_with fail
      refine (eaa.out _ H5.out).mono ?_
      rintro e w_6 ⟨rfl, h6⟩
      have H6 := Lib.hid h6
      clear x0 x1 x2 x3 x4 x5 x6 x7 x8 x9 x10 x11 x12 x13 x14 h6
      obtain ⟨-, x0, x1, x2, x3, x4, x5, x6, x7, x8, x9, x10, x11, x12, x13, x14⟩ := seen.out _ H6.out
      go_wp2_with fail
      refine (cA.out _ (LQ.out _ H6.out)).mono ?_
      rintro e wz ⟨rfl, qz⟩
      clear x0 x1 x2 x3 x4 x5 x6 x7 x8 x9 x10 x11 x12 x13 x14
      go_wp2_with fail
      go_ret
      exact ⟨rfl, (LQ.out _ H6.out).trans qz⟩
  · rcases hyc with rfl | rfl | rfl
    · obtain rfl : z = -1 := by have h := hzc.out (by decide) (by decide); first | exact h.1 (by decide) | exact h.2 rfl rfl
      clear hzc
      rw [show decide ((0 : Int) = 0) = true from rfl] at eab
      rw [show (-(0 : Int)) = 0 from rfl] at kba
      obtain ⟨D, hD⟩ : ∃ x, wb3.heap.size = x := ⟨_, rfl⟩
      obtain ⟨wd, hwd⟩ : ∃ x, wb3.alloc (.cells #[.int .i64 ak, .int .i64 an, .string as', .slice A3 an3 k3, .slice A4 an4 k4, .int .i64 bk, .int .i64 bn, .string bs, .slice B3 bn3 l3, .slice B4 bn4 l4, .int .i64 ck, .int .i64 cn, .string cs, .slice C3 cn3 m3, .slice C4 cn4 m4] 26) = x := ⟨_, rfl⟩
      have LD : Hid (L wd) := Lib.hid (by rw [← hwd]; exact stays.out _ _ L0.out (Q.box _ _))
      have cVd := Lib.hid (cVal.out wd D (LQ.out _ LD.out) (by rw [← hwd, ← hD]; exact Bk.new _ _ _))
      go_enter Tryz.func7, Tryz.ntmps7
      go_wp2_with fail
      refine (cVd.out).mono ?_
      rintro e w_1 ⟨rfl, q1⟩
      have H1 := Lib.hid (stays.out _ _ LD.out q1)
      clear x0 x1 x2 x3 x4 x5 x6 x7 x8 x9 x10 x11 x12 x13 x14 q1 hwd hD
      obtain ⟨-, x0, x1, x2, x3, x4, x5, x6, x7, x8, x9, x10, x11, x12, x13, x14⟩ := seen.out _ H1.out
      go_wp2_with fail
      clear x0 x1 x2 x3 x4 x5 x6 x7 x8 x9 x10 x11 x12 x13 x14
      refine Go.wp_region_held_drew (S := (fun w' => Hid (L w') ∧ w'.cell? ⟨P1, 0, none⟩ = some (.int .i64 ak) ∧ w'.cell? ⟨P1, 1, none⟩ = some (.int .i64 an) ∧ w'.cell? ⟨P1, 2, none⟩ = some (.string as') ∧ w'.cell? ⟨P1, 3, none⟩ = some (.slice A3 an3 k3) ∧ w'.cell? ⟨P1, 4, none⟩ = some (.slice A4 an4 k4) ∧ w'.cell? ⟨P2, 0, none⟩ = some (.int .i64 bk) ∧ w'.cell? ⟨P2, 1, none⟩ = some (.int .i64 bn) ∧ w'.cell? ⟨P2, 2, none⟩ = some (.string bs) ∧ w'.cell? ⟨P2, 3, none⟩ = some (.slice B3 bn3 l3) ∧ w'.cell? ⟨P2, 4, none⟩ = some (.slice B4 bn4 l4) ∧ w'.cell? ⟨P3, 0, none⟩ = some (.int .i64 ck) ∧ w'.cell? ⟨P3, 1, none⟩ = some (.int .i64 cn) ∧ w'.cell? ⟨P3, 2, none⟩ = some (.string cs) ∧ w'.cell? ⟨P3, 3, none⟩ = some (.slice C3 cn3 m3) ∧ w'.cell? ⟨P3, 4, none⟩ = some (.slice C4 cn4 m4))) (by kernel_rfl) (seen.out _ (stays.out _ _ H1.out (Q.drewN _ 1))) (fun hHeld => ?_)
      refine Go.wpAnyH_take (i := 0) (oi := _) (v := ?_) rfl (by kernel_rfl) (by kernel_rfl) (by kernel_rfl) (fun _ _ _ h => h) (Or.inl ⟨by rfl, ?_⟩) (by assumption) ?_
      rotate_left 1
      · intro wx hSw
        go_simp <;> with_reducible rfl
      simp only [Act.put, List.getElem_toArray, List.getElem_cons_zero, List.setIfInBounds_toArray, List.set_cons_zero, List.set_cons_succ]
      refine Go.wpAnyH_take (i := 1) (oi := _) (v := ?_) rfl (by kernel_rfl) (by kernel_rfl) (by kernel_rfl) (fun _ _ _ h => h) (Or.inl ⟨by rfl, ?_⟩) (by assumption) ?_
      rotate_left 1
      · intro wx hSw
        go_simp <;> with_reducible rfl
      simp only [Act.put, List.getElem_toArray, List.getElem_cons_zero, List.getElem_cons_succ, List.setIfInBounds_toArray, List.set_cons_zero, List.set_cons_succ]
      refine Go.wpAnyH_take (i := 3) (oi := _) (v := ?_) rfl (by kernel_rfl) (by kernel_rfl) (by kernel_rfl) (fun _ _ _ h => h) (Or.inl ⟨by rfl, ?_⟩) (by assumption) ?_
      rotate_left 1
      · intro wx hSw
        go_simp <;> with_reducible rfl
      simp only [Act.put, List.getElem_toArray, List.getElem_cons_zero, List.getElem_cons_succ, List.setIfInBounds_toArray, List.set_cons_zero, List.set_cons_succ]
      refine Go.wpAnyH_take (i := 4) (oi := _) (v := ?_) rfl (by kernel_rfl) (by kernel_rfl) (by kernel_rfl) (fun _ _ _ h => h) (Or.inl ⟨by rfl, ?_⟩) (by assumption) ?_
      rotate_left 1
      · intro wx hSw
        go_simp <;> with_reducible rfl
      simp only [Act.put, List.getElem_toArray, List.getElem_cons_zero, List.getElem_cons_succ, List.setIfInBounds_toArray, List.set_cons_zero, List.set_cons_succ]
      refine Go.wpAnyH_ready (rs := [2]) (by kernel_rfl) (by simp) ?_
      refine Go.AllReadyH.cons rfl (fun K hK => ?_) Go.AllReadyH.nil
      rw [if_pos (by rfl)]
      go_simp
      refine (kab.out _ hHeld.1.out).mono ?_
      rintro e v2_2 ⟨rfl, g2_2⟩
      refine hK.out _ _ (seen.out _ g2_2) (fun hHeld => ?_)
      clear hK K
      refine Go.wpAnyH_ready (rs := [5]) (by kernel_rfl) (by simp) ?_
      refine Go.AllReadyH.cons rfl (fun K hK => ?_) Go.AllReadyH.nil
      rw [if_pos (by rfl)]
      go_simp
      refine (kbc.out _ hHeld.1.out).mono ?_
      rintro e v2_5 ⟨rfl, g2_5⟩
      refine hK.out _ _ (seen.out _ g2_5) (fun hHeld => ?_)
      clear hK K
      refine Go.wpAnyH_take (i := 6) (oi := _) (v := ?_) rfl (by kernel_rfl) (by kernel_rfl) (by kernel_rfl) (fun _ _ _ h => h) (Or.inl ⟨by rfl, ?_⟩) (by assumption) ?_
      rotate_left 1
      · intro wx hSw
        go_simp <;> with_reducible rfl
      simp only [Act.put, List.getElem_toArray, List.getElem_cons_zero, List.getElem_cons_succ, List.setIfInBounds_toArray, List.set_cons_zero, List.set_cons_succ]
      refine Go.wpAnyH_take (i := 7) (oi := _) (v := ?_) rfl (by kernel_rfl) (by kernel_rfl) (by kernel_rfl) (fun _ _ _ h => h) (Or.inl ⟨by rfl, ?_⟩) (by assumption) ?_
      rotate_left 1
      · intro wx hSw
        go_simp <;> with_reducible rfl
      simp only [Act.put, List.getElem_toArray, List.getElem_cons_zero, List.getElem_cons_succ, List.setIfInBounds_toArray, List.set_cons_zero, List.set_cons_succ]
      refine Go.wpAnyH_done (by kernel_rfl) ?_ _
      have H2 := Lib.hid hHeld.1.out
      obtain ⟨-, x0, x1, x2, x3, x4, x5, x6, x7, x8, x9, x10, x11, x12, x13, x14⟩ := hHeld
      go_wp2_with fail
      refine (kba.out _ H2.out).mono ?_
      rintro e w_3 ⟨rfl, h3⟩
      have H3 := Lib.hid h3
      clear x0 x1 x2 x3 x4 x5 x6 x7 x8 x9 x10 x11 x12 x13 x14 h3
      obtain ⟨-, x0, x1, x2, x3, x4, x5, x6, x7, x8, x9, x10, x11, x12, x13, x14⟩ := seen.out _ H3.out
      go_wp2_with fail
      refine (eab.out _ H3.out).mono ?_
      rintro e w_4 ⟨rfl, h4⟩
      have H4 := Lib.hid h4
      clear x0 x1 x2 x3 x4 x5 x6 x7 x8 x9 x10 x11 x12 x13 x14 h4
      obtain ⟨-, x0, x1, x2, x3, x4, x5, x6, x7, x8, x9, x10, x11, x12, x13, x14⟩ := seen.out _ H4.out
      go_wp2_with fail
      refine (kaa.out _ H4.out).mono ?_
      rintro e w_5 ⟨rfl, h5⟩
      have H5 := Lib.hid h5
      clear x0 x1 x2 x3 x4 x5 x6 x7 x8 x9 x10 x11 x12 x13 x14 h5
      obtain ⟨-, x0, x1, x2, x3, x4, x5, x6, x7, x8, x9, x10, x11, x12, x13, x14⟩ := seen.out _ H5.out
      go_wp2_with fail
      refine (eaa.out _ H5.out).mono ?_
      rintro e w_6 ⟨rfl, h6⟩
      have H6 := Lib.hid h6
      clear x0 x1 x2 x3 x4 x5 x6 x7 x8 x9 x10 x11 x12 x13 x14 h6
      obtain ⟨-, x0, x1, x2, x3, x4, x5, x6, x7, x8, x9, x10, x11, x12, x13, x14⟩ := seen.out _ H6.out
      go_wp2_with fail
      refine (kac.out _ H6.out).mono ?_
      rintro e w_7 ⟨rfl, h7⟩
      have H7 := Lib.hid h7
      clear x0 x1 x2 x3 x4 x5 x6 x7 x8 x9 x10 x11 x12 x13 x14 h7
      obtain ⟨-, x0, x1, x2, x3, x4, x5, x6, x7, x8, x9, x10, x11, x12, x13, x14⟩ := seen.out _ H7.out
      go_wp2_with fail
      refine (kac.out _ H7.out).mono ?_
      rintro e w_8 ⟨rfl, h8⟩
      have H8 := Lib.hid h8
      clear x0 x1 x2 x3 x4 x5 x6 x7 x8 x9 x10 x11 x12 x13 x14 h8
      obtain ⟨-, x0, x1, x2, x3, x4, x5, x6, x7, x8, x9, x10, x11, x12, x13, x14⟩ := seen.out _ H8.out
      go_wp2_with fail
      refine (cA.out _ (LQ.out _ H8.out)).mono ?_
      rintro e wz ⟨rfl, qz⟩
      clear x0 x1 x2 x3 x4 x5 x6 x7 x8 x9 x10 x11 x12 x13 x14
      go_wp2_with fail
      go_ret
      exact ⟨rfl, (LQ.out _ H8.out).trans qz⟩
    · obtain rfl : z = 0 := by have h := hzc.out (by decide) (by decide); first | exact h.1 (by decide) | exact h.2 rfl rfl
      clear hzc
      rw [show decide ((0 : Int) = 0) = true from rfl] at eab
      rw [show (-(0 : Int)) = 0 from rfl] at kba
      obtain ⟨D, hD⟩ : ∃ x, wb3.heap.size = x := ⟨_, rfl⟩
      obtain ⟨wd, hwd⟩ : ∃ x, wb3.alloc (.cells #[.int .i64 ak, .int .i64 an, .string as', .slice A3 an3 k3, .slice A4 an4 k4, .int .i64 bk, .int .i64 bn, .string bs, .slice B3 bn3 l3, .slice B4 bn4 l4, .int .i64 ck, .int .i64 cn, .string cs, .slice C3 cn3 m3, .slice C4 cn4 m4] 26) = x := ⟨_, rfl⟩
      have LD : Hid (L wd) := Lib.hid (by rw [← hwd]; exact stays.out _ _ L0.out (Q.box _ _))
      have cVd := Lib.hid (cVal.out wd D (LQ.out _ LD.out) (by rw [← hwd, ← hD]; exact Bk.new _ _ _))
      go_enter Tryz.func7, Tryz.ntmps7
      go_wp2_with fail
      refine (cVd.out).mono ?_
      rintro e w_1 ⟨rfl, q1⟩
      have H1 := Lib.hid (stays.out _ _ LD.out q1)
      clear x0 x1 x2 x3 x4 x5 x6 x7 x8 x9 x10 x11 x12 x13 x14 q1 hwd hD
      obtain ⟨-, x0, x1, x2, x3, x4, x5, x6, x7, x8, x9, x10, x11, x12, x13, x14⟩ := seen.out _ H1.out
      go_wp2_with fail
      clear x0 x1 x2 x3 x4 x5 x6 x7 x8 x9 x10 x11 x12 x13 x14
      refine Go.wp_region_held_drew (S := (fun w' => Hid (L w') ∧ w'.cell? ⟨P1, 0, none⟩ = some (.int .i64 ak) ∧ w'.cell? ⟨P1, 1, none⟩ = some (.int .i64 an) ∧ w'.cell? ⟨P1, 2, none⟩ = some (.string as') ∧ w'.cell? ⟨P1, 3, none⟩ = some (.slice A3 an3 k3) ∧ w'.cell? ⟨P1, 4, none⟩ = some (.slice A4 an4 k4) ∧ w'.cell? ⟨P2, 0, none⟩ = some (.int .i64 bk) ∧ w'.cell? ⟨P2, 1, none⟩ = some (.int .i64 bn) ∧ w'.cell? ⟨P2, 2, none⟩ = some (.string bs) ∧ w'.cell? ⟨P2, 3, none⟩ = some (.slice B3 bn3 l3) ∧ w'.cell? ⟨P2, 4, none⟩ = some (.slice B4 bn4 l4) ∧ w'.cell? ⟨P3, 0, none⟩ = some (.int .i64 ck) ∧ w'.cell? ⟨P3, 1, none⟩ = some (.int .i64 cn) ∧ w'.cell? ⟨P3, 2, none⟩ = some (.string cs) ∧ w'.cell? ⟨P3, 3, none⟩ = some (.slice C3 cn3 m3) ∧ w'.cell? ⟨P3, 4, none⟩ = some (.slice C4 cn4 m4))) (by kernel_rfl) (seen.out _ (stays.out _ _ H1.out (Q.drewN _ 1))) (fun hHeld => ?_)
      refine Go.wpAnyH_take (i := 0) (oi := _) (v := ?_) rfl (by kernel_rfl) (by kernel_rfl) (by kernel_rfl) (fun _ _ _ h => h) (Or.inl ⟨by rfl, ?_⟩) (by assumption) ?_
      rotate_left 1
      · intro wx hSw
        go_simp <;> with_reducible rfl
      simp only [Act.put, List.getElem_toArray, List.getElem_cons_zero, List.setIfInBounds_toArray, List.set_cons_zero, List.set_cons_succ]
      refine Go.wpAnyH_take (i := 1) (oi := _) (v := ?_) rfl (by kernel_rfl) (by kernel_rfl) (by kernel_rfl) (fun _ _ _ h => h) (Or.inl ⟨by rfl, ?_⟩) (by assumption) ?_
      rotate_left 1
      · intro wx hSw
        go_simp <;> with_reducible rfl
      simp only [Act.put, List.getElem_toArray, List.getElem_cons_zero, List.getElem_cons_succ, List.setIfInBounds_toArray, List.set_cons_zero, List.set_cons_succ]
      refine Go.wpAnyH_take (i := 3) (oi := _) (v := ?_) rfl (by kernel_rfl) (by kernel_rfl) (by kernel_rfl) (fun _ _ _ h => h) (Or.inl ⟨by rfl, ?_⟩) (by assumption) ?_
      rotate_left 1
      · intro wx hSw
        go_simp <;> with_reducible rfl
      simp only [Act.put, List.getElem_toArray, List.getElem_cons_zero, List.getElem_cons_succ, List.setIfInBounds_toArray, List.set_cons_zero, List.set_cons_succ]
      refine Go.wpAnyH_take (i := 4) (oi := _) (v := ?_) rfl (by kernel_rfl) (by kernel_rfl) (by kernel_rfl) (fun _ _ _ h => h) (Or.inl ⟨by rfl, ?_⟩) (by assumption) ?_
      rotate_left 1
      · intro wx hSw
        go_simp <;> with_reducible rfl
      simp only [Act.put, List.getElem_toArray, List.getElem_cons_zero, List.getElem_cons_succ, List.setIfInBounds_toArray, List.set_cons_zero, List.set_cons_succ]
      refine Go.wpAnyH_ready (rs := [2]) (by kernel_rfl) (by simp) ?_
      refine Go.AllReadyH.cons rfl (fun K hK => ?_) Go.AllReadyH.nil
      rw [if_pos (by rfl)]
      go_simp
      refine (kab.out _ hHeld.1.out).mono ?_
      rintro e v2_2 ⟨rfl, g2_2⟩
      refine hK.out _ _ (seen.out _ g2_2) (fun hHeld => ?_)
      clear hK K
      refine Go.wpAnyH_ready (rs := [5]) (by kernel_rfl) (by simp) ?_
      refine Go.AllReadyH.cons rfl (fun K hK => ?_) Go.AllReadyH.nil
      rw [if_pos (by rfl)]
      go_simp
      refine (kbc.out _ hHeld.1.out).mono ?_
      rintro e v2_5 ⟨rfl, g2_5⟩
      refine hK.out _ _ (seen.out _ g2_5) (fun hHeld => ?_)
      clear hK K
      refine Go.wpAnyH_take (i := 6) (oi := _) (v := ?_) rfl (by kernel_rfl) (by kernel_rfl) (by kernel_rfl) (fun _ _ _ h => h) (Or.inl ⟨by rfl, ?_⟩) (by assumption) ?_
      rotate_left 1
      · intro wx hSw
        go_simp <;> with_reducible rfl
      simp only [Act.put, List.getElem_toArray, List.getElem_cons_zero, List.getElem_cons_succ, List.setIfInBounds_toArray, List.set_cons_zero, List.set_cons_succ]
      refine Go.wpAnyH_take (i := 7) (oi := _) (v := ?_) rfl (by kernel_rfl) (by kernel_rfl) (by kernel_rfl) (fun _ _ _ h => h) (Or.inl ⟨by rfl, ?_⟩) (by assumption) ?_
      rotate_left 1
      · intro wx hSw
        go_simp <;> with_reducible rfl
      simp only [Act.put, List.getElem_toArray, List.getElem_cons_zero, List.getElem_cons_succ, List.setIfInBounds_toArray, List.set_cons_zero, List.set_cons_succ]
      refine Go.wpAnyH_done (by kernel_rfl) ?_ _
      have H2 := Lib.hid hHeld.1.out
      obtain ⟨-, x0, x1, x2, x3, x4, x5, x6, x7, x8, x9, x10, x11, x12, x13, x14⟩ := hHeld
      go_wp2_with fail
      refine (kba.out _ H2.out).mono ?_
      rintro e w_3 ⟨rfl, h3⟩
      have H3 := Lib.hid h3
      clear x0 x1 x2 x3 x4 x5 x6 x7 x8 x9 x10 x11 x12 x13 x14 h3
      obtain ⟨-, x0, x1, x2, x3, x4, x5, x6, x7, x8, x9, x10, x11, x12, x13, x14⟩ := seen.out _ H3.out
      go_wp2_with fail
      refine (eab.out _ H3.out).mono ?_
      rintro e w_4 ⟨rfl, h4⟩
      have H4 := Lib.hid h4
      clear x0 x1 x2 x3 x4 x5 x6 x7 x8 x9 x10 x11 x12 x13 x14 h4
      obtain ⟨-, x0, x1, x2, x3, x4, x5, x6, x7, x8, x9, x10, x11, x12, x13, x14⟩ := seen.out _ H4.out
      go_wp2_with fail
      refine (kaa.out _ H4.out).mono ?_
      rintro e w_5 ⟨rfl, h5⟩
      have H5 := Lib.hid h5
      clear x0 x1 x2 x3 x4 x5 x6 x7 x8 x9 x10 x11 x12 x13 x14 h5
      obtain ⟨-, x0, x1, x2, x3, x4, x5, x6, x7, x8, x9, x10, x11, x12, x13, x14⟩ := seen.out _ H5.out
      go_wp2_with fail
      refine (eaa.out _ H5.out).mono ?_
      rintro e w_6 ⟨rfl, h6⟩
      have H6 := Lib.hid h6
      clear x0 x1 x2 x3 x4 x5 x6 x7 x8 x9 x10 x11 x12 x13 x14 h6
      obtain ⟨-, x0, x1, x2, x3, x4, x5, x6, x7, x8, x9, x10, x11, x12, x13, x14⟩ := seen.out _ H6.out
      go_wp2_with fail
      refine (kac.out _ H6.out).mono ?_
      rintro e w_7 ⟨rfl, h7⟩
      have H7 := Lib.hid h7
      clear x0 x1 x2 x3 x4 x5 x6 x7 x8 x9 x10 x11 x12 x13 x14 h7
      obtain ⟨-, x0, x1, x2, x3, x4, x5, x6, x7, x8, x9, x10, x11, x12, x13, x14⟩ := seen.out _ H7.out
      go_wp2_with fail
      refine (cA.out _ (LQ.out _ H7.out)).mono ?_
      rintro e wz ⟨rfl, qz⟩
      clear x0 x1 x2 x3 x4 x5 x6 x7 x8 x9 x10 x11 x12 x13 x14
      go_wp2_with fail
      go_ret
      exact ⟨rfl, (LQ.out _ H7.out).trans qz⟩
    · clear hzc
      rw [show decide ((0 : Int) = 0) = true from rfl] at eab
      rw [show (-(0 : Int)) = 0 from rfl] at kba
      obtain ⟨D, hD⟩ : ∃ x, wb3.heap.size = x := ⟨_, rfl⟩
      obtain ⟨wd, hwd⟩ : ∃ x, wb3.alloc (.cells #[.int .i64 ak, .int .i64 an, .string as', .slice A3 an3 k3, .slice A4 an4 k4, .int .i64 bk, .int .i64 bn, .string bs, .slice B3 bn3 l3, .slice B4 bn4 l4, .int .i64 ck, .int .i64 cn, .string cs, .slice C3 cn3 m3, .slice C4 cn4 m4] 26) = x := ⟨_, rfl⟩
      have LD : Hid (L wd) := Lib.hid (by rw [← hwd]; exact stays.out _ _ L0.out (Q.box _ _))
      have cVd := Lib.hid (cVal.out wd D (LQ.out _ LD.out) (by rw [← hwd, ← hD]; exact Bk.new _ _ _))
      go_enter Tryz.func7, Tryz.ntmps7
      go_wp2_with fail
      refine (cVd.out).mono ?_
      rintro e w_1 ⟨rfl, q1⟩
      have H1 := Lib.hid (stays.out _ _ LD.out q1)
      clear x0 x1 x2 x3 x4 x5 x6 x7 x8 x9 x10 x11 x12 x13 x14 q1 hwd hD
      obtain ⟨-, x0, x1, x2, x3, x4, x5, x6, x7, x8, x9, x10, x11, x12, x13, x14⟩ := seen.out _ H1.out
      go_wp2_with fail
      clear x0 x1 x2 x3 x4 x5 x6 x7 x8 x9 x10 x11 x12 x13 x14
      refine Go.wp_region_held_drew (S := (fun w' => Hid (L w') ∧ w'.cell? ⟨P1, 0, none⟩ = some (.int .i64 ak) ∧ w'.cell? ⟨P1, 1, none⟩ = some (.int .i64 an) ∧ w'.cell? ⟨P1, 2, none⟩ = some (.string as') ∧ w'.cell? ⟨P1, 3, none⟩ = some (.slice A3 an3 k3) ∧ w'.cell? ⟨P1, 4, none⟩ = some (.slice A4 an4 k4) ∧ w'.cell? ⟨P2, 0, none⟩ = some (.int .i64 bk) ∧ w'.cell? ⟨P2, 1, none⟩ = some (.int .i64 bn) ∧ w'.cell? ⟨P2, 2, none⟩ = some (.string bs) ∧ w'.cell? ⟨P2, 3, none⟩ = some (.slice B3 bn3 l3) ∧ w'.cell? ⟨P2, 4, none⟩ = some (.slice B4 bn4 l4) ∧ w'.cell? ⟨P3, 0, none⟩ = some (.int .i64 ck) ∧ w'.cell? ⟨P3, 1, none⟩ = some (.int .i64 cn) ∧ w'.cell? ⟨P3, 2, none⟩ = some (.string cs) ∧ w'.cell? ⟨P3, 3, none⟩ = some (.slice C3 cn3 m3) ∧ w'.cell? ⟨P3, 4, none⟩ = some (.slice C4 cn4 m4))) (by kernel_rfl) (seen.out _ (stays.out _ _ H1.out (Q.drewN _ 1))) (fun hHeld => ?_)
      refine Go.wpAnyH_take (i := 0) (oi := _) (v := ?_) rfl (by kernel_rfl) (by kernel_rfl) (by kernel_rfl) (fun _ _ _ h => h) (Or.inl ⟨by rfl, ?_⟩) (by assumption) ?_
      rotate_left 1
      · intro wx hSw
        go_simp <;> with_reducible rfl
      simp only [Act.put, List.getElem_toArray, List.getElem_cons_zero, List.setIfInBounds_toArray, List.set_cons_zero, List.set_cons_succ]
      refine Go.wpAnyH_take (i := 1) (oi := _) (v := ?_) rfl (by kernel_rfl) (by kernel_rfl) (by kernel_rfl) (fun _ _ _ h => h) (Or.inl ⟨by rfl, ?_⟩) (by assumption) ?_
      rotate_left 1
      · intro wx hSw
        go_simp <;> with_reducible rfl
      simp only [Act.put, List.getElem_toArray, List.getElem_cons_zero, List.getElem_cons_succ, List.setIfInBounds_toArray, List.set_cons_zero, List.set_cons_succ]
      refine Go.wpAnyH_take (i := 3) (oi := _) (v := ?_) rfl (by kernel_rfl) (by kernel_rfl) (by kernel_rfl) (fun _ _ _ h => h) (Or.inl ⟨by rfl, ?_⟩) (by assumption) ?_
      rotate_left 1
      · intro wx hSw
        go_simp <;> with_reducible rfl
      simp only [Act.put, List.getElem_toArray, List.getElem_cons_zero, List.getElem_cons_succ, List.setIfInBounds_toArray, List.set_cons_zero, List.set_cons_succ]
      refine Go.wpAnyH_take (i := 4) (oi := _) (v := ?_) rfl (by kernel_rfl) (by kernel_rfl) (by kernel_rfl) (fun _ _ _ h => h) (Or.inl ⟨by rfl, ?_⟩) (by assumption) ?_
      rotate_left 1
      · intro wx hSw
        go_simp <;> with_reducible rfl
      simp only [Act.put, List.getElem_toArray, List.getElem_cons_zero, List.getElem_cons_succ, List.setIfInBounds_toArray, List.set_cons_zero, List.set_cons_succ]
      refine Go.wpAnyH_ready (rs := [2]) (by kernel_rfl) (by simp) ?_
      refine Go.AllReadyH.cons rfl (fun K hK => ?_) Go.AllReadyH.nil
      rw [if_pos (by rfl)]
      go_simp
      refine (kab.out _ hHeld.1.out).mono ?_
      rintro e v2_2 ⟨rfl, g2_2⟩
      refine hK.out _ _ (seen.out _ g2_2) (fun hHeld => ?_)
      clear hK K
      refine Go.wpAnyH_ready (rs := [5]) (by kernel_rfl) (by simp) ?_
      refine Go.AllReadyH.cons rfl (fun K hK => ?_) Go.AllReadyH.nil
      rw [if_pos (by rfl)]
      go_simp
      refine (kbc.out _ hHeld.1.out).mono ?_
      rintro e v2_5 ⟨rfl, g2_5⟩
      refine hK.out _ _ (seen.out _ g2_5) (fun hHeld => ?_)
      clear hK K
      refine Go.wpAnyH_take (i := 6) (oi := _) (v := ?_) rfl (by kernel_rfl) (by kernel_rfl) (by kernel_rfl) (fun _ _ _ h => h) (Or.inl ⟨by rfl, ?_⟩) (by assumption) ?_
      rotate_left 1
      · intro wx hSw
        go_simp <;> with_reducible rfl
      simp only [Act.put, List.getElem_toArray, List.getElem_cons_zero, List.getElem_cons_succ, List.setIfInBounds_toArray, List.set_cons_zero, List.set_cons_succ]
      refine Go.wpAnyH_take (i := 7) (oi := _) (v := ?_) rfl (by kernel_rfl) (by kernel_rfl) (by kernel_rfl) (fun _ _ _ h => h) (Or.inl ⟨by rfl, ?_⟩) (by assumption) ?_
      rotate_left 1
      · intro wx hSw
        go_simp <;> with_reducible rfl
      simp only [Act.put, List.getElem_toArray, List.getElem_cons_zero, List.getElem_cons_succ, List.setIfInBounds_toArray, List.set_cons_zero, List.set_cons_succ]
      refine Go.wpAnyH_done (by kernel_rfl) ?_ _
      have H2 := Lib.hid hHeld.1.out
      obtain ⟨-, x0, x1, x2, x3, x4, x5, x6, x7, x8, x9, x10, x11, x12, x13, x14⟩ := hHeld
      go_wp2_with fail
      refine (kba.out _ H2.out).mono ?_
      rintro e w_3 ⟨rfl, h3⟩
      have H3 := Lib.hid h3
      clear x0 x1 x2 x3 x4 x5 x6 x7 x8 x9 x10 x11 x12 x13 x14 h3
      obtain ⟨-, x0, x1, x2, x3, x4, x5, x6, x7, x8, x9, x10, x11, x12, x13, x14⟩ := seen.out _ H3.out
      go_wp2_with fail
      refine (eab.out _ H3.out).mono ?_
      rintro e w_4 ⟨rfl, h4⟩
      have H4 := Lib.hid h4
      clear x0 x1 x2 x3 x4 x5 x6 x7 x8 x9 x10 x11 x12 x13 x14 h4
      obtain ⟨-, x0, x1, x2, x3, x4, x5, x6, x7, x8, x9, x10, x11, x12, x13, x14⟩ := seen.out _ H4.out
      go_wp2_with fail
      refine (kaa.out _ H4.out).mono ?_
      rintro e w_5 ⟨rfl, h5⟩
      have H5 := Lib.hid h5
      clear x0 x1 x2 x3 x4 x5 x6 x7 x8 x9 x10 x11 x12 x13 x14 h5
      obtain ⟨-, x0, x1, x2, x3, x4, x5, x6, x7, x8, x9, x10, x11, x12, x13, x14⟩ := seen.out _ H5.out
      go_wp2_with fail
      refine (eaa.out _ H5.out).mono ?_
      rintro e w_6 ⟨rfl, h6⟩
      have H6 := Lib.hid h6
      clear x0 x1 x2 x3 x4 x5 x6 x7 x8 x9 x10 x11 x12 x13 x14 h6
      obtain ⟨-, x0, x1, x2, x3, x4, x5, x6, x7, x8, x9, x10, x11, x12, x13, x14⟩ := seen.out _ H6.out
      go_wp2_with fail
      refine (cA.out _ (LQ.out _ H6.out)).mono ?_
      rintro e wz ⟨rfl, qz⟩
      clear x0 x1 x2 x3 x4 x5 x6 x7 x8 x9 x10 x11 x12 x13 x14
      go_wp2_with fail
      go_ret
      exact ⟨rfl, (LQ.out _ H6.out).trans qz⟩
  · rcases hyc with rfl | rfl | rfl
    · clear hzc
      rw [show decide ((1 : Int) = 0) = false from rfl] at eab
      rw [show (-(1 : Int)) = -1 from rfl] at kba
      obtain ⟨D, hD⟩ : ∃ x, wb3.heap.size = x := ⟨_, rfl⟩
      obtain ⟨wd, hwd⟩ : ∃ x, wb3.alloc (.cells #[.int .i64 ak, .int .i64 an, .string as', .slice A3 an3 k3, .slice A4 an4 k4, .int .i64 bk, .int .i64 bn, .string bs, .slice B3 bn3 l3, .slice B4 bn4 l4, .int .i64 ck, .int .i64 cn, .string cs, .slice C3 cn3 m3, .slice C4 cn4 m4] 26) = x := ⟨_, rfl⟩
      have LD : Hid (L wd) := Lib.hid (by rw [← hwd]; exact stays.out _ _ L0.out (Q.box _ _))
      have cVd := Lib.hid (cVal.out wd D (LQ.out _ LD.out) (by rw [← hwd, ← hD]; exact Bk.new _ _ _))
      go_enter Tryz.func7, Tryz.ntmps7
      go_wp2_with fail
      refine (cVd.out).mono ?_
      rintro e w_1 ⟨rfl, q1⟩
      have H1 := Lib.hid (stays.out _ _ LD.out q1)
      clear x0 x1 x2 x3 x4 x5 x6 x7 x8 x9 x10 x11 x12 x13 x14 q1 hwd hD
      obtain ⟨-, x0, x1, x2, x3, x4, x5, x6, x7, x8, x9, x10, x11, x12, x13, x14⟩ := seen.out _ H1.out
      go_wp2_with fail
      clear x0 x1 x2 x3 x4 x5 x6 x7 x8 x9 x10 x11 x12 x13 x14
      refine Go.wp_region_held_drew (S := (fun w' => Hid (L w') ∧ w'.cell? ⟨P1, 0, none⟩ = some (.int .i64 ak) ∧ w'.cell? ⟨P1, 1, none⟩ = some (.int .i64 an) ∧ w'.cell? ⟨P1, 2, none⟩ = some (.string as') ∧ w'.cell? ⟨P1, 3, none⟩ = some (.slice A3 an3 k3) ∧ w'.cell? ⟨P1, 4, none⟩ = some (.slice A4 an4 k4) ∧ w'.cell? ⟨P2, 0, none⟩ = some (.int .i64 bk) ∧ w'.cell? ⟨P2, 1, none⟩ = some (.int .i64 bn) ∧ w'.cell? ⟨P2, 2, none⟩ = some (.string bs) ∧ w'.cell? ⟨P2, 3, none⟩ = some (.slice B3 bn3 l3) ∧ w'.cell? ⟨P2, 4, none⟩ = some (.slice B4 bn4 l4) ∧ w'.cell? ⟨P3, 0, none⟩ = some (.int .i64 ck) ∧ w'.cell? ⟨P3, 1, none⟩ = some (.int .i64 cn) ∧ w'.cell? ⟨P3, 2, none⟩ = some (.string cs) ∧ w'.cell? ⟨P3, 3, none⟩ = some (.slice C3 cn3 m3) ∧ w'.cell? ⟨P3, 4, none⟩ = some (.slice C4 cn4 m4))) (by kernel_rfl) (seen.out _ (stays.out _ _ H1.out (Q.drewN _ 1))) (fun hHeld => ?_)
      refine Go.wpAnyH_take (i := 0) (oi := _) (v := ?_) rfl (by kernel_rfl) (by kernel_rfl) (by kernel_rfl) (fun _ _ _ h => h) (Or.inl ⟨by rfl, ?_⟩) (by assumption) ?_
      rotate_left 1
      · intro wx hSw
        go_simp <;> with_reducible rfl
      simp only [Act.put, List.getElem_toArray, List.getElem_cons_zero, List.setIfInBounds_toArray, List.set_cons_zero, List.set_cons_succ]
      refine Go.wpAnyH_take (i := 1) (oi := _) (v := ?_) rfl (by kernel_rfl) (by kernel_rfl) (by kernel_rfl) (fun _ _ _ h => h) (Or.inl ⟨by rfl, ?_⟩) (by assumption) ?_
      rotate_left 1
      · intro wx hSw
        go_simp <;> with_reducible rfl
      simp only [Act.put, List.getElem_toArray, List.getElem_cons_zero, List.getElem_cons_succ, List.setIfInBounds_toArray, List.set_cons_zero, List.set_cons_succ]
      refine Go.wpAnyH_take (i := 3) (oi := _) (v := ?_) rfl (by kernel_rfl) (by kernel_rfl) (by kernel_rfl) (fun _ _ _ h => h) (Or.inl ⟨by rfl, ?_⟩) (by assumption) ?_
      rotate_left 1
      · intro wx hSw
        go_simp <;> with_reducible rfl
      simp only [Act.put, List.getElem_toArray, List.getElem_cons_zero, List.getElem_cons_succ, List.setIfInBounds_toArray, List.set_cons_zero, List.set_cons_succ]
      refine Go.wpAnyH_take (i := 4) (oi := _) (v := ?_) rfl (by kernel_rfl) (by kernel_rfl) (by kernel_rfl) (fun _ _ _ h => h) (Or.inl ⟨by rfl, ?_⟩) (by assumption) ?_
      rotate_left 1
      · intro wx hSw
        go_simp <;> with_reducible rfl
      simp only [Act.put, List.getElem_toArray, List.getElem_cons_zero, List.getElem_cons_succ, List.setIfInBounds_toArray, List.set_cons_zero, List.set_cons_succ]
      refine Go.wpAnyH_ready (rs := [2]) (by kernel_rfl) (by simp) ?_
      refine Go.AllReadyH.cons rfl (fun K hK => ?_) Go.AllReadyH.nil
      rw [if_pos (by rfl)]
      go_simp
      refine (kab.out _ hHeld.1.out).mono ?_
      rintro e v2_2 ⟨rfl, g2_2⟩
      refine hK.out _ _ (seen.out _ g2_2) (fun hHeld => ?_)
      clear hK K
      refine Go.wpAnyH_ready (rs := [5]) (by kernel_rfl) (by simp) ?_
      refine Go.AllReadyH.cons rfl (fun K hK => ?_) Go.AllReadyH.nil
      rw [if_pos (by rfl)]
      go_simp
      refine (kbc.out _ hHeld.1.out).mono ?_
      rintro e v2_5 ⟨rfl, g2_5⟩
      refine hK.out _ _ (seen.out _ g2_5) (fun hHeld => ?_)
      clear hK K
      refine Go.wpAnyH_take (i := 6) (oi := _) (v := ?_) rfl (by kernel_rfl) (by kernel_rfl) (by kernel_rfl) (fun _ _ _ h => h) (Or.inl ⟨by rfl, ?_⟩) (by assumption) ?_
      rotate_left 1
      · intro wx hSw
        go_simp <;> with_reducible rfl
      simp only [Act.put, List.getElem_toArray, List.getElem_cons_zero, List.getElem_cons_succ, List.setIfInBounds_toArray, List.set_cons_zero, List.set_cons_succ]
      refine Go.wpAnyH_take (i := 7) (oi := _) (v := ?_) rfl (by kernel_rfl) (by kernel_rfl) (by kernel_rfl) (fun _ _ _ h => h) (Or.inl ⟨by rfl, ?_⟩) (by assumption) ?_
      rotate_left 1
      · intro wx hSw
        go_simp <;> with_reducible rfl
      simp only [Act.put, List.getElem_toArray, List.getElem_cons_zero, List.getElem_cons_succ, List.setIfInBounds_toArray, List.set_cons_zero, List.set_cons_succ]
      refine Go.wpAnyH_done (by kernel_rfl) ?_ _
      have H2 := Lib.hid hHeld.1.out
      obtain ⟨-, x0, x1, x2, x3, x4, x5, x6, x7, x8, x9, x10, x11, x12, x13, x14⟩ := hHeld
      go_wp2_with fail
      refine (kba.out _ H2.out).mono ?_
      rintro e w_3 ⟨rfl, h3⟩
      have H3 := Lib.hid h3
      clear x0 x1 x2 x3 x4 x5 x6 x7 x8 x9 x10 x11 x12 x13 x14 h3
      obtain ⟨-, x0, x1, x2, x3, x4, x5, x6, x7, x8, x9, x10, x11, x12, x13, x14⟩ := seen.out _ H3.out
      go_wp2_with fail
      refine (eab.out _ H3.out).mono ?_
      rintro e w_4 ⟨rfl, h4⟩
      have H4 := Lib.hid h4
      clear x0 x1 x2 x3 x4 x5 x6 x7 x8 x9 x10 x11 x12 x13 x14 h4
      obtain ⟨-, x0, x1, x2, x3, x4, x5, x6, x7, x8, x9, x10, x11, x12, x13, x14⟩ := seen.out _ H4.out
      go_wp2_with fail
      refine (kaa.out _ H4.out).mono ?_
      rintro e w_5 ⟨rfl, h5⟩
      have H5 := Lib.hid h5
      clear x0 x1 x2 x3 x4 x5 x6 x7 x8 x9 x10 x11 x12 x13 x14 h5
      obtain ⟨-, x0, x1, x2, x3, x4, x5, x6, x7, x8, x9, x10, x11, x12, x13, x14⟩ := seen.out _ H5.out
      go_wp2_with fail
      refine (eaa.out _ H5.out).mono ?_
      rintro e w_6 ⟨rfl, h6⟩
      have H6 := Lib.hid h6
      clear x0 x1 x2 x3 x4 x5 x6 x7 x8 x9 x10 x11 x12 x13 x14 h6
      obtain ⟨-, x0, x1, x2, x3, x4, x5, x6, x7, x8, x9, x10, x11, x12, x13, x14⟩ := seen.out _ H6.out
      go_wp2_with fail
      refine (cA.out _ (LQ.out _ H6.out)).mono ?_
      rintro e wz ⟨rfl, qz⟩
      clear x0 x1 x2 x3 x4 x5 x6 x7 x8 x9 x10 x11 x12 x13 x14
      go_wp2_with fail
      go_ret
      exact ⟨rfl, (LQ.out _ H6.out).trans qz⟩
    · clear hzc
      rw [show decide ((1 : Int) = 0) = false from rfl] at eab
      rw [show (-(1 : Int)) = -1 from rfl] at kba
      obtain ⟨D, hD⟩ : ∃ x, wb3.heap.size = x := ⟨_, rfl⟩
      obtain ⟨wd, hwd⟩ : ∃ x, wb3.alloc (.cells #[.int .i64 ak, .int .i64 an, .string as', .slice A3 an3 k3, .slice A4 an4 k4, .int .i64 bk, .int .i64 bn, .string bs, .slice B3 bn3 l3, .slice B4 bn4 l4, .int .i64 ck, .int .i64 cn, .string cs, .slice C3 cn3 m3, .slice C4 cn4 m4] 26) = x := ⟨_, rfl⟩
      have LD : Hid (L wd) := Lib.hid (by rw [← hwd]; exact stays.out _ _ L0.out (Q.box _ _))
      have cVd := Lib.hid (cVal.out wd D (LQ.out _ LD.out) (by rw [← hwd, ← hD]; exact Bk.new _ _ _))
      go_enter Tryz.func7, Tryz.ntmps7
      go_wp2_with fail
      refine (cVd.out).mono ?_
      rintro e w_1 ⟨rfl, q1⟩
      have H1 := Lib.hid (stays.out _ _ LD.out q1)
      clear x0 x1 x2 x3 x4 x5 x6 x7 x8 x9 x10 x11 x12 x13 x14 q1 hwd hD
      obtain ⟨-, x0, x1, x2, x3, x4, x5, x6, x7, x8, x9, x10, x11, x12, x13, x14⟩ := seen.out _ H1.out
      go_wp2_with fail
      clear x0 x1 x2 x3 x4 x5 x6 x7 x8 x9 x10 x11 x12 x13 x14
      refine Go.wp_region_held_drew (S := (fun w' => Hid (L w') ∧ w'.cell? ⟨P1, 0, none⟩ = some (.int .i64 ak) ∧ w'.cell? ⟨P1, 1, none⟩ = some (.int .i64 an) ∧ w'.cell? ⟨P1, 2, none⟩ = some (.string as') ∧ w'.cell? ⟨P1, 3, none⟩ = some (.slice A3 an3 k3) ∧ w'.cell? ⟨P1, 4, none⟩ = some (.slice A4 an4 k4) ∧ w'.cell? ⟨P2, 0, none⟩ = some (.int .i64 bk) ∧ w'.cell? ⟨P2, 1, none⟩ = some (.int .i64 bn) ∧ w'.cell? ⟨P2, 2, none⟩ = some (.string bs) ∧ w'.cell? ⟨P2, 3, none⟩ = some (.slice B3 bn3 l3) ∧ w'.cell? ⟨P2, 4, none⟩ = some (.slice B4 bn4 l4) ∧ w'.cell? ⟨P3, 0, none⟩ = some (.int .i64 ck) ∧ w'.cell? ⟨P3, 1, none⟩ = some (.int .i64 cn) ∧ w'.cell? ⟨P3, 2, none⟩ = some (.string cs) ∧ w'.cell? ⟨P3, 3, none⟩ = some (.slice C3 cn3 m3) ∧ w'.cell? ⟨P3, 4, none⟩ = some (.slice C4 cn4 m4))) (by kernel_rfl) (seen.out _ (stays.out _ _ H1.out (Q.drewN _ 1))) (fun hHeld => ?_)
      refine Go.wpAnyH_take (i := 0) (oi := _) (v := ?_) rfl (by kernel_rfl) (by kernel_rfl) (by kernel_rfl) (fun _ _ _ h => h) (Or.inl ⟨by rfl, ?_⟩) (by assumption) ?_
      rotate_left 1
      · intro wx hSw
        go_simp <;> with_reducible rfl
      simp only [Act.put, List.getElem_toArray, List.getElem_cons_zero, List.setIfInBounds_toArray, List.set_cons_zero, List.set_cons_succ]
      refine Go.wpAnyH_take (i := 1) (oi := _) (v := ?_) rfl (by kernel_rfl) (by kernel_rfl) (by kernel_rfl) (fun _ _ _ h => h) (Or.inl ⟨by rfl, ?_⟩) (by assumption) ?_
      rotate_left 1
      · intro wx hSw
        go_simp <;> with_reducible rfl
      simp only [Act.put, List.getElem_toArray, List.getElem_cons_zero, List.getElem_cons_succ, List.setIfInBounds_toArray, List.set_cons_zero, List.set_cons_succ]
      refine Go.wpAnyH_take (i := 3) (oi := _) (v := ?_) rfl (by kernel_rfl) (by kernel_rfl) (by kernel_rfl) (fun _ _ _ h => h) (Or.inl ⟨by rfl, ?_⟩) (by assumption) ?_
      rotate_left 1
      · intro wx hSw
        go_simp <;> with_reducible rfl
      simp only [Act.put, List.getElem_toArray, List.getElem_cons_zero, List.getElem_cons_succ, List.setIfInBounds_toArray, List.set_cons_zero, List.set_cons_succ]
      refine Go.wpAnyH_take (i := 4) (oi := _) (v := ?_) rfl (by kernel_rfl) (by kernel_rfl) (by kernel_rfl) (fun _ _ _ h => h) (Or.inl ⟨by rfl, ?_⟩) (by assumption) ?_
      rotate_left 1
      · intro wx hSw
        go_simp <;> with_reducible rfl
      simp only [Act.put, List.getElem_toArray, List.getElem_cons_zero, List.getElem_cons_succ, List.setIfInBounds_toArray, List.set_cons_zero, List.set_cons_succ]
      refine Go.wpAnyH_ready (rs := [2]) (by kernel_rfl) (by simp) ?_
      refine Go.AllReadyH.cons rfl (fun K hK => ?_) Go.AllReadyH.nil
      rw [if_pos (by rfl)]
      go_simp
      refine (kab.out _ hHeld.1.out).mono ?_
      rintro e v2_2 ⟨rfl, g2_2⟩
      refine hK.out _ _ (seen.out _ g2_2) (fun hHeld => ?_)
      clear hK K
      refine Go.wpAnyH_ready (rs := [5]) (by kernel_rfl) (by simp) ?_
      refine Go.AllReadyH.cons rfl (fun K hK => ?_) Go.AllReadyH.nil
      rw [if_pos (by rfl)]
      go_simp
      refine (kbc.out _ hHeld.1.out).mono ?_
      rintro e v2_5 ⟨rfl, g2_5⟩
      refine hK.out _ _ (seen.out _ g2_5) (fun hHeld => ?_)
      clear hK K
      refine Go.wpAnyH_take (i := 6) (oi := _) (v := ?_) rfl (by kernel_rfl) (by kernel_rfl) (by kernel_rfl) (fun _ _ _ h => h) (Or.inl ⟨by rfl, ?_⟩) (by assumption) ?_
      rotate_left 1
      · intro wx hSw
        go_simp <;> with_reducible rfl
      simp only [Act.put, List.getElem_toArray, List.getElem_cons_zero, List.getElem_cons_succ, List.setIfInBounds_toArray, List.set_cons_zero, List.set_cons_succ]
      refine Go.wpAnyH_take (i := 7) (oi := _) (v := ?_) rfl (by kernel_rfl) (by kernel_rfl) (by kernel_rfl) (fun _ _ _ h => h) (Or.inl ⟨by rfl, ?_⟩) (by assumption) ?_
      rotate_left 1
      · intro wx hSw
        go_simp <;> with_reducible rfl
      simp only [Act.put, List.getElem_toArray, List.getElem_cons_zero, List.getElem_cons_succ, List.setIfInBounds_toArray, List.set_cons_zero, List.set_cons_succ]
      refine Go.wpAnyH_done (by kernel_rfl) ?_ _
      have H2 := Lib.hid hHeld.1.out
      obtain ⟨-, x0, x1, x2, x3, x4, x5, x6, x7, x8, x9, x10, x11, x12, x13, x14⟩ := hHeld
      go_wp2_with fail
      refine (kba.out _ H2.out).mono ?_
      rintro e w_3 ⟨rfl, h3⟩
      have H3 := Lib.hid h3
      clear x0 x1 x2 x3 x4 x5 x6 x7 x8 x9 x10 x11 x12 x13 x14 h3
      obtain ⟨-, x0, x1, x2, x3, x4, x5, x6, x7, x8, x9, x10, x11, x12, x13, x14⟩ := seen.out _ H3.out
      go_wp2_with fail
      refine (eab.out _ H3.out).mono ?_
      rintro e w_4 ⟨rfl, h4⟩
      have H4 := Lib.hid h4
      clear x0 x1 x2 x3 x4 x5 x6 x7 x8 x9 x10 x11 x12 x13 x14 h4
      obtain ⟨-, x0, x1, x2, x3, x4, x5, x6, x7, x8, x9, x10, x11, x12, x13, x14⟩ := seen.out _ H4.out
      go_wp2_with fail
      refine (kaa.out _ H4.out).mono ?_
      rintro e w_5 ⟨rfl, h5⟩
      have H5 := Lib.hid h5
      clear x0 x1 x2 x3 x4 x5 x6 x7 x8 x9 x10 x11 x12 x13 x14 h5
      obtain ⟨-, x0, x1, x2, x3, x4, x5, x6, x7, x8, x9, x10, x11, x12, x13, x14⟩ := seen.out _ H5.out
      go_wp2_with fail
      refine (eaa.out _ H5.out).mono ?_
      rintro e w_6 ⟨rfl, h6⟩
      have H6 := Lib.hid h6
      clear x0 x1 x2 x3 x4 x5 x6 x7 x8 x9 x10 x11 x12 x13 x14 h6
      obtain ⟨-, x0, x1, x2, x3, x4, x5, x6, x7, x8, x9, x10, x11, x12, x13, x14⟩ := seen.out _ H6.out
      go_wp2_with fail
      refine (cA.out _ (LQ.out _ H6.out)).mono ?_
      rintro e wz ⟨rfl, qz⟩
      clear x0 x1 x2 x3 x4 x5 x6 x7 x8 x9 x10 x11 x12 x13 x14
      go_wp2_with fail
      go_ret
      exact ⟨rfl, (LQ.out _ H6.out).trans qz⟩
    · clear hzc
      rw [show decide ((1 : Int) = 0) = false from rfl] at eab
      rw [show (-(1 : Int)) = -1 from rfl] at kba
      obtain ⟨D, hD⟩ : ∃ x, wb3.heap.size = x := ⟨_, rfl⟩
      obtain ⟨wd, hwd⟩ : ∃ x, wb3.alloc (.cells #[.int .i64 ak, .int .i64 an, .string as', .slice A3 an3 k3, .slice A4 an4 k4, .int .i64 bk, .int .i64 bn, .string bs, .slice B3 bn3 l3, .slice B4 bn4 l4, .int .i64 ck, .int .i64 cn, .string cs, .slice C3 cn3 m3, .slice C4 cn4 m4] 26) = x := ⟨_, rfl⟩
      have LD : Hid (L wd) := Lib.hid (by rw [← hwd]; exact stays.out _ _ L0.out (Q.box _ _))
      have cVd := Lib.hid (cVal.out wd D (LQ.out _ LD.out) (by rw [← hwd, ← hD]; exact Bk.new _ _ _))
      go_enter Tryz.func7, Tryz.ntmps7
      go_wp2_with fail
      refine (cVd.out).mono ?_
      rintro e w_1 ⟨rfl, q1⟩
      have H1 := Lib.hid (stays.out _ _ LD.out q1)
      clear x0 x1 x2 x3 x4 x5 x6 x7 x8 x9 x10 x11 x12 x13 x14 q1 hwd hD
      obtain ⟨-, x0, x1, x2, x3, x4, x5, x6, x7, x8, x9, x10, x11, x12, x13, x14⟩ := seen.out _ H1.out
      go_wp2_with fail
      clear x0 x1 x2 x3 x4 x5 x6 x7 x8 x9 x10 x11 x12 x13 x14
      refine Go.wp_region_held_drew (S := (fun w' => Hid (L w') ∧ w'.cell? ⟨P1, 0, none⟩ = some (.int .i64 ak) ∧ w'.cell? ⟨P1, 1, none⟩ = some (.int .i64 an) ∧ w'.cell? ⟨P1, 2, none⟩ = some (.string as') ∧ w'.cell? ⟨P1, 3, none⟩ = some (.slice A3 an3 k3) ∧ w'.cell? ⟨P1, 4, none⟩ = some (.slice A4 an4 k4) ∧ w'.cell? ⟨P2, 0, none⟩ = some (.int .i64 bk) ∧ w'.cell? ⟨P2, 1, none⟩ = some (.int .i64 bn) ∧ w'.cell? ⟨P2, 2, none⟩ = some (.string bs) ∧ w'.cell? ⟨P2, 3, none⟩ = some (.slice B3 bn3 l3) ∧ w'.cell? ⟨P2, 4, none⟩ = some (.slice B4 bn4 l4) ∧ w'.cell? ⟨P3, 0, none⟩ = some (.int .i64 ck) ∧ w'.cell? ⟨P3, 1, none⟩ = some (.int .i64 cn) ∧ w'.cell? ⟨P3, 2, none⟩ = some (.string cs) ∧ w'.cell? ⟨P3, 3, none⟩ = some (.slice C3 cn3 m3) ∧ w'.cell? ⟨P3, 4, none⟩ = some (.slice C4 cn4 m4))) (by kernel_rfl) (seen.out _ (stays.out _ _ H1.out (Q.drewN _ 1))) (fun hHeld => ?_)
      refine Go.wpAnyH_take (i := 0) (oi := _) (v := ?_) rfl (by kernel_rfl) (by kernel_rfl) (by kernel_rfl) (fun _ _ _ h => h) (Or.inl ⟨by rfl, ?_⟩) (by assumption) ?_
      rotate_left 1
      · intro wx hSw
        go_simp <;> with_reducible rfl
      simp only [Act.put, List.getElem_toArray, List.getElem_cons_zero, List.setIfInBounds_toArray, List.set_cons_zero, List.set_cons_succ]
      refine Go.wpAnyH_take (i := 1) (oi := _) (v := ?_) rfl (by kernel_rfl) (by kernel_rfl) (by kernel_rfl) (fun _ _ _ h => h) (Or.inl ⟨by rfl, ?_⟩) (by assumption) ?_
      rotate_left 1
      · intro wx hSw
        go_simp <;> with_reducible rfl
      simp only [Act.put, List.getElem_toArray, List.getElem_cons_zero, List.getElem_cons_succ, List.setIfInBounds_toArray, List.set_cons_zero, List.set_cons_succ]
      refine Go.wpAnyH_take (i := 3) (oi := _) (v := ?_) rfl (by kernel_rfl) (by kernel_rfl) (by kernel_rfl) (fun _ _ _ h => h) (Or.inl ⟨by rfl, ?_⟩) (by assumption) ?_
      rotate_left 1
      · intro wx hSw
        go_simp <;> with_reducible rfl
      simp only [Act.put, List.getElem_toArray, List.getElem_cons_zero, List.getElem_cons_succ, List.setIfInBounds_toArray, List.set_cons_zero, List.set_cons_succ]
      refine Go.wpAnyH_take (i := 4) (oi := _) (v := ?_) rfl (by kernel_rfl) (by kernel_rfl) (by kernel_rfl) (fun _ _ _ h => h) (Or.inl ⟨by rfl, ?_⟩) (by assumption) ?_
      rotate_left 1
      · intro wx hSw
        go_simp <;> with_reducible rfl
      simp only [Act.put, List.getElem_toArray, List.getElem_cons_zero, List.getElem_cons_succ, List.setIfInBounds_toArray, List.set_cons_zero, List.set_cons_succ]
      refine Go.wpAnyH_ready (rs := [2]) (by kernel_rfl) (by simp) ?_
      refine Go.AllReadyH.cons rfl (fun K hK => ?_) Go.AllReadyH.nil
      rw [if_pos (by rfl)]
      go_simp
      refine (kab.out _ hHeld.1.out).mono ?_
      rintro e v2_2 ⟨rfl, g2_2⟩
      refine hK.out _ _ (seen.out _ g2_2) (fun hHeld => ?_)
      clear hK K
      refine Go.wpAnyH_ready (rs := [5]) (by kernel_rfl) (by simp) ?_
      refine Go.AllReadyH.cons rfl (fun K hK => ?_) Go.AllReadyH.nil
      rw [if_pos (by rfl)]
      go_simp
      refine (kbc.out _ hHeld.1.out).mono ?_
      rintro e v2_5 ⟨rfl, g2_5⟩
      refine hK.out _ _ (seen.out _ g2_5) (fun hHeld => ?_)
      clear hK K
      refine Go.wpAnyH_take (i := 6) (oi := _) (v := ?_) rfl (by kernel_rfl) (by kernel_rfl) (by kernel_rfl) (fun _ _ _ h => h) (Or.inl ⟨by rfl, ?_⟩) (by assumption) ?_
      rotate_left 1
      · intro wx hSw
        go_simp <;> with_reducible rfl
      simp only [Act.put, List.getElem_toArray, List.getElem_cons_zero, List.getElem_cons_succ, List.setIfInBounds_toArray, List.set_cons_zero, List.set_cons_succ]
      refine Go.wpAnyH_take (i := 7) (oi := _) (v := ?_) rfl (by kernel_rfl) (by kernel_rfl) (by kernel_rfl) (fun _ _ _ h => h) (Or.inl ⟨by rfl, ?_⟩) (by assumption) ?_
      rotate_left 1
      · intro wx hSw
        go_simp <;> with_reducible rfl
      simp only [Act.put, List.getElem_toArray, List.getElem_cons_zero, List.getElem_cons_succ, List.setIfInBounds_toArray, List.set_cons_zero, List.set_cons_succ]
      refine Go.wpAnyH_done (by kernel_rfl) ?_ _
      have H2 := Lib.hid hHeld.1.out
      obtain ⟨-, x0, x1, x2, x3, x4, x5, x6, x7, x8, x9, x10, x11, x12, x13, x14⟩ := hHeld
      go_wp2_with fail
      refine (kba.out _ H2.out).mono ?_
      rintro e w_3 ⟨rfl, h3⟩
      have H3 := Lib.hid h3
      clear x0 x1 x2 x3 x4 x5 x6 x7 x8 x9 x10 x11 x12 x13 x14 h3
      obtain ⟨-, x0, x1, x2, x3, x4, x5, x6, x7, x8, x9, x10, x11, x12, x13, x14⟩ := seen.out _ H3.out
      go_wp2_with fail
      refine (eab.out _ H3.out).mono ?_
      rintro e w_4 ⟨rfl, h4⟩
      have H4 := Lib.hid h4
      clear x0 x1 x2 x3 x4 x5 x6 x7 x8 x9 x10 x11 x12 x13 x14 h4
      obtain ⟨-, x0, x1, x2, x3, x4, x5, x6, x7, x8, x9, x10, x11, x12, x13, x14⟩ := seen.out _ H4.out
      go_wp2_with fail
      refine (kaa.out _ H4.out).mono ?_
      rintro e w_5 ⟨rfl, h5⟩
      have H5 := Lib.hid h5
      clear x0 x1 x2 x3 x4 x5 x6 x7 x8 x9 x10 x11 x12 x13 x14 h5
      obtain ⟨-, x0, x1, x2, x3, x4, x5, x6, x7, x8, x9, x10, x11, x12, x13, x14⟩ := seen.out _ H5.out
      go_wp2_with fail
      refine (eaa.out _ H5.out).mono ?_
      rintro e w_6 ⟨rfl, h6⟩
      have H6 := Lib.hid h6
      clear x0 x1 x2 x3 x4 x5 x6 x7 x8 x9 x10 x11 x12 x13 x14 h6
      obtain ⟨-, x0, x1, x2, x3, x4, x5, x6, x7, x8, x9, x10, x11, x12, x13, x14⟩ := seen.out _ H6.out
      go_wp2_with fail
      refine (cA.out _ (LQ.out _ H6.out)).mono ?_
      rintro e wz ⟨rfl, qz⟩
      clear x0 x1 x2 x3 x4 x5 x6 x7 x8 x9 x10 x11 x12 x13 x14
      go_wp2_with fail
      go_ret
      exact ⟨rfl, (LQ.out _ H6.out).trans qz⟩

end Go.Proofs.YtjmchjphdfbhiaaGreatDoor.val
