/- The law ValueRefines. -/
import Derived.Test.YtjmchjphdfbhiaaGreatDoorVal
import Derived.Test.YtjmchjphdfbhiaaGreatDoorWva
import Derived.Test.YtjmchjphdfbhiaaGreatDoorWfx
namespace Go.Proofs.YtjmchjphdfbhiaaGreatDoor.val
open Go.RowKit
open Go.Proofs.YtjmchjphdfbhiaaGreatDoor
open Go.Proofs.YtjmchjphdfbhiaaGreatDoor.lit (Fx)
theorem sane_u : sane vU := (valid_sane (show chkE vU = 0 by decide)).1
set_option maxRecDepth 100000 in
set_option maxHeartbeats 40000000 in
theorem refinesLaw_any (a : V) (A3 : Option Addr) (k3 : Nat) (A4 : Option Addr) (k4 : Nat) (b : V) (B3 : Option Addr) (l3 : Nat) (B4 : Option Addr) (l4 : Nat) (c : V) (C3 : Option Addr) (m3 : Nat) (C4 : Option Addr) (m4 : Nat) (w : World) (ha : Va a A3 k3 A4 k4 w) (hb : Va b B3 l3 B4 l4 w) (hc : Va c C3 m3 C4 m4 w) (f : Fx w) :
    Calls Tryz.prog 8 #[vv a A3 k3 A4 k4, vv b B3 l3 B4 l4, vv c C3 m3 C4 m4] w fun e w' => e = .returned (.bool true) ∧ Q w w' := by
  have cA := Lib.hid (fun w' (q : Q w w') => awake_any w' (q.fx f))
  have cVal : Hid (∀ w' D, Q w w' → Bk D #[.int .i64 a.kind, .int .i64 a.num, .string a.str, .slice A3 a.items.length k3, .slice A4 a.keys.length k4, .int .i64 b.kind, .int .i64 b.num, .string b.str, .slice B3 b.items.length l3, .slice B4 b.keys.length l4, .int .i64 c.kind, .int .i64 c.num, .string c.str, .slice C3 c.items.length m3, .slice C4 c.keys.length m4] 26 w' → Calls Tryz.prog 33 #[.slice (some ⟨D, 0, none⟩) 3 3] w' fun e w'' => e = .returned (.bool ([a, b, c].all okV)) ∧ Q w' w'') := Lib.hid (fun w' D q hD => valid_law [a, b, c] _ 3 3 w' ⟨_, 3, rfl, Nat.le_refl _, fun _ => ⟨D, 0, rfl, by
    rw [VL_cons, VL_cons, VL_cons]
    exact ⟨⟨_, _, _, _, _, hD.at 0 _ rfl, hD.at 1 _ rfl, hD.at 2 _ rfl, hD.at 3 _ rfl, hD.at 4 _ rfl, Vi.of (ha.1.stays q) (ha.2.1.stays q)⟩, ⟨_, _, _, _, _, hD.at 5 _ rfl, hD.at 6 _ rfl, hD.at 7 _ rfl, hD.at 8 _ rfl, hD.at 9 _ rfl, Vi.of (hb.1.stays q) (hb.2.1.stays q)⟩, ⟨_, _, _, _, _, hD.at 10 _ rfl, hD.at 11 _ rfl, hD.at 12 _ rfl, hD.at 13 _ rfl, hD.at 14 _ rfl, Vi.of (hc.1.stays q) (hc.2.1.stays q)⟩, VL_nil _ _ _⟩⟩⟩ ((WfL_cons _ _).2 ⟨ha.2.2, (WfL_cons _ _).2 ⟨hb.2.2, (WfL_cons _ _).2 ⟨hc.2.2, WfL_nil⟩⟩⟩) (by decide))
  unfold vv
  by_cases hall : [a, b, c].all okV = true
  rotate_left 1
  · rw [Bool.not_eq_true] at hall
    rw [hall] at cVal
    clear hall
    obtain ⟨ak, eak⟩ : ∃ x, a.kind = x := ⟨_, rfl⟩
    obtain ⟨an, ean⟩ : ∃ x, a.num = x := ⟨_, rfl⟩
    obtain ⟨as', eas_⟩ : ∃ x, a.str = x := ⟨_, rfl⟩
    obtain ⟨an3, ean3⟩ : ∃ x, a.items.length = x := ⟨_, rfl⟩
    obtain ⟨an4, ean4⟩ : ∃ x, a.keys.length = x := ⟨_, rfl⟩
    obtain ⟨bk, ebk⟩ : ∃ x, b.kind = x := ⟨_, rfl⟩
    obtain ⟨bn, ebn⟩ : ∃ x, b.num = x := ⟨_, rfl⟩
    obtain ⟨bs, ebs⟩ : ∃ x, b.str = x := ⟨_, rfl⟩
    obtain ⟨bn3, ebn3⟩ : ∃ x, b.items.length = x := ⟨_, rfl⟩
    obtain ⟨bn4, ebn4⟩ : ∃ x, b.keys.length = x := ⟨_, rfl⟩
    obtain ⟨ck, eck⟩ : ∃ x, c.kind = x := ⟨_, rfl⟩
    obtain ⟨cn, ecn⟩ : ∃ x, c.num = x := ⟨_, rfl⟩
    obtain ⟨cs, ecs⟩ : ∃ x, c.str = x := ⟨_, rfl⟩
    obtain ⟨cn3, ecn3⟩ : ∃ x, c.items.length = x := ⟨_, rfl⟩
    obtain ⟨cn4, ecn4⟩ : ∃ x, c.keys.length = x := ⟨_, rfl⟩
    rw [eak, ean, eas_, ean3, ean4] at cVal
    rw [eak, ean, eas_, ean3, ean4] at ⊢
    rw [ebk, ebn, ebs, ebn3, ebn4] at cVal
    rw [ebk, ebn, ebs, ebn3, ebn4] at ⊢
    rw [eck, ecn, ecs, ecn3, ecn4] at cVal
    rw [eck, ecn, ecs, ecn3, ecn4] at ⊢
    clear ha hb hc
    obtain ⟨P1, hP1⟩ : ∃ x, w.heap.size = x := ⟨_, rfl⟩
    obtain ⟨wb1, hwb1⟩ : ∃ x, w.alloc (.cells #[.int .i64 ak, .int .i64 an, .string as', .slice A3 an3 k3, .slice A4 an4 k4] 26) = x := ⟨_, rfl⟩
    have qb1 : Q w wb1 := by rw [← hwb1]; exact Q.box _ _
    have bb1 : Bk P1 #[.int .i64 ak, .int .i64 an, .string as', .slice A3 an3 k3, .slice A4 an4 k4] 26 wb1 := by rw [← hwb1, ← hP1]; exact Bk.new _ _ _
    obtain ⟨P2, hP2⟩ : ∃ x, wb1.heap.size = x := ⟨_, rfl⟩
    obtain ⟨wb2, hwb2⟩ : ∃ x, wb1.alloc (.cells #[.int .i64 bk, .int .i64 bn, .string bs, .slice B3 bn3 l3, .slice B4 bn4 l4] 26) = x := ⟨_, rfl⟩
    have qb2 : Q wb1 wb2 := by rw [← hwb2]; exact Q.box _ _
    have bb2 : Bk P2 #[.int .i64 bk, .int .i64 bn, .string bs, .slice B3 bn3 l3, .slice B4 bn4 l4] 26 wb2 := by rw [← hwb2, ← hP2]; exact Bk.new _ _ _
    obtain ⟨P3, hP3⟩ : ∃ x, wb2.heap.size = x := ⟨_, rfl⟩
    obtain ⟨wb3, hwb3⟩ : ∃ x, wb2.alloc (.cells #[.int .i64 ck, .int .i64 cn, .string cs, .slice C3 cn3 m3, .slice C4 cn4 m4] 26) = x := ⟨_, rfl⟩
    have qb3 : Q wb2 wb3 := by rw [← hwb3]; exact Q.box _ _
    have bb3 : Bk P3 #[.int .i64 ck, .int .i64 cn, .string cs, .slice C3 cn3 m3, .slice C4 cn4 m4] 26 wb3 := by rw [← hwb3, ← hP3]; exact Bk.new _ _ _
    obtain ⟨L, hL⟩ : ∃ L : World → Prop, L = fun w' => Q w w' ∧ Bk P1 #[.int .i64 ak, .int .i64 an, .string as', .slice A3 an3 k3, .slice A4 an4 k4] 26 w' ∧ Bk P2 #[.int .i64 bk, .int .i64 bn, .string bs, .slice B3 bn3 l3, .slice B4 bn4 l4] 26 w' ∧ Bk P3 #[.int .i64 ck, .int .i64 cn, .string cs, .slice C3 cn3 m3, .slice C4 cn4 m4] 26 w' := ⟨_, rfl⟩
    have L0 : Hid (L wb3) := Lib.hid (by rw [hL]; exact ⟨((qb1).trans qb2).trans qb3, ((bb1).stays qb2).stays qb3, (bb2).stays qb3, bb3⟩)
    have stays : Hid (∀ w' w'', L w' → Q w' w'' → L w'') := Lib.hid (fun w' w'' h q => by rw [hL] at h ⊢; exact ⟨h.1.trans q, (h.2.1).stays q, (h.2.2.1).stays q, (h.2.2.2).stays q⟩)
    have LQ : Hid (∀ w', L w' → Q w w') := Lib.hid (fun w' h => by rw [hL] at h; exact h.1)
    have seen : Hid (∀ w', L w' → Hid (L w') ∧ w'.cell? ⟨P1, 0, none⟩ = some (.int .i64 ak) ∧ w'.cell? ⟨P1, 1, none⟩ = some (.int .i64 an) ∧ w'.cell? ⟨P1, 2, none⟩ = some (.string as') ∧ w'.cell? ⟨P1, 3, none⟩ = some (.slice A3 an3 k3) ∧ w'.cell? ⟨P1, 4, none⟩ = some (.slice A4 an4 k4) ∧ w'.cell? ⟨P2, 0, none⟩ = some (.int .i64 bk) ∧ w'.cell? ⟨P2, 1, none⟩ = some (.int .i64 bn) ∧ w'.cell? ⟨P2, 2, none⟩ = some (.string bs) ∧ w'.cell? ⟨P2, 3, none⟩ = some (.slice B3 bn3 l3) ∧ w'.cell? ⟨P2, 4, none⟩ = some (.slice B4 bn4 l4) ∧ w'.cell? ⟨P3, 0, none⟩ = some (.int .i64 ck) ∧ w'.cell? ⟨P3, 1, none⟩ = some (.int .i64 cn) ∧ w'.cell? ⟨P3, 2, none⟩ = some (.string cs) ∧ w'.cell? ⟨P3, 3, none⟩ = some (.slice C3 cn3 m3) ∧ w'.cell? ⟨P3, 4, none⟩ = some (.slice C4 cn4 m4)) := Lib.hid (fun w' h => ⟨Lib.hid h, by rw [hL] at h; exact ⟨(h.2.1).at 0 _ rfl, (h.2.1).at 1 _ rfl, (h.2.1).at 2 _ rfl, (h.2.1).at 3 _ rfl, (h.2.1).at 4 _ rfl, (h.2.2.1).at 0 _ rfl, (h.2.2.1).at 1 _ rfl, (h.2.2.1).at 2 _ rfl, (h.2.2.1).at 3 _ rfl, (h.2.2.1).at 4 _ rfl, (h.2.2.2).at 0 _ rfl, (h.2.2.2).at 1 _ rfl, (h.2.2.2).at 2 _ rfl, (h.2.2.2).at 3 _ rfl, (h.2.2.2).at 4 _ rfl⟩⟩)
    clear hL qb1 bb1 qb2 bb2 qb3 bb3
    obtain ⟨-, x0, x1, x2, x3, x4, x5, x6, x7, x8, x9, x10, x11, x12, x13, x14⟩ := seen.out _ L0.out
    obtain ⟨D, hD⟩ : ∃ x, wb3.heap.size = x := ⟨_, rfl⟩
    obtain ⟨wd, hwd⟩ : ∃ x, wb3.alloc (.cells #[.int .i64 ak, .int .i64 an, .string as', .slice A3 an3 k3, .slice A4 an4 k4, .int .i64 bk, .int .i64 bn, .string bs, .slice B3 bn3 l3, .slice B4 bn4 l4, .int .i64 ck, .int .i64 cn, .string cs, .slice C3 cn3 m3, .slice C4 cn4 m4] 26) = x := ⟨_, rfl⟩
    have LD : Hid (L wd) := Lib.hid (by rw [← hwd]; exact stays.out _ _ L0.out (Q.box _ _))
    have cVd := Lib.hid (cVal.out wd D (LQ.out _ LD.out) (by rw [← hwd, ← hD]; exact Bk.new _ _ _))
    go_enter Tryz.func8, Tryz.ntmps8
    go_wp2_with fail
    refine (cVd.out).mono ?_
    rintro e w_1 ⟨rfl, q1⟩
    have H1 := Lib.hid (stays.out _ _ LD.out q1)
    clear x0 x1 x2 x3 x4 x5 x6 x7 x8 x9 x10 x11 x12 x13 x14 q1 hwd hD
    obtain ⟨-, x0, x1, x2, x3, x4, x5, x6, x7, x8, x9, x10, x11, x12, x13, x14⟩ := seen.out _ H1.out
    go_wp2_with fail
    refine (cA.out _ (LQ.out _ H1.out)).mono ?_
    rintro e wz ⟨rfl, qz⟩
    clear x0 x1 x2 x3 x4 x5 x6 x7 x8 x9 x10 x11 x12 x13 x14
    go_wp2_with fail
    go_ret
    exact ⟨rfl, (LQ.out _ H1.out).trans qz⟩
  rw [hall] at cVal
  simp only [List.all_cons, List.all_nil, Bool.and_true, Bool.and_eq_true] at hall
  obtain ⟨oa, ob, oc⟩ := hall
  obtain ⟨na, ca, sa⟩ := okV_says oa
  obtain ⟨nb, cb, sb⟩ := okV_says ob
  obtain ⟨nc, cc, sc⟩ := okV_says oc
  have rab : Hid (∀ w', Q w w' → Calls Tryz.prog 39 #[.agg #[.int .i64 a.kind, .int .i64 a.num, .string a.str, .slice A3 a.items.length k3, .slice A4 a.keys.length k4], .agg #[.int .i64 b.kind, .int .i64 b.num, .string b.str, .slice B3 b.items.length l3, .slice B4 b.keys.length l4]] w' fun e w'' => e = .returned (.bool (refB a b)) ∧ Q w' w'') := Lib.hid (fun w' q => refines_any a b _ _ _ _ w' w q ⟨ha.1, ha.2.1, ha.2.2⟩ ⟨hb.1, hb.2.1, hb.2.2⟩ sa sb (by omega))
  have rbc : Hid (∀ w', Q w w' → Calls Tryz.prog 39 #[.agg #[.int .i64 b.kind, .int .i64 b.num, .string b.str, .slice B3 b.items.length l3, .slice B4 b.keys.length l4], .agg #[.int .i64 c.kind, .int .i64 c.num, .string c.str, .slice C3 c.items.length m3, .slice C4 c.keys.length m4]] w' fun e w'' => e = .returned (.bool (refB b c)) ∧ Q w' w'') := Lib.hid (fun w' q => refines_any b c _ _ _ _ w' w q ⟨hb.1, hb.2.1, hb.2.2⟩ ⟨hc.1, hc.2.1, hc.2.2⟩ sb sc (by omega))
  have rba : Hid (∀ w', Q w w' → Calls Tryz.prog 39 #[.agg #[.int .i64 b.kind, .int .i64 b.num, .string b.str, .slice B3 b.items.length l3, .slice B4 b.keys.length l4], .agg #[.int .i64 a.kind, .int .i64 a.num, .string a.str, .slice A3 a.items.length k3, .slice A4 a.keys.length k4]] w' fun e w'' => e = .returned (.bool (refB b a)) ∧ Q w' w'') := Lib.hid (fun w' q => refines_any b a _ _ _ _ w' w q ⟨hb.1, hb.2.1, hb.2.2⟩ ⟨ha.1, ha.2.1, ha.2.2⟩ sb sa (by omega))
  have raa : Hid (∀ w', Q w w' → Calls Tryz.prog 39 #[.agg #[.int .i64 a.kind, .int .i64 a.num, .string a.str, .slice A3 a.items.length k3, .slice A4 a.keys.length k4], .agg #[.int .i64 a.kind, .int .i64 a.num, .string a.str, .slice A3 a.items.length k3, .slice A4 a.keys.length k4]] w' fun e w'' => e = .returned (.bool (refB a a)) ∧ Q w' w'') := Lib.hid (fun w' q => refines_any a a _ _ _ _ w' w q ⟨ha.1, ha.2.1, ha.2.2⟩ ⟨ha.1, ha.2.1, ha.2.2⟩ sa sa (by omega))
  have rac : Hid (∀ w', Q w w' → Calls Tryz.prog 39 #[.agg #[.int .i64 a.kind, .int .i64 a.num, .string a.str, .slice A3 a.items.length k3, .slice A4 a.keys.length k4], .agg #[.int .i64 c.kind, .int .i64 c.num, .string c.str, .slice C3 c.items.length m3, .slice C4 c.keys.length m4]] w' fun e w'' => e = .returned (.bool (refB a c)) ∧ Q w' w'') := Lib.hid (fun w' q => refines_any a c _ _ _ _ w' w q ⟨ha.1, ha.2.1, ha.2.2⟩ ⟨hc.1, hc.2.1, hc.2.2⟩ sa sc (by omega))
  have qab : Hid (∀ w', Q w w' → Calls Tryz.prog 34 #[.agg #[.int .i64 a.kind, .int .i64 a.num, .string a.str, .slice A3 a.items.length k3, .slice A4 a.keys.length k4], .agg #[.int .i64 b.kind, .int .i64 b.num, .string b.str, .slice B3 b.items.length l3, .slice B4 b.keys.length l4]] w' fun e w'' => e = .returned (.bool (decide (cV a b = 0))) ∧ Q w' w'') := Lib.hid (fun w' q => equal_any a b _ _ _ _ w' w q ⟨ha.1, ha.2.1, ha.2.2⟩ ⟨hb.1, hb.2.1, hb.2.2⟩ sa sb (by omega))
  have rkb : Hid (∀ w', Q w w' → Calls Tryz.prog 37 #[.agg #[.int .i64 b.kind, .int .i64 b.num, .string b.str, .slice B3 b.items.length l3, .slice B4 b.keys.length l4]] w' fun e w'' => e = .returned (.bool (known b)) ∧ Q w' w'') := Lib.hid (fun w' q => known_any b _ _ w' w q hb.1 hb.2.1 hb.2.2 (by omega))
  have rna : Hid (∀ w', Q w w' → Calls Tryz.prog 41 #[.agg #[.int .i64 a.kind, .int .i64 a.num, .string a.str, .slice A3 a.items.length k3, .slice A4 a.keys.length k4]] w' fun e w'' => e = .returned (.int .i64 (nodes a : Nat)) ∧ Q w' w'') := Lib.hid (fun w' q => nodes_any a _ _ w' w q ha.1 ha.2.1 ha.2.2 (by omega))
  have rnb : Hid (∀ w', Q w w' → Calls Tryz.prog 41 #[.agg #[.int .i64 b.kind, .int .i64 b.num, .string b.str, .slice B3 b.items.length l3, .slice B4 b.keys.length l4]] w' fun e w'' => e = .returned (.int .i64 (nodes b : Nat)) ∧ Q w' w'') := Lib.hid (fun w' q => nodes_any b _ _ w' w q hb.1 hb.2.1 hb.2.2 (by omega))
  have raU : Hid (∀ w', Q w w' → ∀ (U3 : Option Addr) (u3 : Nat) (U4 : Option Addr) (u4 : Nat), Calls Tryz.prog 39 #[.agg #[.int .i64 a.kind, .int .i64 a.num, .string a.str, .slice A3 a.items.length k3, .slice A4 a.keys.length k4], .agg #[.int .i64 6, .int .i64 0, .string ⟨#[]⟩, .slice U3 0 u3, .slice U4 0 u4]] w' fun e w'' => e = .returned (.bool true) ∧ Q w' w'') := Lib.hid (fun w' q U3 u3 U4 u4 => by
    have h := refines_any a vU _ _ (.slice U3 0 u3) (.slice U4 0 u4) w' w q ⟨ha.1, ha.2.1, ha.2.2⟩ (at_leaf 6 0 (by decide) (by decide) _ _ _ _ _) sa sane_u (by omega)
    rw [show refB a vU = true from by cases a; exact (ref_iff ..).2 (.inl rfl)] at h
    exact h)
  have t1 : refB a a = true := ref_refl.1 a
  have t2 := Lib.hid (ref_trans.1 a b c)
  have t3 := Lib.hid (ref_anti.1 a b sa sb)
  have t4 := Lib.hid (fun (h : known b = true) (g : refB a b = true) => ref_known.1 a b h g)
  have t5 := Lib.hid (ref_nodes.1 a b sb)
  have t6 : Hid (a = b → decide (cV a b = 0) = true) := Lib.hid (fun h => decide_eq_true ((cV_two.1 a b sa sb).1.2 h))
  rw [t1] at raa
  obtain ⟨AB, hAB⟩ : ∃ x, refB a b = x := ⟨_, rfl⟩
  obtain ⟨BC, hBC⟩ : ∃ x, refB b c = x := ⟨_, rfl⟩
  obtain ⟨BA, hBA⟩ : ∃ x, refB b a = x := ⟨_, rfl⟩
  obtain ⟨AC, hAC⟩ : ∃ x, refB a c = x := ⟨_, rfl⟩
  obtain ⟨KB, hKB⟩ : ∃ x, known b = x := ⟨_, rfl⟩
  obtain ⟨EQ, hEQ⟩ : ∃ x, decide (cV a b = 0) = x := ⟨_, rfl⟩
  obtain ⟨NA, hNA⟩ : ∃ x, nodes a = x := ⟨_, rfl⟩
  obtain ⟨NB, hNB⟩ : ∃ x, nodes b = x := ⟨_, rfl⟩
  rw [hAB] at rab t2 t3 t4 t5
  rw [hBC] at rbc t2
  rw [hBA] at rba t3
  rw [hAC] at rac t2
  rw [hKB] at rkb t4
  rw [hEQ] at qab t6
  rw [hNA] at rna t5
  rw [hNB] at rnb t5
  have TR : Hid (AB = true → BC = true → AC = true) := Lib.hid t2.out
  have TE : Hid (AB = true → BA = true → EQ = true) := Lib.hid (fun h g => t6.out (t3.out h g))
  have TK : Hid (KB = true → AB = true → EQ = true) := Lib.hid (fun h g => t6.out (t4.out h g))
  have TN : Hid (AB = true → NB ≤ NA) := Lib.hid t5.out
  clear t1 t2 t3 t4 t5 t6 hAB hBC hBA hAC hKB hEQ hNA hNB oa ob oc na nb nc ca cb cc sa sb sc
  obtain ⟨ak, eak⟩ : ∃ x, a.kind = x := ⟨_, rfl⟩
  obtain ⟨an, ean⟩ : ∃ x, a.num = x := ⟨_, rfl⟩
  obtain ⟨as', eas_⟩ : ∃ x, a.str = x := ⟨_, rfl⟩
  obtain ⟨an3, ean3⟩ : ∃ x, a.items.length = x := ⟨_, rfl⟩
  obtain ⟨an4, ean4⟩ : ∃ x, a.keys.length = x := ⟨_, rfl⟩
  obtain ⟨bk, ebk⟩ : ∃ x, b.kind = x := ⟨_, rfl⟩
  obtain ⟨bn, ebn⟩ : ∃ x, b.num = x := ⟨_, rfl⟩
  obtain ⟨bs, ebs⟩ : ∃ x, b.str = x := ⟨_, rfl⟩
  obtain ⟨bn3, ebn3⟩ : ∃ x, b.items.length = x := ⟨_, rfl⟩
  obtain ⟨bn4, ebn4⟩ : ∃ x, b.keys.length = x := ⟨_, rfl⟩
  obtain ⟨ck, eck⟩ : ∃ x, c.kind = x := ⟨_, rfl⟩
  obtain ⟨cn, ecn⟩ : ∃ x, c.num = x := ⟨_, rfl⟩
  obtain ⟨cs, ecs⟩ : ∃ x, c.str = x := ⟨_, rfl⟩
  obtain ⟨cn3, ecn3⟩ : ∃ x, c.items.length = x := ⟨_, rfl⟩
  obtain ⟨cn4, ecn4⟩ : ∃ x, c.keys.length = x := ⟨_, rfl⟩
  rw [eak, ean, eas_, ean3, ean4] at cVal
  rw [eak, ean, eas_, ean3, ean4] at rab
  rw [eak, ean, eas_, ean3, ean4] at rba
  rw [eak, ean, eas_, ean3, ean4] at raa
  rw [eak, ean, eas_, ean3, ean4] at rac
  rw [eak, ean, eas_, ean3, ean4] at qab
  rw [eak, ean, eas_, ean3, ean4] at rna
  rw [eak, ean, eas_, ean3, ean4] at raU
  rw [eak, ean, eas_, ean3, ean4] at ⊢
  rw [ebk, ebn, ebs, ebn3, ebn4] at cVal
  rw [ebk, ebn, ebs, ebn3, ebn4] at rab
  rw [ebk, ebn, ebs, ebn3, ebn4] at rbc
  rw [ebk, ebn, ebs, ebn3, ebn4] at rba
  rw [ebk, ebn, ebs, ebn3, ebn4] at qab
  rw [ebk, ebn, ebs, ebn3, ebn4] at rkb
  rw [ebk, ebn, ebs, ebn3, ebn4] at rnb
  rw [ebk, ebn, ebs, ebn3, ebn4] at ⊢
  rw [eck, ecn, ecs, ecn3, ecn4] at cVal
  rw [eck, ecn, ecs, ecn3, ecn4] at rbc
  rw [eck, ecn, ecs, ecn3, ecn4] at rac
  rw [eck, ecn, ecs, ecn3, ecn4] at ⊢
  clear ha hb hc f
  obtain ⟨P1, hP1⟩ : ∃ x, w.heap.size = x := ⟨_, rfl⟩
  obtain ⟨wb1, hwb1⟩ : ∃ x, w.alloc (.cells #[.int .i64 ak, .int .i64 an, .string as', .slice A3 an3 k3, .slice A4 an4 k4] 26) = x := ⟨_, rfl⟩
  have qb1 : Q w wb1 := by rw [← hwb1]; exact Q.box _ _
  have bb1 : Bk P1 #[.int .i64 ak, .int .i64 an, .string as', .slice A3 an3 k3, .slice A4 an4 k4] 26 wb1 := by rw [← hwb1, ← hP1]; exact Bk.new _ _ _
  obtain ⟨P2, hP2⟩ : ∃ x, wb1.heap.size = x := ⟨_, rfl⟩
  obtain ⟨wb2, hwb2⟩ : ∃ x, wb1.alloc (.cells #[.int .i64 bk, .int .i64 bn, .string bs, .slice B3 bn3 l3, .slice B4 bn4 l4] 26) = x := ⟨_, rfl⟩
  have qb2 : Q wb1 wb2 := by rw [← hwb2]; exact Q.box _ _
  have bb2 : Bk P2 #[.int .i64 bk, .int .i64 bn, .string bs, .slice B3 bn3 l3, .slice B4 bn4 l4] 26 wb2 := by rw [← hwb2, ← hP2]; exact Bk.new _ _ _
  obtain ⟨P3, hP3⟩ : ∃ x, wb2.heap.size = x := ⟨_, rfl⟩
  obtain ⟨wb3, hwb3⟩ : ∃ x, wb2.alloc (.cells #[.int .i64 ck, .int .i64 cn, .string cs, .slice C3 cn3 m3, .slice C4 cn4 m4] 26) = x := ⟨_, rfl⟩
  have qb3 : Q wb2 wb3 := by rw [← hwb3]; exact Q.box _ _
  have bb3 : Bk P3 #[.int .i64 ck, .int .i64 cn, .string cs, .slice C3 cn3 m3, .slice C4 cn4 m4] 26 wb3 := by rw [← hwb3, ← hP3]; exact Bk.new _ _ _
  obtain ⟨L, hL⟩ : ∃ L : World → Prop, L = fun w' => Q w w' ∧ Bk P1 #[.int .i64 ak, .int .i64 an, .string as', .slice A3 an3 k3, .slice A4 an4 k4] 26 w' ∧ Bk P2 #[.int .i64 bk, .int .i64 bn, .string bs, .slice B3 bn3 l3, .slice B4 bn4 l4] 26 w' ∧ Bk P3 #[.int .i64 ck, .int .i64 cn, .string cs, .slice C3 cn3 m3, .slice C4 cn4 m4] 26 w' := ⟨_, rfl⟩
  have L0 : Hid (L wb3) := Lib.hid (by rw [hL]; exact ⟨((qb1).trans qb2).trans qb3, ((bb1).stays qb2).stays qb3, (bb2).stays qb3, bb3⟩)
  have stays : Hid (∀ w' w'', L w' → Q w' w'' → L w'') := Lib.hid (fun w' w'' h q => by rw [hL] at h ⊢; exact ⟨h.1.trans q, (h.2.1).stays q, (h.2.2.1).stays q, (h.2.2.2).stays q⟩)
  have LQ : Hid (∀ w', L w' → Q w w') := Lib.hid (fun w' h => by rw [hL] at h; exact h.1)
  have seen : Hid (∀ w', L w' → Hid (L w') ∧ w'.cell? ⟨P1, 0, none⟩ = some (.int .i64 ak) ∧ w'.cell? ⟨P1, 1, none⟩ = some (.int .i64 an) ∧ w'.cell? ⟨P1, 2, none⟩ = some (.string as') ∧ w'.cell? ⟨P1, 3, none⟩ = some (.slice A3 an3 k3) ∧ w'.cell? ⟨P1, 4, none⟩ = some (.slice A4 an4 k4) ∧ w'.cell? ⟨P2, 0, none⟩ = some (.int .i64 bk) ∧ w'.cell? ⟨P2, 1, none⟩ = some (.int .i64 bn) ∧ w'.cell? ⟨P2, 2, none⟩ = some (.string bs) ∧ w'.cell? ⟨P2, 3, none⟩ = some (.slice B3 bn3 l3) ∧ w'.cell? ⟨P2, 4, none⟩ = some (.slice B4 bn4 l4) ∧ w'.cell? ⟨P3, 0, none⟩ = some (.int .i64 ck) ∧ w'.cell? ⟨P3, 1, none⟩ = some (.int .i64 cn) ∧ w'.cell? ⟨P3, 2, none⟩ = some (.string cs) ∧ w'.cell? ⟨P3, 3, none⟩ = some (.slice C3 cn3 m3) ∧ w'.cell? ⟨P3, 4, none⟩ = some (.slice C4 cn4 m4)) := Lib.hid (fun w' h => ⟨Lib.hid h, by rw [hL] at h; exact ⟨(h.2.1).at 0 _ rfl, (h.2.1).at 1 _ rfl, (h.2.1).at 2 _ rfl, (h.2.1).at 3 _ rfl, (h.2.1).at 4 _ rfl, (h.2.2.1).at 0 _ rfl, (h.2.2.1).at 1 _ rfl, (h.2.2.1).at 2 _ rfl, (h.2.2.1).at 3 _ rfl, (h.2.2.1).at 4 _ rfl, (h.2.2.2).at 0 _ rfl, (h.2.2.2).at 1 _ rfl, (h.2.2.2).at 2 _ rfl, (h.2.2.2).at 3 _ rfl, (h.2.2.2).at 4 _ rfl⟩⟩)
  clear hL qb1 bb1 qb2 bb2 qb3 bb3
  obtain ⟨-, x0, x1, x2, x3, x4, x5, x6, x7, x8, x9, x10, x11, x12, x13, x14⟩ := seen.out _ L0.out
  have kab : Hid (∀ w', L w' → Calls Tryz.prog 39 #[.agg #[.int .i64 ak, .int .i64 an, .string as', .slice A3 an3 k3, .slice A4 an4 k4], .agg #[.int .i64 bk, .int .i64 bn, .string bs, .slice B3 bn3 l3, .slice B4 bn4 l4]] w' fun e w'' => e = .returned (.bool AB) ∧ L w'') := Lib.hid (fun w' h => (rab.out w' (LQ.out _ h) ).mono fun _ _ g => ⟨g.1, stays.out _ _ h g.2⟩)
  have kbc : Hid (∀ w', L w' → Calls Tryz.prog 39 #[.agg #[.int .i64 bk, .int .i64 bn, .string bs, .slice B3 bn3 l3, .slice B4 bn4 l4], .agg #[.int .i64 ck, .int .i64 cn, .string cs, .slice C3 cn3 m3, .slice C4 cn4 m4]] w' fun e w'' => e = .returned (.bool BC) ∧ L w'') := Lib.hid (fun w' h => (rbc.out w' (LQ.out _ h) ).mono fun _ _ g => ⟨g.1, stays.out _ _ h g.2⟩)
  have kba : Hid (∀ w', L w' → Calls Tryz.prog 39 #[.agg #[.int .i64 bk, .int .i64 bn, .string bs, .slice B3 bn3 l3, .slice B4 bn4 l4], .agg #[.int .i64 ak, .int .i64 an, .string as', .slice A3 an3 k3, .slice A4 an4 k4]] w' fun e w'' => e = .returned (.bool BA) ∧ L w'') := Lib.hid (fun w' h => (rba.out w' (LQ.out _ h) ).mono fun _ _ g => ⟨g.1, stays.out _ _ h g.2⟩)
  have kaa : Hid (∀ w', L w' → Calls Tryz.prog 39 #[.agg #[.int .i64 ak, .int .i64 an, .string as', .slice A3 an3 k3, .slice A4 an4 k4], .agg #[.int .i64 ak, .int .i64 an, .string as', .slice A3 an3 k3, .slice A4 an4 k4]] w' fun e w'' => e = .returned (.bool true) ∧ L w'') := Lib.hid (fun w' h => (raa.out w' (LQ.out _ h) ).mono fun _ _ g => ⟨g.1, stays.out _ _ h g.2⟩)
  have kac : Hid (∀ w', L w' → Calls Tryz.prog 39 #[.agg #[.int .i64 ak, .int .i64 an, .string as', .slice A3 an3 k3, .slice A4 an4 k4], .agg #[.int .i64 ck, .int .i64 cn, .string cs, .slice C3 cn3 m3, .slice C4 cn4 m4]] w' fun e w'' => e = .returned (.bool AC) ∧ L w'') := Lib.hid (fun w' h => (rac.out w' (LQ.out _ h) ).mono fun _ _ g => ⟨g.1, stays.out _ _ h g.2⟩)
  have eab : Hid (∀ w', L w' → Calls Tryz.prog 34 #[.agg #[.int .i64 ak, .int .i64 an, .string as', .slice A3 an3 k3, .slice A4 an4 k4], .agg #[.int .i64 bk, .int .i64 bn, .string bs, .slice B3 bn3 l3, .slice B4 bn4 l4]] w' fun e w'' => e = .returned (.bool EQ) ∧ L w'') := Lib.hid (fun w' h => (qab.out w' (LQ.out _ h) ).mono fun _ _ g => ⟨g.1, stays.out _ _ h g.2⟩)
  have kkb : Hid (∀ w', L w' → Calls Tryz.prog 37 #[.agg #[.int .i64 bk, .int .i64 bn, .string bs, .slice B3 bn3 l3, .slice B4 bn4 l4]] w' fun e w'' => e = .returned (.bool KB) ∧ L w'') := Lib.hid (fun w' h => (rkb.out w' (LQ.out _ h) ).mono fun _ _ g => ⟨g.1, stays.out _ _ h g.2⟩)
  have kna : Hid (∀ w', L w' → Calls Tryz.prog 41 #[.agg #[.int .i64 ak, .int .i64 an, .string as', .slice A3 an3 k3, .slice A4 an4 k4]] w' fun e w'' => e = .returned (.int .i64 (NA : Nat)) ∧ L w'') := Lib.hid (fun w' h => (rna.out w' (LQ.out _ h) ).mono fun _ _ g => ⟨g.1, stays.out _ _ h g.2⟩)
  have knb : Hid (∀ w', L w' → Calls Tryz.prog 41 #[.agg #[.int .i64 bk, .int .i64 bn, .string bs, .slice B3 bn3 l3, .slice B4 bn4 l4]] w' fun e w'' => e = .returned (.int .i64 (NB : Nat)) ∧ L w'') := Lib.hid (fun w' h => (rnb.out w' (LQ.out _ h) ).mono fun _ _ g => ⟨g.1, stays.out _ _ h g.2⟩)
  have kaU : Hid (∀ w', L w' → ∀ (U3 : Option Addr) (u3 : Nat) (U4 : Option Addr) (u4 : Nat), Calls Tryz.prog 39 #[.agg #[.int .i64 ak, .int .i64 an, .string as', .slice A3 an3 k3, .slice A4 an4 k4], .agg #[.int .i64 6, .int .i64 0, .string ⟨#[]⟩, .slice U3 0 u3, .slice U4 0 u4]] w' fun e w'' => e = .returned (.bool true) ∧ L w'') := Lib.hid (fun w' h U3 u3 U4 u4 => (raU.out w' (LQ.out _ h) U3 u3 U4 u4 ).mono fun _ _ g => ⟨g.1, stays.out _ _ h g.2⟩)
  have kU : Hid (∀ w', L w' → Calls Tryz.prog 18 #[] w' fun e w'' => ∃ U3 u3 U4 u4, e = .returned (.agg #[.int .i64 6, .int .i64 0, .string ⟨#[]⟩, .slice U3 0 u3, .slice U4 0 u4]) ∧ L w'') := Lib.hid (fun w' h => (unknown_any w').mono fun _ _ g => by
    obtain ⟨A, c, B, d, g1, g2⟩ := leaf_ex g
    exact ⟨A, c, B, d, g1, stays.out _ _ h g2⟩)
  clear rab rbc rba raa rac qab rkb rna rnb raU
  cases AB
  · clear TR TE TK TN
    obtain ⟨D, hD⟩ : ∃ x, wb3.heap.size = x := ⟨_, rfl⟩
    obtain ⟨wd, hwd⟩ : ∃ x, wb3.alloc (.cells #[.int .i64 ak, .int .i64 an, .string as', .slice A3 an3 k3, .slice A4 an4 k4, .int .i64 bk, .int .i64 bn, .string bs, .slice B3 bn3 l3, .slice B4 bn4 l4, .int .i64 ck, .int .i64 cn, .string cs, .slice C3 cn3 m3, .slice C4 cn4 m4] 26) = x := ⟨_, rfl⟩
    have LD : Hid (L wd) := Lib.hid (by rw [← hwd]; exact stays.out _ _ L0.out (Q.box _ _))
    have cVd := Lib.hid (cVal.out wd D (LQ.out _ LD.out) (by rw [← hwd, ← hD]; exact Bk.new _ _ _))
    go_enter Tryz.func8, Tryz.ntmps8
    go_wp2_with fail
    refine (cVd.out).mono ?_
    rintro e w_1 ⟨rfl, q1⟩
    have H1 := Lib.hid (stays.out _ _ LD.out q1)
    clear x0 x1 x2 x3 x4 x5 x6 x7 x8 x9 x10 x11 x12 x13 x14 q1 hwd hD
    obtain ⟨-, x0, x1, x2, x3, x4, x5, x6, x7, x8, x9, x10, x11, x12, x13, x14⟩ := seen.out _ H1.out
    go_wp2_with fail
    clear x0 x1 x2 x3 x4 x5 x6 x7 x8 x9 x10 x11 x12 x13 x14
    refine Go.wp_region_held_drew (S := (fun w' => Hid (L w') ∧ w'.cell? ⟨P1, 0, none⟩ = some (.int .i64 ak) ∧ w'.cell? ⟨P1, 1, none⟩ = some (.int .i64 an) ∧ w'.cell? ⟨P1, 2, none⟩ = some (.string as') ∧ w'.cell? ⟨P1, 3, none⟩ = some (.slice A3 an3 k3) ∧ w'.cell? ⟨P1, 4, none⟩ = some (.slice A4 an4 k4) ∧ w'.cell? ⟨P2, 0, none⟩ = some (.int .i64 bk) ∧ w'.cell? ⟨P2, 1, none⟩ = some (.int .i64 bn) ∧ w'.cell? ⟨P2, 2, none⟩ = some (.string bs) ∧ w'.cell? ⟨P2, 3, none⟩ = some (.slice B3 bn3 l3) ∧ w'.cell? ⟨P2, 4, none⟩ = some (.slice B4 bn4 l4) ∧ w'.cell? ⟨P3, 0, none⟩ = some (.int .i64 ck) ∧ w'.cell? ⟨P3, 1, none⟩ = some (.int .i64 cn) ∧ w'.cell? ⟨P3, 2, none⟩ = some (.string cs) ∧ w'.cell? ⟨P3, 3, none⟩ = some (.slice C3 cn3 m3) ∧ w'.cell? ⟨P3, 4, none⟩ = some (.slice C4 cn4 m4))) (by kernel_rfl) (seen.out _ (stays.out _ _ H1.out (Q.drewN _ 1))) (fun hHeld => ?_)
    refine Go.wpAnyH_take (i := 0) (oi := _) (v := ?_) rfl (by kernel_rfl) (by kernel_rfl) (by kernel_rfl) (fun _ _ _ h => h) (Or.inl ⟨by rfl, ?_⟩) (by assumption) ?_
    rotate_left 1
    · intro wx hSw
      go_simp <;> with_reducible rfl
    simp only [Act.put, List.getElem_toArray, List.getElem_cons_zero, List.setIfInBounds_toArray, List.set_cons_zero, List.set_cons_succ]
    refine Go.wpAnyH_take (i := 1) (oi := _) (v := ?_) rfl (by kernel_rfl) (by kernel_rfl) (by kernel_rfl) (fun _ _ _ h => h) (Or.inl ⟨by rfl, ?_⟩) (by assumption) ?_
    rotate_left 1
    · intro wx hSw
      go_simp <;> with_reducible rfl
    simp only [Act.put, List.getElem_toArray, List.getElem_cons_zero, List.getElem_cons_succ, List.setIfInBounds_toArray, List.set_cons_zero, List.set_cons_succ]
    refine Go.wpAnyH_take (i := 3) (oi := _) (v := ?_) rfl (by kernel_rfl) (by kernel_rfl) (by kernel_rfl) (fun _ _ _ h => h) (Or.inl ⟨by rfl, ?_⟩) (by assumption) ?_
    rotate_left 1
    · intro wx hSw
      go_simp <;> with_reducible rfl
    simp only [Act.put, List.getElem_toArray, List.getElem_cons_zero, List.getElem_cons_succ, List.setIfInBounds_toArray, List.set_cons_zero, List.set_cons_succ]
    refine Go.wpAnyH_take (i := 4) (oi := _) (v := ?_) rfl (by kernel_rfl) (by kernel_rfl) (by kernel_rfl) (fun _ _ _ h => h) (Or.inl ⟨by rfl, ?_⟩) (by assumption) ?_
    rotate_left 1
    · intro wx hSw
      go_simp <;> with_reducible rfl
    simp only [Act.put, List.getElem_toArray, List.getElem_cons_zero, List.getElem_cons_succ, List.setIfInBounds_toArray, List.set_cons_zero, List.set_cons_succ]
    refine Go.wpAnyH_ready (rs := [2]) (by kernel_rfl) (by simp) ?_
    refine Go.AllReadyH.cons rfl (fun K hK => ?_) Go.AllReadyH.nil
    rw [if_pos (by rfl)]
    go_simp
    refine (kab.out _ hHeld.1.out).mono ?_
    rintro e v2_2 ⟨rfl, g2_2⟩
    refine hK.out _ _ (seen.out _ g2_2) (fun hHeld => ?_)
    clear hK K
    refine Go.wpAnyH_ready (rs := [5]) (by kernel_rfl) (by simp) ?_
    refine Go.AllReadyH.cons rfl (fun K hK => ?_) Go.AllReadyH.nil
    rw [if_pos (by rfl)]
    go_simp
    refine (kbc.out _ hHeld.1.out).mono ?_
    rintro e v2_5 ⟨rfl, g2_5⟩
    refine hK.out _ _ (seen.out _ g2_5) (fun hHeld => ?_)
    clear hK K
    refine Go.wpAnyH_take (i := 6) (oi := _) (v := ?_) rfl (by kernel_rfl) (by kernel_rfl) (by kernel_rfl) (fun _ _ _ h => h) (Or.inl ⟨by rfl, ?_⟩) (by assumption) ?_
    rotate_left 1
    · intro wx hSw
      go_simp <;> with_reducible rfl
    simp only [Act.put, List.getElem_toArray, List.getElem_cons_zero, List.getElem_cons_succ, List.setIfInBounds_toArray, List.set_cons_zero, List.set_cons_succ]
    refine Go.wpAnyH_take (i := 7) (oi := _) (v := ?_) rfl (by kernel_rfl) (by kernel_rfl) (by kernel_rfl) (fun _ _ _ h => h) (Or.inl ⟨by rfl, ?_⟩) (by assumption) ?_
    rotate_left 1
    · intro wx hSw
      go_simp <;> with_reducible rfl
    simp only [Act.put, List.getElem_toArray, List.getElem_cons_zero, List.getElem_cons_succ, List.setIfInBounds_toArray, List.set_cons_zero, List.set_cons_succ]
    refine Go.wpAnyH_done (by kernel_rfl) ?_ _
    have H2 := Lib.hid hHeld.1.out
    obtain ⟨-, x0, x1, x2, x3, x4, x5, x6, x7, x8, x9, x10, x11, x12, x13, x14⟩ := hHeld
    go_wp2_with fail
    clear x0 x1 x2 x3 x4 x5 x6 x7 x8 x9 x10 x11 x12 x13 x14
    refine Go.wp_region_held_drew (S := (fun w' => Hid (L w') ∧ w'.cell? ⟨P1, 0, none⟩ = some (.int .i64 ak) ∧ w'.cell? ⟨P1, 1, none⟩ = some (.int .i64 an) ∧ w'.cell? ⟨P1, 2, none⟩ = some (.string as') ∧ w'.cell? ⟨P1, 3, none⟩ = some (.slice A3 an3 k3) ∧ w'.cell? ⟨P1, 4, none⟩ = some (.slice A4 an4 k4) ∧ w'.cell? ⟨P2, 0, none⟩ = some (.int .i64 bk) ∧ w'.cell? ⟨P2, 1, none⟩ = some (.int .i64 bn) ∧ w'.cell? ⟨P2, 2, none⟩ = some (.string bs) ∧ w'.cell? ⟨P2, 3, none⟩ = some (.slice B3 bn3 l3) ∧ w'.cell? ⟨P2, 4, none⟩ = some (.slice B4 bn4 l4) ∧ w'.cell? ⟨P3, 0, none⟩ = some (.int .i64 ck) ∧ w'.cell? ⟨P3, 1, none⟩ = some (.int .i64 cn) ∧ w'.cell? ⟨P3, 2, none⟩ = some (.string cs) ∧ w'.cell? ⟨P3, 3, none⟩ = some (.slice C3 cn3 m3) ∧ w'.cell? ⟨P3, 4, none⟩ = some (.slice C4 cn4 m4))) (by kernel_rfl) (seen.out _ (stays.out _ _ H2.out (Q.drewN _ 1))) (fun hHeld => ?_)
    refine Go.wpAnyH_take (i := 0) (oi := _) (v := ?_) rfl (by kernel_rfl) (by kernel_rfl) (by kernel_rfl) (fun _ _ _ h => h) (Or.inl ⟨by rfl, ?_⟩) (by assumption) ?_
    rotate_left 1
    · intro wx hSw
      go_simp <;> with_reducible rfl
    simp only [Act.put, List.getElem_toArray, List.getElem_cons_zero, List.setIfInBounds_toArray, List.set_cons_zero, List.set_cons_succ]
    refine Go.wpAnyH_take (i := 1) (oi := _) (v := ?_) rfl (by kernel_rfl) (by kernel_rfl) (by kernel_rfl) (fun _ _ _ h => h) (Or.inl ⟨by rfl, ?_⟩) (by assumption) ?_
    rotate_left 1
    · intro wx hSw
      go_simp <;> with_reducible rfl
    simp only [Act.put, List.getElem_toArray, List.getElem_cons_zero, List.getElem_cons_succ, List.setIfInBounds_toArray, List.set_cons_zero, List.set_cons_succ]
    refine Go.wpAnyH_ready (rs := [2]) (by kernel_rfl) (by simp) ?_
    refine Go.AllReadyH.cons rfl (fun K hK => ?_) Go.AllReadyH.nil
    rw [if_pos (by rfl)]
    go_simp
    refine (kaa.out _ hHeld.1.out).mono ?_
    rintro e v3_2 ⟨rfl, g3_2⟩
    refine hK.out _ _ (seen.out _ g3_2) (fun hHeld => ?_)
    clear hK K
    refine Go.wpAnyH_take (i := 3) (oi := _) (v := ?_) rfl (by kernel_rfl) (by kernel_rfl) (by kernel_rfl) (fun _ _ _ h => h) (Or.inl ⟨by rfl, ?_⟩) (by assumption) ?_
    rotate_left 1
    · intro wx hSw
      go_simp <;> with_reducible rfl
    simp only [Act.put, List.getElem_toArray, List.getElem_cons_zero, List.getElem_cons_succ, List.setIfInBounds_toArray, List.set_cons_zero, List.set_cons_succ]
    refine Go.wpAnyH_take (i := 4) (oi := _) (v := ?_) rfl (by kernel_rfl) (by kernel_rfl) (by kernel_rfl) (fun _ _ _ h => h) (Or.inl ⟨by rfl, ?_⟩) (by assumption) ?_
    rotate_left 1
    · intro wx hSw
      go_simp <;> with_reducible rfl
    simp only [Act.put, List.getElem_toArray, List.getElem_cons_zero, List.getElem_cons_succ, List.setIfInBounds_toArray, List.set_cons_zero, List.set_cons_succ]
    refine Go.wpAnyH_take (i := 5) (oi := _) (v := ?_) rfl (by kernel_rfl) (by kernel_rfl) (by kernel_rfl) (fun _ _ _ h => h) (Or.inl ⟨by rfl, ?_⟩) (by assumption) ?_
    rotate_left 1
    · intro wx hSw
      go_simp <;> with_reducible rfl
    simp only [Act.put, List.getElem_toArray, List.getElem_cons_zero, List.getElem_cons_succ, List.setIfInBounds_toArray, List.set_cons_zero, List.set_cons_succ]
    refine Go.wpAnyH_ready (rs := [6]) (by kernel_rfl) (by simp) ?_
    refine Go.AllReadyH.cons rfl (fun K hK => ?_) Go.AllReadyH.nil
    rw [if_pos (by rfl)]
    go_simp
    refine (kU.out _ hHeld.1.out).mono ?_
    rintro e v3_6 ⟨U3, u3, U4, u4, rfl, g3_6⟩
    refine hK.out _ _ (seen.out _ g3_6) (fun hHeld => ?_)
    clear hK K
    refine Go.wpAnyH_ready (rs := [7]) (by kernel_rfl) (by simp) ?_
    refine Go.AllReadyH.cons rfl (fun K hK => ?_) Go.AllReadyH.nil
    rw [if_pos (by rfl)]
    go_simp
    refine (kaU.out _ hHeld.1.out U3 u3 U4 u4).mono ?_
    rintro e v3_7 ⟨rfl, g3_7⟩
    refine hK.out _ _ (seen.out _ g3_7) (fun hHeld => ?_)
    clear hK K
    refine Go.wpAnyH_take (i := 8) (oi := _) (v := ?_) rfl (by kernel_rfl) (by kernel_rfl) (by kernel_rfl) (fun _ _ _ h => h) (Or.inl ⟨by rfl, ?_⟩) (by assumption) ?_
    rotate_left 1
    · intro wx hSw
      go_simp <;> with_reducible rfl
    simp only [Act.put, List.getElem_toArray, List.getElem_cons_zero, List.getElem_cons_succ, List.setIfInBounds_toArray, List.set_cons_zero, List.set_cons_succ]
    refine Go.wpAnyH_take (i := 9) (oi := _) (v := ?_) rfl (by kernel_rfl) (by kernel_rfl) (by kernel_rfl) (fun _ _ _ h => h) (Or.inl ⟨by rfl, ?_⟩) (by assumption) ?_
    rotate_left 1
    · intro wx hSw
      go_simp <;> with_reducible rfl
    simp only [Act.put, List.getElem_toArray, List.getElem_cons_zero, List.getElem_cons_succ, List.setIfInBounds_toArray, List.set_cons_zero, List.set_cons_succ]
    refine Go.wpAnyH_take (i := 10) (oi := _) (v := ?_) rfl (by kernel_rfl) (by kernel_rfl) (by kernel_rfl) (fun _ _ _ h => h) (Or.inl ⟨by rfl, ?_⟩) (by assumption) ?_
    rotate_left 1
    · intro wx hSw
      go_simp <;> with_reducible rfl
    simp only [Act.put, List.getElem_toArray, List.getElem_cons_zero, List.getElem_cons_succ, List.setIfInBounds_toArray, List.set_cons_zero, List.set_cons_succ]
    refine Go.wpAnyH_take (i := 11) (oi := _) (v := ?_) rfl (by kernel_rfl) (by kernel_rfl) (by kernel_rfl) (fun _ _ _ h => h) (Or.inl ⟨by rfl, ?_⟩) (by assumption) ?_
    rotate_left 1
    · intro wx hSw
      go_simp <;> with_reducible rfl
    simp only [Act.put, List.getElem_toArray, List.getElem_cons_zero, List.getElem_cons_succ, List.setIfInBounds_toArray, List.set_cons_zero, List.set_cons_succ]
    refine Go.wpAnyH_take (i := 12) (oi := _) (v := ?_) rfl (by kernel_rfl) (by kernel_rfl) (by kernel_rfl) (fun _ _ _ h => h) (Or.inl ⟨by rfl, ?_⟩) (by assumption) ?_
    rotate_left 1
    · intro wx hSw
      go_simp <;> with_reducible rfl
    simp only [Act.put, List.getElem_toArray, List.getElem_cons_zero, List.getElem_cons_succ, List.setIfInBounds_toArray, List.set_cons_zero, List.set_cons_succ]
    refine Go.wpAnyH_take (i := 13) (oi := _) (v := undef) rfl (by kernel_rfl) (by kernel_rfl) (by kernel_rfl) (fun _ _ _ h => h) (Or.inr ⟨by rfl, rfl⟩) (by assumption) ?_
    simp only [Act.put, List.getElem_toArray, List.getElem_cons_zero, List.getElem_cons_succ, List.setIfInBounds_toArray, List.set_cons_zero, List.set_cons_succ]
    refine Go.wpAnyH_take (i := 14) (oi := _) (v := ?_) rfl (by kernel_rfl) (by kernel_rfl) (by kernel_rfl) (fun _ _ _ h => h) (Or.inl ⟨by rfl, ?_⟩) (by assumption) ?_
    rotate_left 1
    · intro wx hSw
      go_simp <;> with_reducible rfl
    simp only [Act.put, List.getElem_toArray, List.getElem_cons_zero, List.getElem_cons_succ, List.setIfInBounds_toArray, List.set_cons_zero, List.set_cons_succ]
    refine Go.wpAnyH_take (i := 15) (oi := _) (v := ?_) rfl (by kernel_rfl) (by kernel_rfl) (by kernel_rfl) (fun _ _ _ h => h) (Or.inl ⟨by rfl, ?_⟩) (by assumption) ?_
    rotate_left 1
    · intro wx hSw
      go_simp <;> with_reducible rfl
    simp only [Act.put, List.getElem_toArray, List.getElem_cons_zero, List.getElem_cons_succ, List.setIfInBounds_toArray, List.set_cons_zero, List.set_cons_succ]
    refine Go.wpAnyH_take (i := 16) (oi := _) (v := undef) rfl (by kernel_rfl) (by kernel_rfl) (by kernel_rfl) (fun _ _ _ h => h) (Or.inr ⟨by rfl, rfl⟩) (by assumption) ?_
    simp only [Act.put, List.getElem_toArray, List.getElem_cons_zero, List.getElem_cons_succ, List.setIfInBounds_toArray, List.set_cons_zero, List.set_cons_succ]
    refine Go.wpAnyH_take (i := 17) (oi := _) (v := undef) rfl (by kernel_rfl) (by kernel_rfl) (by kernel_rfl) (fun _ _ _ h => h) (Or.inr ⟨by rfl, rfl⟩) (by assumption) ?_
    simp only [Act.put, List.getElem_toArray, List.getElem_cons_zero, List.getElem_cons_succ, List.setIfInBounds_toArray, List.set_cons_zero, List.set_cons_succ]
    refine Go.wpAnyH_take (i := 18) (oi := _) (v := undef) rfl (by kernel_rfl) (by kernel_rfl) (by kernel_rfl) (fun _ _ _ h => h) (Or.inr ⟨by rfl, rfl⟩) (by assumption) ?_
    simp only [Act.put, List.getElem_toArray, List.getElem_cons_zero, List.getElem_cons_succ, List.setIfInBounds_toArray, List.set_cons_zero, List.set_cons_succ]
    refine Go.wpAnyH_take (i := 19) (oi := _) (v := undef) rfl (by kernel_rfl) (by kernel_rfl) (by kernel_rfl) (fun _ _ _ h => h) (Or.inr ⟨by rfl, rfl⟩) (by assumption) ?_
    simp only [Act.put, List.getElem_toArray, List.getElem_cons_zero, List.getElem_cons_succ, List.setIfInBounds_toArray, List.set_cons_zero, List.set_cons_succ]
    refine Go.wpAnyH_take (i := 20) (oi := _) (v := ?_) rfl (by kernel_rfl) (by kernel_rfl) (by kernel_rfl) (fun _ _ _ h => h) (Or.inl ⟨by rfl, ?_⟩) (by assumption) ?_
    rotate_left 1
    · intro wx hSw
      go_simp <;> with_reducible rfl
    simp only [Act.put, List.getElem_toArray, List.getElem_cons_zero, List.getElem_cons_succ, List.setIfInBounds_toArray, List.set_cons_zero, List.set_cons_succ]
    refine Go.wpAnyH_take (i := 21) (oi := _) (v := ?_) rfl (by kernel_rfl) (by kernel_rfl) (by kernel_rfl) (fun _ _ _ h => h) (Or.inl ⟨by rfl, ?_⟩) (by assumption) ?_
    rotate_left 1
    · intro wx hSw
      go_simp <;> with_reducible rfl
    simp only [Act.put, List.getElem_toArray, List.getElem_cons_zero, List.getElem_cons_succ, List.setIfInBounds_toArray, List.set_cons_zero, List.set_cons_succ]
    refine Go.wpAnyH_done (by kernel_rfl) ?_ _
    have H3 := Lib.hid hHeld.1.out
    obtain ⟨-, x0, x1, x2, x3, x4, x5, x6, x7, x8, x9, x10, x11, x12, x13, x14⟩ := hHeld
    go_wp2_with fail
    clear x0 x1 x2 x3 x4 x5 x6 x7 x8 x9 x10 x11 x12 x13 x14
    refine Go.wp_region_held_drew (S := (fun w' => Hid (L w') ∧ w'.cell? ⟨P1, 0, none⟩ = some (.int .i64 ak) ∧ w'.cell? ⟨P1, 1, none⟩ = some (.int .i64 an) ∧ w'.cell? ⟨P1, 2, none⟩ = some (.string as') ∧ w'.cell? ⟨P1, 3, none⟩ = some (.slice A3 an3 k3) ∧ w'.cell? ⟨P1, 4, none⟩ = some (.slice A4 an4 k4) ∧ w'.cell? ⟨P2, 0, none⟩ = some (.int .i64 bk) ∧ w'.cell? ⟨P2, 1, none⟩ = some (.int .i64 bn) ∧ w'.cell? ⟨P2, 2, none⟩ = some (.string bs) ∧ w'.cell? ⟨P2, 3, none⟩ = some (.slice B3 bn3 l3) ∧ w'.cell? ⟨P2, 4, none⟩ = some (.slice B4 bn4 l4) ∧ w'.cell? ⟨P3, 0, none⟩ = some (.int .i64 ck) ∧ w'.cell? ⟨P3, 1, none⟩ = some (.int .i64 cn) ∧ w'.cell? ⟨P3, 2, none⟩ = some (.string cs) ∧ w'.cell? ⟨P3, 3, none⟩ = some (.slice C3 cn3 m3) ∧ w'.cell? ⟨P3, 4, none⟩ = some (.slice C4 cn4 m4))) (by kernel_rfl) (seen.out _ (stays.out _ _ H3.out (Q.drewN _ 1))) (fun hHeld => ?_)
    refine Go.wpAnyH_take (i := 0) (oi := _) (v := ?_) rfl (by kernel_rfl) (by kernel_rfl) (by kernel_rfl) (fun _ _ _ h => h) (Or.inl ⟨by rfl, ?_⟩) (by assumption) ?_
    rotate_left 1
    · intro wx hSw
      go_simp <;> with_reducible rfl
    simp only [Act.put, List.getElem_toArray, List.getElem_cons_zero, List.setIfInBounds_toArray, List.set_cons_zero, List.set_cons_succ]
    refine Go.wpAnyH_take (i := 1) (oi := _) (v := ?_) rfl (by kernel_rfl) (by kernel_rfl) (by kernel_rfl) (fun _ _ _ h => h) (Or.inl ⟨by rfl, ?_⟩) (by assumption) ?_
    rotate_left 1
    · intro wx hSw
      go_simp <;> with_reducible rfl
    simp only [Act.put, List.getElem_toArray, List.getElem_cons_zero, List.getElem_cons_succ, List.setIfInBounds_toArray, List.set_cons_zero, List.set_cons_succ]
    refine Go.wpAnyH_take (i := 2) (oi := _) (v := undef) rfl (by kernel_rfl) (by kernel_rfl) (by kernel_rfl) (fun _ _ _ h => h) (Or.inr ⟨by rfl, rfl⟩) (by assumption) ?_
    simp only [Act.put, List.getElem_toArray, List.getElem_cons_zero, List.getElem_cons_succ, List.setIfInBounds_toArray, List.set_cons_zero, List.set_cons_succ]
    refine Go.wpAnyH_take (i := 3) (oi := _) (v := undef) rfl (by kernel_rfl) (by kernel_rfl) (by kernel_rfl) (fun _ _ _ h => h) (Or.inr ⟨by rfl, rfl⟩) (by assumption) ?_
    simp only [Act.put, List.getElem_toArray, List.getElem_cons_zero, List.getElem_cons_succ, List.setIfInBounds_toArray, List.set_cons_zero, List.set_cons_succ]
    refine Go.wpAnyH_take (i := 4) (oi := _) (v := ?_) rfl (by kernel_rfl) (by kernel_rfl) (by kernel_rfl) (fun _ _ _ h => h) (Or.inl ⟨by rfl, ?_⟩) (by assumption) ?_
    rotate_left 1
    · intro wx hSw
      go_simp <;> with_reducible rfl
    simp only [Act.put, List.getElem_toArray, List.getElem_cons_zero, List.getElem_cons_succ, List.setIfInBounds_toArray, List.set_cons_zero, List.set_cons_succ]
    refine Go.wpAnyH_take (i := 5) (oi := _) (v := ?_) rfl (by kernel_rfl) (by kernel_rfl) (by kernel_rfl) (fun _ _ _ h => h) (Or.inl ⟨by rfl, ?_⟩) (by assumption) ?_
    rotate_left 1
    · intro wx hSw
      go_simp <;> with_reducible rfl
    simp only [Act.put, List.getElem_toArray, List.getElem_cons_zero, List.getElem_cons_succ, List.setIfInBounds_toArray, List.set_cons_zero, List.set_cons_succ]
    refine Go.wpAnyH_take (i := 6) (oi := _) (v := undef) rfl (by kernel_rfl) (by kernel_rfl) (by kernel_rfl) (fun _ _ _ h => h) (Or.inr ⟨by rfl, rfl⟩) (by assumption) ?_
    simp only [Act.put, List.getElem_toArray, List.getElem_cons_zero, List.getElem_cons_succ, List.setIfInBounds_toArray, List.set_cons_zero, List.set_cons_succ]
    refine Go.wpAnyH_take (i := 7) (oi := _) (v := undef) rfl (by kernel_rfl) (by kernel_rfl) (by kernel_rfl) (fun _ _ _ h => h) (Or.inr ⟨by rfl, rfl⟩) (by assumption) ?_
    simp only [Act.put, List.getElem_toArray, List.getElem_cons_zero, List.getElem_cons_succ, List.setIfInBounds_toArray, List.set_cons_zero, List.set_cons_succ]
    refine Go.wpAnyH_take (i := 8) (oi := _) (v := undef) rfl (by kernel_rfl) (by kernel_rfl) (by kernel_rfl) (fun _ _ _ h => h) (Or.inr ⟨by rfl, rfl⟩) (by assumption) ?_
    simp only [Act.put, List.getElem_toArray, List.getElem_cons_zero, List.getElem_cons_succ, List.setIfInBounds_toArray, List.set_cons_zero, List.set_cons_succ]
    refine Go.wpAnyH_take (i := 9) (oi := _) (v := undef) rfl (by kernel_rfl) (by kernel_rfl) (by kernel_rfl) (fun _ _ _ h => h) (Or.inr ⟨by rfl, rfl⟩) (by assumption) ?_
    simp only [Act.put, List.getElem_toArray, List.getElem_cons_zero, List.getElem_cons_succ, List.setIfInBounds_toArray, List.set_cons_zero, List.set_cons_succ]
    refine Go.wpAnyH_take (i := 10) (oi := _) (v := ?_) rfl (by kernel_rfl) (by kernel_rfl) (by kernel_rfl) (fun _ _ _ h => h) (Or.inl ⟨by rfl, ?_⟩) (by assumption) ?_
    rotate_left 1
    · intro wx hSw
      go_simp <;> with_reducible rfl
    simp only [Act.put, List.getElem_toArray, List.getElem_cons_zero, List.getElem_cons_succ, List.setIfInBounds_toArray, List.set_cons_zero, List.set_cons_succ]
    refine Go.wpAnyH_take (i := 11) (oi := _) (v := ?_) rfl (by kernel_rfl) (by kernel_rfl) (by kernel_rfl) (fun _ _ _ h => h) (Or.inl ⟨by rfl, ?_⟩) (by assumption) ?_
    rotate_left 1
    · intro wx hSw
      go_simp <;> with_reducible rfl
    simp only [Act.put, List.getElem_toArray, List.getElem_cons_zero, List.getElem_cons_succ, List.setIfInBounds_toArray, List.set_cons_zero, List.set_cons_succ]
    refine Go.wpAnyH_take (i := 12) (oi := _) (v := ?_) rfl (by kernel_rfl) (by kernel_rfl) (by kernel_rfl) (fun _ _ _ h => h) (Or.inl ⟨by rfl, ?_⟩) (by assumption) ?_
    rotate_left 1
    · intro wx hSw
      go_simp <;> with_reducible rfl
    simp only [Act.put, List.getElem_toArray, List.getElem_cons_zero, List.getElem_cons_succ, List.setIfInBounds_toArray, List.set_cons_zero, List.set_cons_succ]
    refine Go.wpAnyH_take (i := 13) (oi := _) (v := ?_) rfl (by kernel_rfl) (by kernel_rfl) (by kernel_rfl) (fun _ _ _ h => h) (Or.inl ⟨by rfl, ?_⟩) (by assumption) ?_
    rotate_left 1
    · intro wx hSw
      go_simp <;> with_reducible rfl
    simp only [Act.put, List.getElem_toArray, List.getElem_cons_zero, List.getElem_cons_succ, List.setIfInBounds_toArray, List.set_cons_zero, List.set_cons_succ]
    refine Go.wpAnyH_take (i := 14) (oi := _) (v := undef) rfl (by kernel_rfl) (by kernel_rfl) (by kernel_rfl) (fun _ _ _ h => h) (Or.inr ⟨by rfl, rfl⟩) (by assumption) ?_
    simp only [Act.put, List.getElem_toArray, List.getElem_cons_zero, List.getElem_cons_succ, List.setIfInBounds_toArray, List.set_cons_zero, List.set_cons_succ]
    refine Go.wpAnyH_take (i := 15) (oi := _) (v := undef) rfl (by kernel_rfl) (by kernel_rfl) (by kernel_rfl) (fun _ _ _ h => h) (Or.inr ⟨by rfl, rfl⟩) (by assumption) ?_
    simp only [Act.put, List.getElem_toArray, List.getElem_cons_zero, List.getElem_cons_succ, List.setIfInBounds_toArray, List.set_cons_zero, List.set_cons_succ]
    refine Go.wpAnyH_take (i := 16) (oi := _) (v := undef) rfl (by kernel_rfl) (by kernel_rfl) (by kernel_rfl) (fun _ _ _ h => h) (Or.inr ⟨by rfl, rfl⟩) (by assumption) ?_
    simp only [Act.put, List.getElem_toArray, List.getElem_cons_zero, List.getElem_cons_succ, List.setIfInBounds_toArray, List.set_cons_zero, List.set_cons_succ]
    refine Go.wpAnyH_take (i := 17) (oi := _) (v := undef) rfl (by kernel_rfl) (by kernel_rfl) (by kernel_rfl) (fun _ _ _ h => h) (Or.inr ⟨by rfl, rfl⟩) (by assumption) ?_
    simp only [Act.put, List.getElem_toArray, List.getElem_cons_zero, List.getElem_cons_succ, List.setIfInBounds_toArray, List.set_cons_zero, List.set_cons_succ]
    refine Go.wpAnyH_take (i := 18) (oi := _) (v := undef) rfl (by kernel_rfl) (by kernel_rfl) (by kernel_rfl) (fun _ _ _ h => h) (Or.inr ⟨by rfl, rfl⟩) (by assumption) ?_
    simp only [Act.put, List.getElem_toArray, List.getElem_cons_zero, List.getElem_cons_succ, List.setIfInBounds_toArray, List.set_cons_zero, List.set_cons_succ]
    refine Go.wpAnyH_take (i := 19) (oi := _) (v := ?_) rfl (by kernel_rfl) (by kernel_rfl) (by kernel_rfl) (fun _ _ _ h => h) (Or.inl ⟨by rfl, ?_⟩) (by assumption) ?_
    rotate_left 1
    · intro wx hSw
      go_simp <;> with_reducible rfl
    simp only [Act.put, List.getElem_toArray, List.getElem_cons_zero, List.getElem_cons_succ, List.setIfInBounds_toArray, List.set_cons_zero, List.set_cons_succ]
    refine Go.wpAnyH_take (i := 20) (oi := _) (v := ?_) rfl (by kernel_rfl) (by kernel_rfl) (by kernel_rfl) (fun _ _ _ h => h) (Or.inl ⟨by rfl, ?_⟩) (by assumption) ?_
    rotate_left 1
    · intro wx hSw
      go_simp <;> with_reducible rfl
    simp only [Act.put, List.getElem_toArray, List.getElem_cons_zero, List.getElem_cons_succ, List.setIfInBounds_toArray, List.set_cons_zero, List.set_cons_succ]
    refine Go.wpAnyH_done (by kernel_rfl) ?_ _
    have H4 := Lib.hid hHeld.1.out
    obtain ⟨-, x0, x1, x2, x3, x4, x5, x6, x7, x8, x9, x10, x11, x12, x13, x14⟩ := hHeld
    go_wp2_with fail
    refine (cA.out _ (LQ.out _ H4.out)).mono ?_
    rintro e wz ⟨rfl, qz⟩
    clear x0 x1 x2 x3 x4 x5 x6 x7 x8 x9 x10 x11 x12 x13 x14
    go_wp2_with fail
    go_ret
    exact ⟨rfl, (LQ.out _ H4.out).trans qz⟩
  · cases BC
    · cases BA
      · cases KB
        · have hN : NB ≤ NA := TN.out rfl
          have n1 : decide (NA < NB) = false := decide_eq_false (by omega)
          have n2 : decide ((NA : Int) < (NB : Int)) = false := decide_eq_false (by omega)
          clear hN
          clear TR TE TK TN
          obtain ⟨D, hD⟩ : ∃ x, wb3.heap.size = x := ⟨_, rfl⟩
          obtain ⟨wd, hwd⟩ : ∃ x, wb3.alloc (.cells #[.int .i64 ak, .int .i64 an, .string as', .slice A3 an3 k3, .slice A4 an4 k4, .int .i64 bk, .int .i64 bn, .string bs, .slice B3 bn3 l3, .slice B4 bn4 l4, .int .i64 ck, .int .i64 cn, .string cs, .slice C3 cn3 m3, .slice C4 cn4 m4] 26) = x := ⟨_, rfl⟩
          have LD : Hid (L wd) := Lib.hid (by rw [← hwd]; exact stays.out _ _ L0.out (Q.box _ _))
          have cVd := Lib.hid (cVal.out wd D (LQ.out _ LD.out) (by rw [← hwd, ← hD]; exact Bk.new _ _ _))
          go_enter Tryz.func8, Tryz.ntmps8
          go_wp2_with fail
          refine (cVd.out).mono ?_
          rintro e w_1 ⟨rfl, q1⟩
          have H1 := Lib.hid (stays.out _ _ LD.out q1)
          clear x0 x1 x2 x3 x4 x5 x6 x7 x8 x9 x10 x11 x12 x13 x14 q1 hwd hD
          obtain ⟨-, x0, x1, x2, x3, x4, x5, x6, x7, x8, x9, x10, x11, x12, x13, x14⟩ := seen.out _ H1.out
          go_wp2_with fail
          clear x0 x1 x2 x3 x4 x5 x6 x7 x8 x9 x10 x11 x12 x13 x14
          refine Go.wp_region_held_drew (S := (fun w' => Hid (L w') ∧ w'.cell? ⟨P1, 0, none⟩ = some (.int .i64 ak) ∧ w'.cell? ⟨P1, 1, none⟩ = some (.int .i64 an) ∧ w'.cell? ⟨P1, 2, none⟩ = some (.string as') ∧ w'.cell? ⟨P1, 3, none⟩ = some (.slice A3 an3 k3) ∧ w'.cell? ⟨P1, 4, none⟩ = some (.slice A4 an4 k4) ∧ w'.cell? ⟨P2, 0, none⟩ = some (.int .i64 bk) ∧ w'.cell? ⟨P2, 1, none⟩ = some (.int .i64 bn) ∧ w'.cell? ⟨P2, 2, none⟩ = some (.string bs) ∧ w'.cell? ⟨P2, 3, none⟩ = some (.slice B3 bn3 l3) ∧ w'.cell? ⟨P2, 4, none⟩ = some (.slice B4 bn4 l4) ∧ w'.cell? ⟨P3, 0, none⟩ = some (.int .i64 ck) ∧ w'.cell? ⟨P3, 1, none⟩ = some (.int .i64 cn) ∧ w'.cell? ⟨P3, 2, none⟩ = some (.string cs) ∧ w'.cell? ⟨P3, 3, none⟩ = some (.slice C3 cn3 m3) ∧ w'.cell? ⟨P3, 4, none⟩ = some (.slice C4 cn4 m4))) (by kernel_rfl) (seen.out _ (stays.out _ _ H1.out (Q.drewN _ 1))) (fun hHeld => ?_)
          refine Go.wpAnyH_take (i := 0) (oi := _) (v := ?_) rfl (by kernel_rfl) (by kernel_rfl) (by kernel_rfl) (fun _ _ _ h => h) (Or.inl ⟨by rfl, ?_⟩) (by assumption) ?_
          rotate_left 1
          · intro wx hSw
            go_simp <;> with_reducible rfl
          simp only [Act.put, List.getElem_toArray, List.getElem_cons_zero, List.setIfInBounds_toArray, List.set_cons_zero, List.set_cons_succ]
          refine Go.wpAnyH_take (i := 1) (oi := _) (v := ?_) rfl (by kernel_rfl) (by kernel_rfl) (by kernel_rfl) (fun _ _ _ h => h) (Or.inl ⟨by rfl, ?_⟩) (by assumption) ?_
          rotate_left 1
          · intro wx hSw
            go_simp <;> with_reducible rfl
          simp only [Act.put, List.getElem_toArray, List.getElem_cons_zero, List.getElem_cons_succ, List.setIfInBounds_toArray, List.set_cons_zero, List.set_cons_succ]
          refine Go.wpAnyH_take (i := 3) (oi := _) (v := ?_) rfl (by kernel_rfl) (by kernel_rfl) (by kernel_rfl) (fun _ _ _ h => h) (Or.inl ⟨by rfl, ?_⟩) (by assumption) ?_
          rotate_left 1
          · intro wx hSw
            go_simp <;> with_reducible rfl
          simp only [Act.put, List.getElem_toArray, List.getElem_cons_zero, List.getElem_cons_succ, List.setIfInBounds_toArray, List.set_cons_zero, List.set_cons_succ]
          refine Go.wpAnyH_take (i := 4) (oi := _) (v := ?_) rfl (by kernel_rfl) (by kernel_rfl) (by kernel_rfl) (fun _ _ _ h => h) (Or.inl ⟨by rfl, ?_⟩) (by assumption) ?_
          rotate_left 1
          · intro wx hSw
            go_simp <;> with_reducible rfl
          simp only [Act.put, List.getElem_toArray, List.getElem_cons_zero, List.getElem_cons_succ, List.setIfInBounds_toArray, List.set_cons_zero, List.set_cons_succ]
          refine Go.wpAnyH_ready (rs := [2]) (by kernel_rfl) (by simp) ?_
          refine Go.AllReadyH.cons rfl (fun K hK => ?_) Go.AllReadyH.nil
          rw [if_pos (by rfl)]
          go_simp
          refine (kab.out _ hHeld.1.out).mono ?_
          rintro e v2_2 ⟨rfl, g2_2⟩
          refine hK.out _ _ (seen.out _ g2_2) (fun hHeld => ?_)
          clear hK K
          refine Go.wpAnyH_ready (rs := [5]) (by kernel_rfl) (by simp) ?_
          refine Go.AllReadyH.cons rfl (fun K hK => ?_) Go.AllReadyH.nil
          rw [if_pos (by rfl)]
          go_simp
          refine (kbc.out _ hHeld.1.out).mono ?_
          rintro e v2_5 ⟨rfl, g2_5⟩
          refine hK.out _ _ (seen.out _ g2_5) (fun hHeld => ?_)
          clear hK K
          refine Go.wpAnyH_take (i := 6) (oi := _) (v := ?_) rfl (by kernel_rfl) (by kernel_rfl) (by kernel_rfl) (fun _ _ _ h => h) (Or.inl ⟨by rfl, ?_⟩) (by assumption) ?_
          rotate_left 1
          · intro wx hSw
            go_simp <;> with_reducible rfl
          simp only [Act.put, List.getElem_toArray, List.getElem_cons_zero, List.getElem_cons_succ, List.setIfInBounds_toArray, List.set_cons_zero, List.set_cons_succ]
          refine Go.wpAnyH_take (i := 7) (oi := _) (v := ?_) rfl (by kernel_rfl) (by kernel_rfl) (by kernel_rfl) (fun _ _ _ h => h) (Or.inl ⟨by rfl, ?_⟩) (by assumption) ?_
          rotate_left 1
          · intro wx hSw
            go_simp <;> with_reducible rfl
          simp only [Act.put, List.getElem_toArray, List.getElem_cons_zero, List.getElem_cons_succ, List.setIfInBounds_toArray, List.set_cons_zero, List.set_cons_succ]
          refine Go.wpAnyH_done (by kernel_rfl) ?_ _
          have H2 := Lib.hid hHeld.1.out
          obtain ⟨-, x0, x1, x2, x3, x4, x5, x6, x7, x8, x9, x10, x11, x12, x13, x14⟩ := hHeld
          go_wp2_with fail
          clear x0 x1 x2 x3 x4 x5 x6 x7 x8 x9 x10 x11 x12 x13 x14
          refine Go.wp_region_held_drew (S := (fun w' => Hid (L w') ∧ w'.cell? ⟨P1, 0, none⟩ = some (.int .i64 ak) ∧ w'.cell? ⟨P1, 1, none⟩ = some (.int .i64 an) ∧ w'.cell? ⟨P1, 2, none⟩ = some (.string as') ∧ w'.cell? ⟨P1, 3, none⟩ = some (.slice A3 an3 k3) ∧ w'.cell? ⟨P1, 4, none⟩ = some (.slice A4 an4 k4) ∧ w'.cell? ⟨P2, 0, none⟩ = some (.int .i64 bk) ∧ w'.cell? ⟨P2, 1, none⟩ = some (.int .i64 bn) ∧ w'.cell? ⟨P2, 2, none⟩ = some (.string bs) ∧ w'.cell? ⟨P2, 3, none⟩ = some (.slice B3 bn3 l3) ∧ w'.cell? ⟨P2, 4, none⟩ = some (.slice B4 bn4 l4) ∧ w'.cell? ⟨P3, 0, none⟩ = some (.int .i64 ck) ∧ w'.cell? ⟨P3, 1, none⟩ = some (.int .i64 cn) ∧ w'.cell? ⟨P3, 2, none⟩ = some (.string cs) ∧ w'.cell? ⟨P3, 3, none⟩ = some (.slice C3 cn3 m3) ∧ w'.cell? ⟨P3, 4, none⟩ = some (.slice C4 cn4 m4))) (by kernel_rfl) (seen.out _ (stays.out _ _ H2.out (Q.drewN _ 1))) (fun hHeld => ?_)
          refine Go.wpAnyH_take (i := 0) (oi := _) (v := ?_) rfl (by kernel_rfl) (by kernel_rfl) (by kernel_rfl) (fun _ _ _ h => h) (Or.inl ⟨by rfl, ?_⟩) (by assumption) ?_
          rotate_left 1
          · intro wx hSw
            go_simp <;> with_reducible rfl
          simp only [Act.put, List.getElem_toArray, List.getElem_cons_zero, List.setIfInBounds_toArray, List.set_cons_zero, List.set_cons_succ]
          refine Go.wpAnyH_take (i := 1) (oi := _) (v := ?_) rfl (by kernel_rfl) (by kernel_rfl) (by kernel_rfl) (fun _ _ _ h => h) (Or.inl ⟨by rfl, ?_⟩) (by assumption) ?_
          rotate_left 1
          · intro wx hSw
            go_simp <;> with_reducible rfl
          simp only [Act.put, List.getElem_toArray, List.getElem_cons_zero, List.getElem_cons_succ, List.setIfInBounds_toArray, List.set_cons_zero, List.set_cons_succ]
          refine Go.wpAnyH_ready (rs := [2]) (by kernel_rfl) (by simp) ?_
          refine Go.AllReadyH.cons rfl (fun K hK => ?_) Go.AllReadyH.nil
          rw [if_pos (by rfl)]
          go_simp
          refine (kaa.out _ hHeld.1.out).mono ?_
          rintro e v3_2 ⟨rfl, g3_2⟩
          refine hK.out _ _ (seen.out _ g3_2) (fun hHeld => ?_)
          clear hK K
          refine Go.wpAnyH_take (i := 3) (oi := _) (v := ?_) rfl (by kernel_rfl) (by kernel_rfl) (by kernel_rfl) (fun _ _ _ h => h) (Or.inl ⟨by rfl, ?_⟩) (by assumption) ?_
          rotate_left 1
          · intro wx hSw
            go_simp <;> with_reducible rfl
          simp only [Act.put, List.getElem_toArray, List.getElem_cons_zero, List.getElem_cons_succ, List.setIfInBounds_toArray, List.set_cons_zero, List.set_cons_succ]
          refine Go.wpAnyH_take (i := 4) (oi := _) (v := ?_) rfl (by kernel_rfl) (by kernel_rfl) (by kernel_rfl) (fun _ _ _ h => h) (Or.inl ⟨by rfl, ?_⟩) (by assumption) ?_
          rotate_left 1
          · intro wx hSw
            go_simp <;> with_reducible rfl
          simp only [Act.put, List.getElem_toArray, List.getElem_cons_zero, List.getElem_cons_succ, List.setIfInBounds_toArray, List.set_cons_zero, List.set_cons_succ]
          refine Go.wpAnyH_take (i := 5) (oi := _) (v := ?_) rfl (by kernel_rfl) (by kernel_rfl) (by kernel_rfl) (fun _ _ _ h => h) (Or.inl ⟨by rfl, ?_⟩) (by assumption) ?_
          rotate_left 1
          · intro wx hSw
            go_simp <;> with_reducible rfl
          simp only [Act.put, List.getElem_toArray, List.getElem_cons_zero, List.getElem_cons_succ, List.setIfInBounds_toArray, List.set_cons_zero, List.set_cons_succ]
          refine Go.wpAnyH_ready (rs := [6]) (by kernel_rfl) (by simp) ?_
          refine Go.AllReadyH.cons rfl (fun K hK => ?_) Go.AllReadyH.nil
          rw [if_pos (by rfl)]
          go_simp
          refine (kU.out _ hHeld.1.out).mono ?_
          rintro e v3_6 ⟨U3, u3, U4, u4, rfl, g3_6⟩
          refine hK.out _ _ (seen.out _ g3_6) (fun hHeld => ?_)
          clear hK K
          refine Go.wpAnyH_ready (rs := [7]) (by kernel_rfl) (by simp) ?_
          refine Go.AllReadyH.cons rfl (fun K hK => ?_) Go.AllReadyH.nil
          rw [if_pos (by rfl)]
          go_simp
          refine (kaU.out _ hHeld.1.out U3 u3 U4 u4).mono ?_
          rintro e v3_7 ⟨rfl, g3_7⟩
          refine hK.out _ _ (seen.out _ g3_7) (fun hHeld => ?_)
          clear hK K
          refine Go.wpAnyH_take (i := 8) (oi := _) (v := ?_) rfl (by kernel_rfl) (by kernel_rfl) (by kernel_rfl) (fun _ _ _ h => h) (Or.inl ⟨by rfl, ?_⟩) (by assumption) ?_
          rotate_left 1
          · intro wx hSw
            go_simp <;> with_reducible rfl
          simp only [Act.put, List.getElem_toArray, List.getElem_cons_zero, List.getElem_cons_succ, List.setIfInBounds_toArray, List.set_cons_zero, List.set_cons_succ]
          refine Go.wpAnyH_take (i := 9) (oi := _) (v := ?_) rfl (by kernel_rfl) (by kernel_rfl) (by kernel_rfl) (fun _ _ _ h => h) (Or.inl ⟨by rfl, ?_⟩) (by assumption) ?_
          rotate_left 1
          · intro wx hSw
            go_simp <;> with_reducible rfl
          simp only [Act.put, List.getElem_toArray, List.getElem_cons_zero, List.getElem_cons_succ, List.setIfInBounds_toArray, List.set_cons_zero, List.set_cons_succ]
          refine Go.wpAnyH_take (i := 10) (oi := _) (v := ?_) rfl (by kernel_rfl) (by kernel_rfl) (by kernel_rfl) (fun _ _ _ h => h) (Or.inl ⟨by rfl, ?_⟩) (by assumption) ?_
          rotate_left 1
          · intro wx hSw
            go_simp <;> with_reducible rfl
          simp only [Act.put, List.getElem_toArray, List.getElem_cons_zero, List.getElem_cons_succ, List.setIfInBounds_toArray, List.set_cons_zero, List.set_cons_succ]
          refine Go.wpAnyH_take (i := 11) (oi := _) (v := ?_) rfl (by kernel_rfl) (by kernel_rfl) (by kernel_rfl) (fun _ _ _ h => h) (Or.inl ⟨by rfl, ?_⟩) (by assumption) ?_
          rotate_left 1
          · intro wx hSw
            go_simp <;> with_reducible rfl
          simp only [Act.put, List.getElem_toArray, List.getElem_cons_zero, List.getElem_cons_succ, List.setIfInBounds_toArray, List.set_cons_zero, List.set_cons_succ]
          refine Go.wpAnyH_take (i := 12) (oi := _) (v := ?_) rfl (by kernel_rfl) (by kernel_rfl) (by kernel_rfl) (fun _ _ _ h => h) (Or.inl ⟨by rfl, ?_⟩) (by assumption) ?_
          rotate_left 1
          · intro wx hSw
            go_simp <;> with_reducible rfl
          simp only [Act.put, List.getElem_toArray, List.getElem_cons_zero, List.getElem_cons_succ, List.setIfInBounds_toArray, List.set_cons_zero, List.set_cons_succ]
          refine Go.wpAnyH_take (i := 13) (oi := _) (v := ?_) rfl (by kernel_rfl) (by kernel_rfl) (by kernel_rfl) (fun _ _ _ h => h) (Or.inl ⟨by rfl, ?_⟩) (by assumption) ?_
          rotate_left 1
          · intro wx hSw
            go_simp <;> with_reducible rfl
          simp only [Act.put, List.getElem_toArray, List.getElem_cons_zero, List.getElem_cons_succ, List.setIfInBounds_toArray, List.set_cons_zero, List.set_cons_succ]
          refine Go.wpAnyH_take (i := 14) (oi := _) (v := ?_) rfl (by kernel_rfl) (by kernel_rfl) (by kernel_rfl) (fun _ _ _ h => h) (Or.inl ⟨by rfl, ?_⟩) (by assumption) ?_
          rotate_left 1
          · intro wx hSw
            go_simp <;> with_reducible rfl
          simp only [Act.put, List.getElem_toArray, List.getElem_cons_zero, List.getElem_cons_succ, List.setIfInBounds_toArray, List.set_cons_zero, List.set_cons_succ]
          refine Go.wpAnyH_take (i := 15) (oi := _) (v := ?_) rfl (by kernel_rfl) (by kernel_rfl) (by kernel_rfl) (fun _ _ _ h => h) (Or.inl ⟨by rfl, ?_⟩) (by assumption) ?_
          rotate_left 1
          · intro wx hSw
            go_simp <;> with_reducible rfl
          simp only [Act.put, List.getElem_toArray, List.getElem_cons_zero, List.getElem_cons_succ, List.setIfInBounds_toArray, List.set_cons_zero, List.set_cons_succ]
          refine Go.wpAnyH_take (i := 16) (oi := _) (v := undef) rfl (by kernel_rfl) (by kernel_rfl) (by kernel_rfl) (fun _ _ _ h => h) (Or.inr ⟨by rfl, rfl⟩) (by assumption) ?_
          simp only [Act.put, List.getElem_toArray, List.getElem_cons_zero, List.getElem_cons_succ, List.setIfInBounds_toArray, List.set_cons_zero, List.set_cons_succ]
          refine Go.wpAnyH_take (i := 17) (oi := _) (v := undef) rfl (by kernel_rfl) (by kernel_rfl) (by kernel_rfl) (fun _ _ _ h => h) (Or.inr ⟨by rfl, rfl⟩) (by assumption) ?_
          simp only [Act.put, List.getElem_toArray, List.getElem_cons_zero, List.getElem_cons_succ, List.setIfInBounds_toArray, List.set_cons_zero, List.set_cons_succ]
          refine Go.wpAnyH_take (i := 18) (oi := _) (v := undef) rfl (by kernel_rfl) (by kernel_rfl) (by kernel_rfl) (fun _ _ _ h => h) (Or.inr ⟨by rfl, rfl⟩) (by assumption) ?_
          simp only [Act.put, List.getElem_toArray, List.getElem_cons_zero, List.getElem_cons_succ, List.setIfInBounds_toArray, List.set_cons_zero, List.set_cons_succ]
          refine Go.wpAnyH_take (i := 19) (oi := _) (v := undef) rfl (by kernel_rfl) (by kernel_rfl) (by kernel_rfl) (fun _ _ _ h => h) (Or.inr ⟨by rfl, rfl⟩) (by assumption) ?_
          simp only [Act.put, List.getElem_toArray, List.getElem_cons_zero, List.getElem_cons_succ, List.setIfInBounds_toArray, List.set_cons_zero, List.set_cons_succ]
          refine Go.wpAnyH_take (i := 20) (oi := _) (v := ?_) rfl (by kernel_rfl) (by kernel_rfl) (by kernel_rfl) (fun _ _ _ h => h) (Or.inl ⟨by rfl, ?_⟩) (by assumption) ?_
          rotate_left 1
          · intro wx hSw
            go_simp <;> with_reducible rfl
          simp only [Act.put, List.getElem_toArray, List.getElem_cons_zero, List.getElem_cons_succ, List.setIfInBounds_toArray, List.set_cons_zero, List.set_cons_succ]
          refine Go.wpAnyH_take (i := 21) (oi := _) (v := ?_) rfl (by kernel_rfl) (by kernel_rfl) (by kernel_rfl) (fun _ _ _ h => h) (Or.inl ⟨by rfl, ?_⟩) (by assumption) ?_
          rotate_left 1
          · intro wx hSw
            go_simp <;> with_reducible rfl
          simp only [Act.put, List.getElem_toArray, List.getElem_cons_zero, List.getElem_cons_succ, List.setIfInBounds_toArray, List.set_cons_zero, List.set_cons_succ]
          refine Go.wpAnyH_done (by kernel_rfl) ?_ _
          have H3 := Lib.hid hHeld.1.out
          obtain ⟨-, x0, x1, x2, x3, x4, x5, x6, x7, x8, x9, x10, x11, x12, x13, x14⟩ := hHeld
          go_wp2_with fail
          refine (kba.out _ H3.out).mono ?_
          rintro e w_4 ⟨rfl, h4⟩
          have H4 := Lib.hid h4
          clear x0 x1 x2 x3 x4 x5 x6 x7 x8 x9 x10 x11 x12 x13 x14 h4
          obtain ⟨-, x0, x1, x2, x3, x4, x5, x6, x7, x8, x9, x10, x11, x12, x13, x14⟩ := seen.out _ H4.out
          go_wp2_with fail
          clear x0 x1 x2 x3 x4 x5 x6 x7 x8 x9 x10 x11 x12 x13 x14
          refine Go.wp_region_held_drew (S := (fun w' => Hid (L w') ∧ w'.cell? ⟨P1, 0, none⟩ = some (.int .i64 ak) ∧ w'.cell? ⟨P1, 1, none⟩ = some (.int .i64 an) ∧ w'.cell? ⟨P1, 2, none⟩ = some (.string as') ∧ w'.cell? ⟨P1, 3, none⟩ = some (.slice A3 an3 k3) ∧ w'.cell? ⟨P1, 4, none⟩ = some (.slice A4 an4 k4) ∧ w'.cell? ⟨P2, 0, none⟩ = some (.int .i64 bk) ∧ w'.cell? ⟨P2, 1, none⟩ = some (.int .i64 bn) ∧ w'.cell? ⟨P2, 2, none⟩ = some (.string bs) ∧ w'.cell? ⟨P2, 3, none⟩ = some (.slice B3 bn3 l3) ∧ w'.cell? ⟨P2, 4, none⟩ = some (.slice B4 bn4 l4) ∧ w'.cell? ⟨P3, 0, none⟩ = some (.int .i64 ck) ∧ w'.cell? ⟨P3, 1, none⟩ = some (.int .i64 cn) ∧ w'.cell? ⟨P3, 2, none⟩ = some (.string cs) ∧ w'.cell? ⟨P3, 3, none⟩ = some (.slice C3 cn3 m3) ∧ w'.cell? ⟨P3, 4, none⟩ = some (.slice C4 cn4 m4))) (by kernel_rfl) (seen.out _ (stays.out _ _ H4.out (Q.drewN _ 1))) (fun hHeld => ?_)
          refine Go.wpAnyH_take (i := 0) (oi := _) (v := ?_) rfl (by kernel_rfl) (by kernel_rfl) (by kernel_rfl) (fun _ _ _ h => h) (Or.inl ⟨by rfl, ?_⟩) (by assumption) ?_
          rotate_left 1
          · intro wx hSw
            go_simp <;> with_reducible rfl
          simp only [Act.put, List.getElem_toArray, List.getElem_cons_zero, List.setIfInBounds_toArray, List.set_cons_zero, List.set_cons_succ]
          refine Go.wpAnyH_take (i := 1) (oi := _) (v := ?_) rfl (by kernel_rfl) (by kernel_rfl) (by kernel_rfl) (fun _ _ _ h => h) (Or.inl ⟨by rfl, ?_⟩) (by assumption) ?_
          rotate_left 1
          · intro wx hSw
            go_simp <;> with_reducible rfl
          simp only [Act.put, List.getElem_toArray, List.getElem_cons_zero, List.getElem_cons_succ, List.setIfInBounds_toArray, List.set_cons_zero, List.set_cons_succ]
          refine Go.wpAnyH_take (i := 2) (oi := _) (v := ?_) rfl (by kernel_rfl) (by kernel_rfl) (by kernel_rfl) (fun _ _ _ h => h) (Or.inl ⟨by rfl, ?_⟩) (by assumption) ?_
          rotate_left 1
          · intro wx hSw
            go_simp <;> with_reducible rfl
          simp only [Act.put, List.getElem_toArray, List.getElem_cons_zero, List.getElem_cons_succ, List.setIfInBounds_toArray, List.set_cons_zero, List.set_cons_succ]
          refine Go.wpAnyH_ready (rs := [3]) (by kernel_rfl) (by simp) ?_
          refine Go.AllReadyH.cons rfl (fun K hK => ?_) Go.AllReadyH.nil
          rw [if_pos (by rfl)]
          go_simp
          refine (kkb.out _ hHeld.1.out).mono ?_
          rintro e v5_3 ⟨rfl, g5_3⟩
          refine hK.out _ _ (seen.out _ g5_3) (fun hHeld => ?_)
          clear hK K
          refine Go.wpAnyH_take (i := 4) (oi := _) (v := ?_) rfl (by kernel_rfl) (by kernel_rfl) (by kernel_rfl) (fun _ _ _ h => h) (Or.inl ⟨by rfl, ?_⟩) (by assumption) ?_
          rotate_left 1
          · intro wx hSw
            go_simp <;> with_reducible rfl
          simp only [Act.put, List.getElem_toArray, List.getElem_cons_zero, List.getElem_cons_succ, List.setIfInBounds_toArray, List.set_cons_zero, List.set_cons_succ]
          refine Go.wpAnyH_take (i := 5) (oi := _) (v := ?_) rfl (by kernel_rfl) (by kernel_rfl) (by kernel_rfl) (fun _ _ _ h => h) (Or.inl ⟨by rfl, ?_⟩) (by assumption) ?_
          rotate_left 1
          · intro wx hSw
            go_simp <;> with_reducible rfl
          simp only [Act.put, List.getElem_toArray, List.getElem_cons_zero, List.getElem_cons_succ, List.setIfInBounds_toArray, List.set_cons_zero, List.set_cons_succ]
          refine Go.wpAnyH_take (i := 6) (oi := _) (v := undef) rfl (by kernel_rfl) (by kernel_rfl) (by kernel_rfl) (fun _ _ _ h => h) (Or.inr ⟨by rfl, rfl⟩) (by assumption) ?_
          simp only [Act.put, List.getElem_toArray, List.getElem_cons_zero, List.getElem_cons_succ, List.setIfInBounds_toArray, List.set_cons_zero, List.set_cons_succ]
          refine Go.wpAnyH_take (i := 7) (oi := _) (v := undef) rfl (by kernel_rfl) (by kernel_rfl) (by kernel_rfl) (fun _ _ _ h => h) (Or.inr ⟨by rfl, rfl⟩) (by assumption) ?_
          simp only [Act.put, List.getElem_toArray, List.getElem_cons_zero, List.getElem_cons_succ, List.setIfInBounds_toArray, List.set_cons_zero, List.set_cons_succ]
          refine Go.wpAnyH_take (i := 8) (oi := _) (v := undef) rfl (by kernel_rfl) (by kernel_rfl) (by kernel_rfl) (fun _ _ _ h => h) (Or.inr ⟨by rfl, rfl⟩) (by assumption) ?_
          simp only [Act.put, List.getElem_toArray, List.getElem_cons_zero, List.getElem_cons_succ, List.setIfInBounds_toArray, List.set_cons_zero, List.set_cons_succ]
          refine Go.wpAnyH_take (i := 9) (oi := _) (v := undef) rfl (by kernel_rfl) (by kernel_rfl) (by kernel_rfl) (fun _ _ _ h => h) (Or.inr ⟨by rfl, rfl⟩) (by assumption) ?_
          simp only [Act.put, List.getElem_toArray, List.getElem_cons_zero, List.getElem_cons_succ, List.setIfInBounds_toArray, List.set_cons_zero, List.set_cons_succ]
          refine Go.wpAnyH_take (i := 10) (oi := _) (v := ?_) rfl (by kernel_rfl) (by kernel_rfl) (by kernel_rfl) (fun _ _ _ h => h) (Or.inl ⟨by rfl, ?_⟩) (by assumption) ?_
          rotate_left 1
          · intro wx hSw
            go_simp <;> with_reducible rfl
          simp only [Act.put, List.getElem_toArray, List.getElem_cons_zero, List.getElem_cons_succ, List.setIfInBounds_toArray, List.set_cons_zero, List.set_cons_succ]
          refine Go.wpAnyH_take (i := 11) (oi := _) (v := ?_) rfl (by kernel_rfl) (by kernel_rfl) (by kernel_rfl) (fun _ _ _ h => h) (Or.inl ⟨by rfl, ?_⟩) (by assumption) ?_
          rotate_left 1
          · intro wx hSw
            go_simp <;> with_reducible rfl
          simp only [Act.put, List.getElem_toArray, List.getElem_cons_zero, List.getElem_cons_succ, List.setIfInBounds_toArray, List.set_cons_zero, List.set_cons_succ]
          refine Go.wpAnyH_take (i := 12) (oi := _) (v := ?_) rfl (by kernel_rfl) (by kernel_rfl) (by kernel_rfl) (fun _ _ _ h => h) (Or.inl ⟨by rfl, ?_⟩) (by assumption) ?_
          rotate_left 1
          · intro wx hSw
            go_simp <;> with_reducible rfl
          simp only [Act.put, List.getElem_toArray, List.getElem_cons_zero, List.getElem_cons_succ, List.setIfInBounds_toArray, List.set_cons_zero, List.set_cons_succ]
          refine Go.wpAnyH_take (i := 13) (oi := _) (v := ?_) rfl (by kernel_rfl) (by kernel_rfl) (by kernel_rfl) (fun _ _ _ h => h) (Or.inl ⟨by rfl, ?_⟩) (by assumption) ?_
          rotate_left 1
          · intro wx hSw
            go_simp <;> with_reducible rfl
          simp only [Act.put, List.getElem_toArray, List.getElem_cons_zero, List.getElem_cons_succ, List.setIfInBounds_toArray, List.set_cons_zero, List.set_cons_succ]
          refine Go.wpAnyH_take (i := 14) (oi := _) (v := ?_) rfl (by kernel_rfl) (by kernel_rfl) (by kernel_rfl) (fun _ _ _ h => h) (Or.inl ⟨by rfl, ?_⟩) (by assumption) ?_
          rotate_left 1
          · intro wx hSw
            go_simp <;> with_reducible rfl
          simp only [Act.put, List.getElem_toArray, List.getElem_cons_zero, List.getElem_cons_succ, List.setIfInBounds_toArray, List.set_cons_zero, List.set_cons_succ]
          refine Go.wpAnyH_take (i := 16) (oi := _) (v := ?_) rfl (by kernel_rfl) (by kernel_rfl) (by kernel_rfl) (fun _ _ _ h => h) (Or.inl ⟨by rfl, ?_⟩) (by assumption) ?_
          rotate_left 1
          · intro wx hSw
            go_simp <;> with_reducible rfl
          simp only [Act.put, List.getElem_toArray, List.getElem_cons_zero, List.getElem_cons_succ, List.setIfInBounds_toArray, List.set_cons_zero, List.set_cons_succ]
          refine Go.wpAnyH_ready (rs := [15]) (by kernel_rfl) (by simp) ?_
          refine Go.AllReadyH.cons rfl (fun K hK => ?_) Go.AllReadyH.nil
          rw [if_pos (by rfl)]
          go_simp
          refine (kna.out _ hHeld.1.out).mono ?_
          rintro e v5_15 ⟨rfl, g5_15⟩
          refine hK.out _ _ (seen.out _ g5_15) (fun hHeld => ?_)
          clear hK K
          refine Go.wpAnyH_ready (rs := [17]) (by kernel_rfl) (by simp) ?_
          refine Go.AllReadyH.cons rfl (fun K hK => ?_) Go.AllReadyH.nil
          rw [if_pos (by rfl)]
          go_simp
          refine (knb.out _ hHeld.1.out).mono ?_
          rintro e v5_17 ⟨rfl, g5_17⟩
          refine hK.out _ _ (seen.out _ g5_17) (fun hHeld => ?_)
          clear hK K
          refine Go.wpAnyH_take (i := 18) (oi := _) (v := ?_) rfl (by kernel_rfl) (by kernel_rfl) (by kernel_rfl) (fun _ _ _ h => h) (Or.inl ⟨by rfl, ?_⟩) (by assumption) ?_
          rotate_left 1
          · intro wx hSw
            go_simp <;> with_reducible rfl
          simp only [Act.put, List.getElem_toArray, List.getElem_cons_zero, List.getElem_cons_succ, List.setIfInBounds_toArray, List.set_cons_zero, List.set_cons_succ]
          refine Go.wpAnyH_take (i := 19) (oi := _) (v := ?_) rfl (by kernel_rfl) (by kernel_rfl) (by kernel_rfl) (fun _ _ _ h => h) (Or.inl ⟨by rfl, ?_⟩) (by assumption) ?_
          rotate_left 1
          · intro wx hSw
            go_simp <;> with_reducible rfl
          simp only [Act.put, List.getElem_toArray, List.getElem_cons_zero, List.getElem_cons_succ, List.setIfInBounds_toArray, List.set_cons_zero, List.set_cons_succ]
          refine Go.wpAnyH_take (i := 20) (oi := _) (v := ?_) rfl (by kernel_rfl) (by kernel_rfl) (by kernel_rfl) (fun _ _ _ h => h) (Or.inl ⟨by rfl, ?_⟩) (by assumption) ?_
          rotate_left 1
          · intro wx hSw
            go_simp <;> with_reducible rfl
          simp only [Act.put, List.getElem_toArray, List.getElem_cons_zero, List.getElem_cons_succ, List.setIfInBounds_toArray, List.set_cons_zero, List.set_cons_succ]
          refine Go.wpAnyH_done (by kernel_rfl) ?_ _
          have H5 := Lib.hid hHeld.1.out
          obtain ⟨-, x0, x1, x2, x3, x4, x5, x6, x7, x8, x9, x10, x11, x12, x13, x14⟩ := hHeld
          go_wp2_with fail
          refine (cA.out _ (LQ.out _ H5.out)).mono ?_
          rintro e wz ⟨rfl, qz⟩
          clear x0 x1 x2 x3 x4 x5 x6 x7 x8 x9 x10 x11 x12 x13 x14
          go_wp2_with fail
          go_ret
          exact ⟨rfl, (LQ.out _ H5.out).trans qz⟩
        · have hN : NB ≤ NA := TN.out rfl
          have n1 : decide (NA < NB) = false := decide_eq_false (by omega)
          have n2 : decide ((NA : Int) < (NB : Int)) = false := decide_eq_false (by omega)
          clear hN
          obtain rfl : EQ = true := TK.out rfl rfl
          clear TR TE TK TN
          obtain ⟨D, hD⟩ : ∃ x, wb3.heap.size = x := ⟨_, rfl⟩
          obtain ⟨wd, hwd⟩ : ∃ x, wb3.alloc (.cells #[.int .i64 ak, .int .i64 an, .string as', .slice A3 an3 k3, .slice A4 an4 k4, .int .i64 bk, .int .i64 bn, .string bs, .slice B3 bn3 l3, .slice B4 bn4 l4, .int .i64 ck, .int .i64 cn, .string cs, .slice C3 cn3 m3, .slice C4 cn4 m4] 26) = x := ⟨_, rfl⟩
          have LD : Hid (L wd) := Lib.hid (by rw [← hwd]; exact stays.out _ _ L0.out (Q.box _ _))
          have cVd := Lib.hid (cVal.out wd D (LQ.out _ LD.out) (by rw [← hwd, ← hD]; exact Bk.new _ _ _))
          go_enter Tryz.func8, Tryz.ntmps8
          go_wp2_with fail
          refine (cVd.out).mono ?_
          rintro e w_1 ⟨rfl, q1⟩
          have H1 := Lib.hid (stays.out _ _ LD.out q1)
          clear x0 x1 x2 x3 x4 x5 x6 x7 x8 x9 x10 x11 x12 x13 x14 q1 hwd hD
          obtain ⟨-, x0, x1, x2, x3, x4, x5, x6, x7, x8, x9, x10, x11, x12, x13, x14⟩ := seen.out _ H1.out
          go_wp2_with fail
          clear x0 x1 x2 x3 x4 x5 x6 x7 x8 x9 x10 x11 x12 x13 x14
          refine Go.wp_region_held_drew (S := (fun w' => Hid (L w') ∧ w'.cell? ⟨P1, 0, none⟩ = some (.int .i64 ak) ∧ w'.cell? ⟨P1, 1, none⟩ = some (.int .i64 an) ∧ w'.cell? ⟨P1, 2, none⟩ = some (.string as') ∧ w'.cell? ⟨P1, 3, none⟩ = some (.slice A3 an3 k3) ∧ w'.cell? ⟨P1, 4, none⟩ = some (.slice A4 an4 k4) ∧ w'.cell? ⟨P2, 0, none⟩ = some (.int .i64 bk) ∧ w'.cell? ⟨P2, 1, none⟩ = some (.int .i64 bn) ∧ w'.cell? ⟨P2, 2, none⟩ = some (.string bs) ∧ w'.cell? ⟨P2, 3, none⟩ = some (.slice B3 bn3 l3) ∧ w'.cell? ⟨P2, 4, none⟩ = some (.slice B4 bn4 l4) ∧ w'.cell? ⟨P3, 0, none⟩ = some (.int .i64 ck) ∧ w'.cell? ⟨P3, 1, none⟩ = some (.int .i64 cn) ∧ w'.cell? ⟨P3, 2, none⟩ = some (.string cs) ∧ w'.cell? ⟨P3, 3, none⟩ = some (.slice C3 cn3 m3) ∧ w'.cell? ⟨P3, 4, none⟩ = some (.slice C4 cn4 m4))) (by kernel_rfl) (seen.out _ (stays.out _ _ H1.out (Q.drewN _ 1))) (fun hHeld => ?_)
          refine Go.wpAnyH_take (i := 0) (oi := _) (v := ?_) rfl (by kernel_rfl) (by kernel_rfl) (by kernel_rfl) (fun _ _ _ h => h) (Or.inl ⟨by rfl, ?_⟩) (by assumption) ?_
          rotate_left 1
          · intro wx hSw
            go_simp <;> with_reducible rfl
          simp only [Act.put, List.getElem_toArray, List.getElem_cons_zero, List.setIfInBounds_toArray, List.set_cons_zero, List.set_cons_succ]
          refine Go.wpAnyH_take (i := 1) (oi := _) (v := ?_) rfl (by kernel_rfl) (by kernel_rfl) (by kernel_rfl) (fun _ _ _ h => h) (Or.inl ⟨by rfl, ?_⟩) (by assumption) ?_
          rotate_left 1
          · intro wx hSw
            go_simp <;> with_reducible rfl
          simp only [Act.put, List.getElem_toArray, List.getElem_cons_zero, List.getElem_cons_succ, List.setIfInBounds_toArray, List.set_cons_zero, List.set_cons_succ]
          refine Go.wpAnyH_take (i := 3) (oi := _) (v := ?_) rfl (by kernel_rfl) (by kernel_rfl) (by kernel_rfl) (fun _ _ _ h => h) (Or.inl ⟨by rfl, ?_⟩) (by assumption) ?_
          rotate_left 1
          · intro wx hSw
            go_simp <;> with_reducible rfl
          simp only [Act.put, List.getElem_toArray, List.getElem_cons_zero, List.getElem_cons_succ, List.setIfInBounds_toArray, List.set_cons_zero, List.set_cons_succ]
          refine Go.wpAnyH_take (i := 4) (oi := _) (v := ?_) rfl (by kernel_rfl) (by kernel_rfl) (by kernel_rfl) (fun _ _ _ h => h) (Or.inl ⟨by rfl, ?_⟩) (by assumption) ?_
          rotate_left 1
          · intro wx hSw
            go_simp <;> with_reducible rfl
          simp only [Act.put, List.getElem_toArray, List.getElem_cons_zero, List.getElem_cons_succ, List.setIfInBounds_toArray, List.set_cons_zero, List.set_cons_succ]
          refine Go.wpAnyH_ready (rs := [2]) (by kernel_rfl) (by simp) ?_
          refine Go.AllReadyH.cons rfl (fun K hK => ?_) Go.AllReadyH.nil
          rw [if_pos (by rfl)]
          go_simp
          refine (kab.out _ hHeld.1.out).mono ?_
          rintro e v2_2 ⟨rfl, g2_2⟩
          refine hK.out _ _ (seen.out _ g2_2) (fun hHeld => ?_)
          clear hK K
          refine Go.wpAnyH_ready (rs := [5]) (by kernel_rfl) (by simp) ?_
          refine Go.AllReadyH.cons rfl (fun K hK => ?_) Go.AllReadyH.nil
          rw [if_pos (by rfl)]
          go_simp
          refine (kbc.out _ hHeld.1.out).mono ?_
          rintro e v2_5 ⟨rfl, g2_5⟩
          refine hK.out _ _ (seen.out _ g2_5) (fun hHeld => ?_)
          clear hK K
          refine Go.wpAnyH_take (i := 6) (oi := _) (v := ?_) rfl (by kernel_rfl) (by kernel_rfl) (by kernel_rfl) (fun _ _ _ h => h) (Or.inl ⟨by rfl, ?_⟩) (by assumption) ?_
          rotate_left 1
          · intro wx hSw
            go_simp <;> with_reducible rfl
          simp only [Act.put, List.getElem_toArray, List.getElem_cons_zero, List.getElem_cons_succ, List.setIfInBounds_toArray, List.set_cons_zero, List.set_cons_succ]
          refine Go.wpAnyH_take (i := 7) (oi := _) (v := ?_) rfl (by kernel_rfl) (by kernel_rfl) (by kernel_rfl) (fun _ _ _ h => h) (Or.inl ⟨by rfl, ?_⟩) (by assumption) ?_
          rotate_left 1
          · intro wx hSw
            go_simp <;> with_reducible rfl
          simp only [Act.put, List.getElem_toArray, List.getElem_cons_zero, List.getElem_cons_succ, List.setIfInBounds_toArray, List.set_cons_zero, List.set_cons_succ]
          refine Go.wpAnyH_done (by kernel_rfl) ?_ _
          have H2 := Lib.hid hHeld.1.out
          obtain ⟨-, x0, x1, x2, x3, x4, x5, x6, x7, x8, x9, x10, x11, x12, x13, x14⟩ := hHeld
          go_wp2_with fail
          clear x0 x1 x2 x3 x4 x5 x6 x7 x8 x9 x10 x11 x12 x13 x14
          refine Go.wp_region_held_drew (S := (fun w' => Hid (L w') ∧ w'.cell? ⟨P1, 0, none⟩ = some (.int .i64 ak) ∧ w'.cell? ⟨P1, 1, none⟩ = some (.int .i64 an) ∧ w'.cell? ⟨P1, 2, none⟩ = some (.string as') ∧ w'.cell? ⟨P1, 3, none⟩ = some (.slice A3 an3 k3) ∧ w'.cell? ⟨P1, 4, none⟩ = some (.slice A4 an4 k4) ∧ w'.cell? ⟨P2, 0, none⟩ = some (.int .i64 bk) ∧ w'.cell? ⟨P2, 1, none⟩ = some (.int .i64 bn) ∧ w'.cell? ⟨P2, 2, none⟩ = some (.string bs) ∧ w'.cell? ⟨P2, 3, none⟩ = some (.slice B3 bn3 l3) ∧ w'.cell? ⟨P2, 4, none⟩ = some (.slice B4 bn4 l4) ∧ w'.cell? ⟨P3, 0, none⟩ = some (.int .i64 ck) ∧ w'.cell? ⟨P3, 1, none⟩ = some (.int .i64 cn) ∧ w'.cell? ⟨P3, 2, none⟩ = some (.string cs) ∧ w'.cell? ⟨P3, 3, none⟩ = some (.slice C3 cn3 m3) ∧ w'.cell? ⟨P3, 4, none⟩ = some (.slice C4 cn4 m4))) (by kernel_rfl) (seen.out _ (stays.out _ _ H2.out (Q.drewN _ 1))) (fun hHeld => ?_)
          refine Go.wpAnyH_take (i := 0) (oi := _) (v := ?_) rfl (by kernel_rfl) (by kernel_rfl) (by kernel_rfl) (fun _ _ _ h => h) (Or.inl ⟨by rfl, ?_⟩) (by assumption) ?_
          rotate_left 1
          · intro wx hSw
            go_simp <;> with_reducible rfl
          simp only [Act.put, List.getElem_toArray, List.getElem_cons_zero, List.setIfInBounds_toArray, List.set_cons_zero, List.set_cons_succ]
          refine Go.wpAnyH_take (i := 1) (oi := _) (v := ?_) rfl (by kernel_rfl) (by kernel_rfl) (by kernel_rfl) (fun _ _ _ h => h) (Or.inl ⟨by rfl, ?_⟩) (by assumption) ?_
          rotate_left 1
          · intro wx hSw
            go_simp <;> with_reducible rfl
          simp only [Act.put, List.getElem_toArray, List.getElem_cons_zero, List.getElem_cons_succ, List.setIfInBounds_toArray, List.set_cons_zero, List.set_cons_succ]
          refine Go.wpAnyH_ready (rs := [2]) (by kernel_rfl) (by simp) ?_
          refine Go.AllReadyH.cons rfl (fun K hK => ?_) Go.AllReadyH.nil
          rw [if_pos (by rfl)]
          go_simp
          refine (kaa.out _ hHeld.1.out).mono ?_
          rintro e v3_2 ⟨rfl, g3_2⟩
          refine hK.out _ _ (seen.out _ g3_2) (fun hHeld => ?_)
          clear hK K
          refine Go.wpAnyH_take (i := 3) (oi := _) (v := ?_) rfl (by kernel_rfl) (by kernel_rfl) (by kernel_rfl) (fun _ _ _ h => h) (Or.inl ⟨by rfl, ?_⟩) (by assumption) ?_
          rotate_left 1
          · intro wx hSw
            go_simp <;> with_reducible rfl
          simp only [Act.put, List.getElem_toArray, List.getElem_cons_zero, List.getElem_cons_succ, List.setIfInBounds_toArray, List.set_cons_zero, List.set_cons_succ]
          refine Go.wpAnyH_take (i := 4) (oi := _) (v := ?_) rfl (by kernel_rfl) (by kernel_rfl) (by kernel_rfl) (fun _ _ _ h => h) (Or.inl ⟨by rfl, ?_⟩) (by assumption) ?_
          rotate_left 1
          · intro wx hSw
            go_simp <;> with_reducible rfl
          simp only [Act.put, List.getElem_toArray, List.getElem_cons_zero, List.getElem_cons_succ, List.setIfInBounds_toArray, List.set_cons_zero, List.set_cons_succ]
          refine Go.wpAnyH_take (i := 5) (oi := _) (v := ?_) rfl (by kernel_rfl) (by kernel_rfl) (by kernel_rfl) (fun _ _ _ h => h) (Or.inl ⟨by rfl, ?_⟩) (by assumption) ?_
          rotate_left 1
          · intro wx hSw
            go_simp <;> with_reducible rfl
          simp only [Act.put, List.getElem_toArray, List.getElem_cons_zero, List.getElem_cons_succ, List.setIfInBounds_toArray, List.set_cons_zero, List.set_cons_succ]
          refine Go.wpAnyH_ready (rs := [6]) (by kernel_rfl) (by simp) ?_
          refine Go.AllReadyH.cons rfl (fun K hK => ?_) Go.AllReadyH.nil
          rw [if_pos (by rfl)]
          go_simp
          refine (kU.out _ hHeld.1.out).mono ?_
          rintro e v3_6 ⟨U3, u3, U4, u4, rfl, g3_6⟩
          refine hK.out _ _ (seen.out _ g3_6) (fun hHeld => ?_)
          clear hK K
          refine Go.wpAnyH_ready (rs := [7]) (by kernel_rfl) (by simp) ?_
          refine Go.AllReadyH.cons rfl (fun K hK => ?_) Go.AllReadyH.nil
          rw [if_pos (by rfl)]
          go_simp
          refine (kaU.out _ hHeld.1.out U3 u3 U4 u4).mono ?_
          rintro e v3_7 ⟨rfl, g3_7⟩
          refine hK.out _ _ (seen.out _ g3_7) (fun hHeld => ?_)
          clear hK K
          refine Go.wpAnyH_take (i := 8) (oi := _) (v := ?_) rfl (by kernel_rfl) (by kernel_rfl) (by kernel_rfl) (fun _ _ _ h => h) (Or.inl ⟨by rfl, ?_⟩) (by assumption) ?_
          rotate_left 1
          · intro wx hSw
            go_simp <;> with_reducible rfl
          simp only [Act.put, List.getElem_toArray, List.getElem_cons_zero, List.getElem_cons_succ, List.setIfInBounds_toArray, List.set_cons_zero, List.set_cons_succ]
          refine Go.wpAnyH_take (i := 9) (oi := _) (v := ?_) rfl (by kernel_rfl) (by kernel_rfl) (by kernel_rfl) (fun _ _ _ h => h) (Or.inl ⟨by rfl, ?_⟩) (by assumption) ?_
          rotate_left 1
          · intro wx hSw
            go_simp <;> with_reducible rfl
          simp only [Act.put, List.getElem_toArray, List.getElem_cons_zero, List.getElem_cons_succ, List.setIfInBounds_toArray, List.set_cons_zero, List.set_cons_succ]
          refine Go.wpAnyH_take (i := 10) (oi := _) (v := ?_) rfl (by kernel_rfl) (by kernel_rfl) (by kernel_rfl) (fun _ _ _ h => h) (Or.inl ⟨by rfl, ?_⟩) (by assumption) ?_
          rotate_left 1
          · intro wx hSw
            go_simp <;> with_reducible rfl
          simp only [Act.put, List.getElem_toArray, List.getElem_cons_zero, List.getElem_cons_succ, List.setIfInBounds_toArray, List.set_cons_zero, List.set_cons_succ]
          refine Go.wpAnyH_take (i := 11) (oi := _) (v := ?_) rfl (by kernel_rfl) (by kernel_rfl) (by kernel_rfl) (fun _ _ _ h => h) (Or.inl ⟨by rfl, ?_⟩) (by assumption) ?_
          rotate_left 1
          · intro wx hSw
            go_simp <;> with_reducible rfl
          simp only [Act.put, List.getElem_toArray, List.getElem_cons_zero, List.getElem_cons_succ, List.setIfInBounds_toArray, List.set_cons_zero, List.set_cons_succ]
          refine Go.wpAnyH_take (i := 12) (oi := _) (v := ?_) rfl (by kernel_rfl) (by kernel_rfl) (by kernel_rfl) (fun _ _ _ h => h) (Or.inl ⟨by rfl, ?_⟩) (by assumption) ?_
          rotate_left 1
          · intro wx hSw
            go_simp <;> with_reducible rfl
          simp only [Act.put, List.getElem_toArray, List.getElem_cons_zero, List.getElem_cons_succ, List.setIfInBounds_toArray, List.set_cons_zero, List.set_cons_succ]
          refine Go.wpAnyH_take (i := 13) (oi := _) (v := ?_) rfl (by kernel_rfl) (by kernel_rfl) (by kernel_rfl) (fun _ _ _ h => h) (Or.inl ⟨by rfl, ?_⟩) (by assumption) ?_
          rotate_left 1
          · intro wx hSw
            go_simp <;> with_reducible rfl
          simp only [Act.put, List.getElem_toArray, List.getElem_cons_zero, List.getElem_cons_succ, List.setIfInBounds_toArray, List.set_cons_zero, List.set_cons_succ]
          refine Go.wpAnyH_take (i := 14) (oi := _) (v := ?_) rfl (by kernel_rfl) (by kernel_rfl) (by kernel_rfl) (fun _ _ _ h => h) (Or.inl ⟨by rfl, ?_⟩) (by assumption) ?_
          rotate_left 1
          · intro wx hSw
            go_simp <;> with_reducible rfl
          simp only [Act.put, List.getElem_toArray, List.getElem_cons_zero, List.getElem_cons_succ, List.setIfInBounds_toArray, List.set_cons_zero, List.set_cons_succ]
          refine Go.wpAnyH_take (i := 15) (oi := _) (v := ?_) rfl (by kernel_rfl) (by kernel_rfl) (by kernel_rfl) (fun _ _ _ h => h) (Or.inl ⟨by rfl, ?_⟩) (by assumption) ?_
          rotate_left 1
          · intro wx hSw
            go_simp <;> with_reducible rfl
          simp only [Act.put, List.getElem_toArray, List.getElem_cons_zero, List.getElem_cons_succ, List.setIfInBounds_toArray, List.set_cons_zero, List.set_cons_succ]
          refine Go.wpAnyH_take (i := 16) (oi := _) (v := undef) rfl (by kernel_rfl) (by kernel_rfl) (by kernel_rfl) (fun _ _ _ h => h) (Or.inr ⟨by rfl, rfl⟩) (by assumption) ?_
          simp only [Act.put, List.getElem_toArray, List.getElem_cons_zero, List.getElem_cons_succ, List.setIfInBounds_toArray, List.set_cons_zero, List.set_cons_succ]
          refine Go.wpAnyH_take (i := 17) (oi := _) (v := undef) rfl (by kernel_rfl) (by kernel_rfl) (by kernel_rfl) (fun _ _ _ h => h) (Or.inr ⟨by rfl, rfl⟩) (by assumption) ?_
          simp only [Act.put, List.getElem_toArray, List.getElem_cons_zero, List.getElem_cons_succ, List.setIfInBounds_toArray, List.set_cons_zero, List.set_cons_succ]
          refine Go.wpAnyH_take (i := 18) (oi := _) (v := undef) rfl (by kernel_rfl) (by kernel_rfl) (by kernel_rfl) (fun _ _ _ h => h) (Or.inr ⟨by rfl, rfl⟩) (by assumption) ?_
          simp only [Act.put, List.getElem_toArray, List.getElem_cons_zero, List.getElem_cons_succ, List.setIfInBounds_toArray, List.set_cons_zero, List.set_cons_succ]
          refine Go.wpAnyH_take (i := 19) (oi := _) (v := undef) rfl (by kernel_rfl) (by kernel_rfl) (by kernel_rfl) (fun _ _ _ h => h) (Or.inr ⟨by rfl, rfl⟩) (by assumption) ?_
          simp only [Act.put, List.getElem_toArray, List.getElem_cons_zero, List.getElem_cons_succ, List.setIfInBounds_toArray, List.set_cons_zero, List.set_cons_succ]
          refine Go.wpAnyH_take (i := 20) (oi := _) (v := ?_) rfl (by kernel_rfl) (by kernel_rfl) (by kernel_rfl) (fun _ _ _ h => h) (Or.inl ⟨by rfl, ?_⟩) (by assumption) ?_
          rotate_left 1
          · intro wx hSw
            go_simp <;> with_reducible rfl
          simp only [Act.put, List.getElem_toArray, List.getElem_cons_zero, List.getElem_cons_succ, List.setIfInBounds_toArray, List.set_cons_zero, List.set_cons_succ]
          refine Go.wpAnyH_take (i := 21) (oi := _) (v := ?_) rfl (by kernel_rfl) (by kernel_rfl) (by kernel_rfl) (fun _ _ _ h => h) (Or.inl ⟨by rfl, ?_⟩) (by assumption) ?_
          rotate_left 1
          · intro wx hSw
            go_simp <;> with_reducible rfl
          simp only [Act.put, List.getElem_toArray, List.getElem_cons_zero, List.getElem_cons_succ, List.setIfInBounds_toArray, List.set_cons_zero, List.set_cons_succ]
          refine Go.wpAnyH_done (by kernel_rfl) ?_ _
          have H3 := Lib.hid hHeld.1.out
          obtain ⟨-, x0, x1, x2, x3, x4, x5, x6, x7, x8, x9, x10, x11, x12, x13, x14⟩ := hHeld
          go_wp2_with fail
          refine (kba.out _ H3.out).mono ?_
          rintro e w_4 ⟨rfl, h4⟩
          have H4 := Lib.hid h4
          clear x0 x1 x2 x3 x4 x5 x6 x7 x8 x9 x10 x11 x12 x13 x14 h4
          obtain ⟨-, x0, x1, x2, x3, x4, x5, x6, x7, x8, x9, x10, x11, x12, x13, x14⟩ := seen.out _ H4.out
          go_wp2_with fail
          clear x0 x1 x2 x3 x4 x5 x6 x7 x8 x9 x10 x11 x12 x13 x14
          refine Go.wp_region_held_drew (S := (fun w' => Hid (L w') ∧ w'.cell? ⟨P1, 0, none⟩ = some (.int .i64 ak) ∧ w'.cell? ⟨P1, 1, none⟩ = some (.int .i64 an) ∧ w'.cell? ⟨P1, 2, none⟩ = some (.string as') ∧ w'.cell? ⟨P1, 3, none⟩ = some (.slice A3 an3 k3) ∧ w'.cell? ⟨P1, 4, none⟩ = some (.slice A4 an4 k4) ∧ w'.cell? ⟨P2, 0, none⟩ = some (.int .i64 bk) ∧ w'.cell? ⟨P2, 1, none⟩ = some (.int .i64 bn) ∧ w'.cell? ⟨P2, 2, none⟩ = some (.string bs) ∧ w'.cell? ⟨P2, 3, none⟩ = some (.slice B3 bn3 l3) ∧ w'.cell? ⟨P2, 4, none⟩ = some (.slice B4 bn4 l4) ∧ w'.cell? ⟨P3, 0, none⟩ = some (.int .i64 ck) ∧ w'.cell? ⟨P3, 1, none⟩ = some (.int .i64 cn) ∧ w'.cell? ⟨P3, 2, none⟩ = some (.string cs) ∧ w'.cell? ⟨P3, 3, none⟩ = some (.slice C3 cn3 m3) ∧ w'.cell? ⟨P3, 4, none⟩ = some (.slice C4 cn4 m4))) (by kernel_rfl) (seen.out _ (stays.out _ _ H4.out (Q.drewN _ 1))) (fun hHeld => ?_)
          refine Go.wpAnyH_take (i := 0) (oi := _) (v := ?_) rfl (by kernel_rfl) (by kernel_rfl) (by kernel_rfl) (fun _ _ _ h => h) (Or.inl ⟨by rfl, ?_⟩) (by assumption) ?_
          rotate_left 1
          · intro wx hSw
            go_simp <;> with_reducible rfl
          simp only [Act.put, List.getElem_toArray, List.getElem_cons_zero, List.setIfInBounds_toArray, List.set_cons_zero, List.set_cons_succ]
          refine Go.wpAnyH_take (i := 1) (oi := _) (v := ?_) rfl (by kernel_rfl) (by kernel_rfl) (by kernel_rfl) (fun _ _ _ h => h) (Or.inl ⟨by rfl, ?_⟩) (by assumption) ?_
          rotate_left 1
          · intro wx hSw
            go_simp <;> with_reducible rfl
          simp only [Act.put, List.getElem_toArray, List.getElem_cons_zero, List.getElem_cons_succ, List.setIfInBounds_toArray, List.set_cons_zero, List.set_cons_succ]
          refine Go.wpAnyH_take (i := 2) (oi := _) (v := ?_) rfl (by kernel_rfl) (by kernel_rfl) (by kernel_rfl) (fun _ _ _ h => h) (Or.inl ⟨by rfl, ?_⟩) (by assumption) ?_
          rotate_left 1
          · intro wx hSw
            go_simp <;> with_reducible rfl
          simp only [Act.put, List.getElem_toArray, List.getElem_cons_zero, List.getElem_cons_succ, List.setIfInBounds_toArray, List.set_cons_zero, List.set_cons_succ]
          refine Go.wpAnyH_ready (rs := [3]) (by kernel_rfl) (by simp) ?_
          refine Go.AllReadyH.cons rfl (fun K hK => ?_) Go.AllReadyH.nil
          rw [if_pos (by rfl)]
          go_simp
          refine (kkb.out _ hHeld.1.out).mono ?_
          rintro e v5_3 ⟨rfl, g5_3⟩
          refine hK.out _ _ (seen.out _ g5_3) (fun hHeld => ?_)
          clear hK K
          refine Go.wpAnyH_take (i := 4) (oi := _) (v := ?_) rfl (by kernel_rfl) (by kernel_rfl) (by kernel_rfl) (fun _ _ _ h => h) (Or.inl ⟨by rfl, ?_⟩) (by assumption) ?_
          rotate_left 1
          · intro wx hSw
            go_simp <;> with_reducible rfl
          simp only [Act.put, List.getElem_toArray, List.getElem_cons_zero, List.getElem_cons_succ, List.setIfInBounds_toArray, List.set_cons_zero, List.set_cons_succ]
          refine Go.wpAnyH_take (i := 5) (oi := _) (v := ?_) rfl (by kernel_rfl) (by kernel_rfl) (by kernel_rfl) (fun _ _ _ h => h) (Or.inl ⟨by rfl, ?_⟩) (by assumption) ?_
          rotate_left 1
          · intro wx hSw
            go_simp <;> with_reducible rfl
          simp only [Act.put, List.getElem_toArray, List.getElem_cons_zero, List.getElem_cons_succ, List.setIfInBounds_toArray, List.set_cons_zero, List.set_cons_succ]
          refine Go.wpAnyH_take (i := 6) (oi := _) (v := ?_) rfl (by kernel_rfl) (by kernel_rfl) (by kernel_rfl) (fun _ _ _ h => h) (Or.inl ⟨by rfl, ?_⟩) (by assumption) ?_
          rotate_left 1
          · intro wx hSw
            go_simp <;> with_reducible rfl
          simp only [Act.put, List.getElem_toArray, List.getElem_cons_zero, List.getElem_cons_succ, List.setIfInBounds_toArray, List.set_cons_zero, List.set_cons_succ]
          refine Go.wpAnyH_take (i := 7) (oi := _) (v := ?_) rfl (by kernel_rfl) (by kernel_rfl) (by kernel_rfl) (fun _ _ _ h => h) (Or.inl ⟨by rfl, ?_⟩) (by assumption) ?_
          rotate_left 1
          · intro wx hSw
            go_simp <;> with_reducible rfl
          simp only [Act.put, List.getElem_toArray, List.getElem_cons_zero, List.getElem_cons_succ, List.setIfInBounds_toArray, List.set_cons_zero, List.set_cons_succ]
          refine Go.wpAnyH_ready (rs := [8]) (by kernel_rfl) (by simp) ?_
          refine Go.AllReadyH.cons rfl (fun K hK => ?_) Go.AllReadyH.nil
          rw [if_pos (by rfl)]
          go_simp
          refine (eab.out _ hHeld.1.out).mono ?_
          rintro e v5_8 ⟨rfl, g5_8⟩
          refine hK.out _ _ (seen.out _ g5_8) (fun hHeld => ?_)
          clear hK K
          refine Go.wpAnyH_take (i := 9) (oi := _) (v := ?_) rfl (by kernel_rfl) (by kernel_rfl) (by kernel_rfl) (fun _ _ _ h => h) (Or.inl ⟨by rfl, ?_⟩) (by assumption) ?_
          rotate_left 1
          · intro wx hSw
            go_simp <;> with_reducible rfl
          simp only [Act.put, List.getElem_toArray, List.getElem_cons_zero, List.getElem_cons_succ, List.setIfInBounds_toArray, List.set_cons_zero, List.set_cons_succ]
          refine Go.wpAnyH_take (i := 10) (oi := _) (v := ?_) rfl (by kernel_rfl) (by kernel_rfl) (by kernel_rfl) (fun _ _ _ h => h) (Or.inl ⟨by rfl, ?_⟩) (by assumption) ?_
          rotate_left 1
          · intro wx hSw
            go_simp <;> with_reducible rfl
          simp only [Act.put, List.getElem_toArray, List.getElem_cons_zero, List.getElem_cons_succ, List.setIfInBounds_toArray, List.set_cons_zero, List.set_cons_succ]
          refine Go.wpAnyH_take (i := 11) (oi := _) (v := ?_) rfl (by kernel_rfl) (by kernel_rfl) (by kernel_rfl) (fun _ _ _ h => h) (Or.inl ⟨by rfl, ?_⟩) (by assumption) ?_
          rotate_left 1
          · intro wx hSw
            go_simp <;> with_reducible rfl
          simp only [Act.put, List.getElem_toArray, List.getElem_cons_zero, List.getElem_cons_succ, List.setIfInBounds_toArray, List.set_cons_zero, List.set_cons_succ]
          refine Go.wpAnyH_take (i := 12) (oi := _) (v := ?_) rfl (by kernel_rfl) (by kernel_rfl) (by kernel_rfl) (fun _ _ _ h => h) (Or.inl ⟨by rfl, ?_⟩) (by assumption) ?_
          rotate_left 1
          · intro wx hSw
            go_simp <;> with_reducible rfl
          simp only [Act.put, List.getElem_toArray, List.getElem_cons_zero, List.getElem_cons_succ, List.setIfInBounds_toArray, List.set_cons_zero, List.set_cons_succ]
          refine Go.wpAnyH_take (i := 13) (oi := _) (v := ?_) rfl (by kernel_rfl) (by kernel_rfl) (by kernel_rfl) (fun _ _ _ h => h) (Or.inl ⟨by rfl, ?_⟩) (by assumption) ?_
          rotate_left 1
          · intro wx hSw
            go_simp <;> with_reducible rfl
          simp only [Act.put, List.getElem_toArray, List.getElem_cons_zero, List.getElem_cons_succ, List.setIfInBounds_toArray, List.set_cons_zero, List.set_cons_succ]
          refine Go.wpAnyH_take (i := 14) (oi := _) (v := ?_) rfl (by kernel_rfl) (by kernel_rfl) (by kernel_rfl) (fun _ _ _ h => h) (Or.inl ⟨by rfl, ?_⟩) (by assumption) ?_
          rotate_left 1
          · intro wx hSw
            go_simp <;> with_reducible rfl
          simp only [Act.put, List.getElem_toArray, List.getElem_cons_zero, List.getElem_cons_succ, List.setIfInBounds_toArray, List.set_cons_zero, List.set_cons_succ]
          refine Go.wpAnyH_take (i := 16) (oi := _) (v := ?_) rfl (by kernel_rfl) (by kernel_rfl) (by kernel_rfl) (fun _ _ _ h => h) (Or.inl ⟨by rfl, ?_⟩) (by assumption) ?_
          rotate_left 1
          · intro wx hSw
            go_simp <;> with_reducible rfl
          simp only [Act.put, List.getElem_toArray, List.getElem_cons_zero, List.getElem_cons_succ, List.setIfInBounds_toArray, List.set_cons_zero, List.set_cons_succ]
          refine Go.wpAnyH_ready (rs := [15]) (by kernel_rfl) (by simp) ?_
          refine Go.AllReadyH.cons rfl (fun K hK => ?_) Go.AllReadyH.nil
          rw [if_pos (by rfl)]
          go_simp
          refine (kna.out _ hHeld.1.out).mono ?_
          rintro e v5_15 ⟨rfl, g5_15⟩
          refine hK.out _ _ (seen.out _ g5_15) (fun hHeld => ?_)
          clear hK K
          refine Go.wpAnyH_ready (rs := [17]) (by kernel_rfl) (by simp) ?_
          refine Go.AllReadyH.cons rfl (fun K hK => ?_) Go.AllReadyH.nil
          rw [if_pos (by rfl)]
          go_simp
          refine (knb.out _ hHeld.1.out).mono ?_
          rintro e v5_17 ⟨rfl, g5_17⟩
          refine hK.out _ _ (seen.out _ g5_17) (fun hHeld => ?_)
          clear hK K
          refine Go.wpAnyH_take (i := 18) (oi := _) (v := ?_) rfl (by kernel_rfl) (by kernel_rfl) (by kernel_rfl) (fun _ _ _ h => h) (Or.inl ⟨by rfl, ?_⟩) (by assumption) ?_
          rotate_left 1
          · intro wx hSw
            go_simp <;> with_reducible rfl
          simp only [Act.put, List.getElem_toArray, List.getElem_cons_zero, List.getElem_cons_succ, List.setIfInBounds_toArray, List.set_cons_zero, List.set_cons_succ]
          refine Go.wpAnyH_take (i := 19) (oi := _) (v := ?_) rfl (by kernel_rfl) (by kernel_rfl) (by kernel_rfl) (fun _ _ _ h => h) (Or.inl ⟨by rfl, ?_⟩) (by assumption) ?_
          rotate_left 1
          · intro wx hSw
            go_simp <;> with_reducible rfl
          simp only [Act.put, List.getElem_toArray, List.getElem_cons_zero, List.getElem_cons_succ, List.setIfInBounds_toArray, List.set_cons_zero, List.set_cons_succ]
          refine Go.wpAnyH_take (i := 20) (oi := _) (v := ?_) rfl (by kernel_rfl) (by kernel_rfl) (by kernel_rfl) (fun _ _ _ h => h) (Or.inl ⟨by rfl, ?_⟩) (by assumption) ?_
          rotate_left 1
          · intro wx hSw
            go_simp <;> with_reducible rfl
          simp only [Act.put, List.getElem_toArray, List.getElem_cons_zero, List.getElem_cons_succ, List.setIfInBounds_toArray, List.set_cons_zero, List.set_cons_succ]
          refine Go.wpAnyH_done (by kernel_rfl) ?_ _
          have H5 := Lib.hid hHeld.1.out
          obtain ⟨-, x0, x1, x2, x3, x4, x5, x6, x7, x8, x9, x10, x11, x12, x13, x14⟩ := hHeld
          go_wp2_with fail
          refine (cA.out _ (LQ.out _ H5.out)).mono ?_
          rintro e wz ⟨rfl, qz⟩
          clear x0 x1 x2 x3 x4 x5 x6 x7 x8 x9 x10 x11 x12 x13 x14
          go_wp2_with fail
          go_ret
          exact ⟨rfl, (LQ.out _ H5.out).trans qz⟩
      · cases KB
        · have hN : NB ≤ NA := TN.out rfl
          have n1 : decide (NA < NB) = false := decide_eq_false (by omega)
          have n2 : decide ((NA : Int) < (NB : Int)) = false := decide_eq_false (by omega)
          clear hN
          obtain rfl : EQ = true := TE.out rfl rfl
          clear TR TE TK TN
          obtain ⟨D, hD⟩ : ∃ x, wb3.heap.size = x := ⟨_, rfl⟩
          obtain ⟨wd, hwd⟩ : ∃ x, wb3.alloc (.cells #[.int .i64 ak, .int .i64 an, .string as', .slice A3 an3 k3, .slice A4 an4 k4, .int .i64 bk, .int .i64 bn, .string bs, .slice B3 bn3 l3, .slice B4 bn4 l4, .int .i64 ck, .int .i64 cn, .string cs, .slice C3 cn3 m3, .slice C4 cn4 m4] 26) = x := ⟨_, rfl⟩
          have LD : Hid (L wd) := Lib.hid (by rw [← hwd]; exact stays.out _ _ L0.out (Q.box _ _))
          have cVd := Lib.hid (cVal.out wd D (LQ.out _ LD.out) (by rw [← hwd, ← hD]; exact Bk.new _ _ _))
          go_enter Tryz.func8, Tryz.ntmps8
          go_wp2_with fail
          refine (cVd.out).mono ?_
          rintro e w_1 ⟨rfl, q1⟩
          have H1 := Lib.hid (stays.out _ _ LD.out q1)
          clear x0 x1 x2 x3 x4 x5 x6 x7 x8 x9 x10 x11 x12 x13 x14 q1 hwd hD
          obtain ⟨-, x0, x1, x2, x3, x4, x5, x6, x7, x8, x9, x10, x11, x12, x13, x14⟩ := seen.out _ H1.out
          go_wp2_with fail
          clear x0 x1 x2 x3 x4 x5 x6 x7 x8 x9 x10 x11 x12 x13 x14
          refine Go.wp_region_held_drew (S := (fun w' => Hid (L w') ∧ w'.cell? ⟨P1, 0, none⟩ = some (.int .i64 ak) ∧ w'.cell? ⟨P1, 1, none⟩ = some (.int .i64 an) ∧ w'.cell? ⟨P1, 2, none⟩ = some (.string as') ∧ w'.cell? ⟨P1, 3, none⟩ = some (.slice A3 an3 k3) ∧ w'.cell? ⟨P1, 4, none⟩ = some (.slice A4 an4 k4) ∧ w'.cell? ⟨P2, 0, none⟩ = some (.int .i64 bk) ∧ w'.cell? ⟨P2, 1, none⟩ = some (.int .i64 bn) ∧ w'.cell? ⟨P2, 2, none⟩ = some (.string bs) ∧ w'.cell? ⟨P2, 3, none⟩ = some (.slice B3 bn3 l3) ∧ w'.cell? ⟨P2, 4, none⟩ = some (.slice B4 bn4 l4) ∧ w'.cell? ⟨P3, 0, none⟩ = some (.int .i64 ck) ∧ w'.cell? ⟨P3, 1, none⟩ = some (.int .i64 cn) ∧ w'.cell? ⟨P3, 2, none⟩ = some (.string cs) ∧ w'.cell? ⟨P3, 3, none⟩ = some (.slice C3 cn3 m3) ∧ w'.cell? ⟨P3, 4, none⟩ = some (.slice C4 cn4 m4))) (by kernel_rfl) (seen.out _ (stays.out _ _ H1.out (Q.drewN _ 1))) (fun hHeld => ?_)
          refine Go.wpAnyH_take (i := 0) (oi := _) (v := ?_) rfl (by kernel_rfl) (by kernel_rfl) (by kernel_rfl) (fun _ _ _ h => h) (Or.inl ⟨by rfl, ?_⟩) (by assumption) ?_
          rotate_left 1
          · intro wx hSw
            go_simp <;> with_reducible rfl
          simp only [Act.put, List.getElem_toArray, List.getElem_cons_zero, List.setIfInBounds_toArray, List.set_cons_zero, List.set_cons_succ]
          refine Go.wpAnyH_take (i := 1) (oi := _) (v := ?_) rfl (by kernel_rfl) (by kernel_rfl) (by kernel_rfl) (fun _ _ _ h => h) (Or.inl ⟨by rfl, ?_⟩) (by assumption) ?_
          rotate_left 1
          · intro wx hSw
            go_simp <;> with_reducible rfl
          simp only [Act.put, List.getElem_toArray, List.getElem_cons_zero, List.getElem_cons_succ, List.setIfInBounds_toArray, List.set_cons_zero, List.set_cons_succ]
          refine Go.wpAnyH_take (i := 3) (oi := _) (v := ?_) rfl (by kernel_rfl) (by kernel_rfl) (by kernel_rfl) (fun _ _ _ h => h) (Or.inl ⟨by rfl, ?_⟩) (by assumption) ?_
          rotate_left 1
          · intro wx hSw
            go_simp <;> with_reducible rfl
          simp only [Act.put, List.getElem_toArray, List.getElem_cons_zero, List.getElem_cons_succ, List.setIfInBounds_toArray, List.set_cons_zero, List.set_cons_succ]
          refine Go.wpAnyH_take (i := 4) (oi := _) (v := ?_) rfl (by kernel_rfl) (by kernel_rfl) (by kernel_rfl) (fun _ _ _ h => h) (Or.inl ⟨by rfl, ?_⟩) (by assumption) ?_
          rotate_left 1
          · intro wx hSw
            go_simp <;> with_reducible rfl
          simp only [Act.put, List.getElem_toArray, List.getElem_cons_zero, List.getElem_cons_succ, List.setIfInBounds_toArray, List.set_cons_zero, List.set_cons_succ]
          refine Go.wpAnyH_ready (rs := [2]) (by kernel_rfl) (by simp) ?_
          refine Go.AllReadyH.cons rfl (fun K hK => ?_) Go.AllReadyH.nil
          rw [if_pos (by rfl)]
          go_simp
          refine (kab.out _ hHeld.1.out).mono ?_
          rintro e v2_2 ⟨rfl, g2_2⟩
          refine hK.out _ _ (seen.out _ g2_2) (fun hHeld => ?_)
          clear hK K
          refine Go.wpAnyH_ready (rs := [5]) (by kernel_rfl) (by simp) ?_
          refine Go.AllReadyH.cons rfl (fun K hK => ?_) Go.AllReadyH.nil
          rw [if_pos (by rfl)]
          go_simp
          refine (kbc.out _ hHeld.1.out).mono ?_
          rintro e v2_5 ⟨rfl, g2_5⟩
          refine hK.out _ _ (seen.out _ g2_5) (fun hHeld => ?_)
          clear hK K
          refine Go.wpAnyH_take (i := 6) (oi := _) (v := ?_) rfl (by kernel_rfl) (by kernel_rfl) (by kernel_rfl) (fun _ _ _ h => h) (Or.inl ⟨by rfl, ?_⟩) (by assumption) ?_
          rotate_left 1
          · intro wx hSw
            go_simp <;> with_reducible rfl
          simp only [Act.put, List.getElem_toArray, List.getElem_cons_zero, List.getElem_cons_succ, List.setIfInBounds_toArray, List.set_cons_zero, List.set_cons_succ]
          refine Go.wpAnyH_take (i := 7) (oi := _) (v := ?_) rfl (by kernel_rfl) (by kernel_rfl) (by kernel_rfl) (fun _ _ _ h => h) (Or.inl ⟨by rfl, ?_⟩) (by assumption) ?_
          rotate_left 1
          · intro wx hSw
            go_simp <;> with_reducible rfl
          simp only [Act.put, List.getElem_toArray, List.getElem_cons_zero, List.getElem_cons_succ, List.setIfInBounds_toArray, List.set_cons_zero, List.set_cons_succ]
          refine Go.wpAnyH_done (by kernel_rfl) ?_ _
          have H2 := Lib.hid hHeld.1.out
          obtain ⟨-, x0, x1, x2, x3, x4, x5, x6, x7, x8, x9, x10, x11, x12, x13, x14⟩ := hHeld
          go_wp2_with fail
          clear x0 x1 x2 x3 x4 x5 x6 x7 x8 x9 x10 x11 x12 x13 x14
          refine Go.wp_region_held_drew (S := (fun w' => Hid (L w') ∧ w'.cell? ⟨P1, 0, none⟩ = some (.int .i64 ak) ∧ w'.cell? ⟨P1, 1, none⟩ = some (.int .i64 an) ∧ w'.cell? ⟨P1, 2, none⟩ = some (.string as') ∧ w'.cell? ⟨P1, 3, none⟩ = some (.slice A3 an3 k3) ∧ w'.cell? ⟨P1, 4, none⟩ = some (.slice A4 an4 k4) ∧ w'.cell? ⟨P2, 0, none⟩ = some (.int .i64 bk) ∧ w'.cell? ⟨P2, 1, none⟩ = some (.int .i64 bn) ∧ w'.cell? ⟨P2, 2, none⟩ = some (.string bs) ∧ w'.cell? ⟨P2, 3, none⟩ = some (.slice B3 bn3 l3) ∧ w'.cell? ⟨P2, 4, none⟩ = some (.slice B4 bn4 l4) ∧ w'.cell? ⟨P3, 0, none⟩ = some (.int .i64 ck) ∧ w'.cell? ⟨P3, 1, none⟩ = some (.int .i64 cn) ∧ w'.cell? ⟨P3, 2, none⟩ = some (.string cs) ∧ w'.cell? ⟨P3, 3, none⟩ = some (.slice C3 cn3 m3) ∧ w'.cell? ⟨P3, 4, none⟩ = some (.slice C4 cn4 m4))) (by kernel_rfl) (seen.out _ (stays.out _ _ H2.out (Q.drewN _ 1))) (fun hHeld => ?_)
          refine Go.wpAnyH_take (i := 0) (oi := _) (v := ?_) rfl (by kernel_rfl) (by kernel_rfl) (by kernel_rfl) (fun _ _ _ h => h) (Or.inl ⟨by rfl, ?_⟩) (by assumption) ?_
          rotate_left 1
          · intro wx hSw
            go_simp <;> with_reducible rfl
          simp only [Act.put, List.getElem_toArray, List.getElem_cons_zero, List.setIfInBounds_toArray, List.set_cons_zero, List.set_cons_succ]
          refine Go.wpAnyH_take (i := 1) (oi := _) (v := ?_) rfl (by kernel_rfl) (by kernel_rfl) (by kernel_rfl) (fun _ _ _ h => h) (Or.inl ⟨by rfl, ?_⟩) (by assumption) ?_
          rotate_left 1
          · intro wx hSw
            go_simp <;> with_reducible rfl
          simp only [Act.put, List.getElem_toArray, List.getElem_cons_zero, List.getElem_cons_succ, List.setIfInBounds_toArray, List.set_cons_zero, List.set_cons_succ]
          refine Go.wpAnyH_ready (rs := [2]) (by kernel_rfl) (by simp) ?_
          refine Go.AllReadyH.cons rfl (fun K hK => ?_) Go.AllReadyH.nil
          rw [if_pos (by rfl)]
          go_simp
          refine (kaa.out _ hHeld.1.out).mono ?_
          rintro e v3_2 ⟨rfl, g3_2⟩
          refine hK.out _ _ (seen.out _ g3_2) (fun hHeld => ?_)
          clear hK K
          refine Go.wpAnyH_take (i := 3) (oi := _) (v := ?_) rfl (by kernel_rfl) (by kernel_rfl) (by kernel_rfl) (fun _ _ _ h => h) (Or.inl ⟨by rfl, ?_⟩) (by assumption) ?_
          rotate_left 1
          · intro wx hSw
            go_simp <;> with_reducible rfl
          simp only [Act.put, List.getElem_toArray, List.getElem_cons_zero, List.getElem_cons_succ, List.setIfInBounds_toArray, List.set_cons_zero, List.set_cons_succ]
          refine Go.wpAnyH_take (i := 4) (oi := _) (v := ?_) rfl (by kernel_rfl) (by kernel_rfl) (by kernel_rfl) (fun _ _ _ h => h) (Or.inl ⟨by rfl, ?_⟩) (by assumption) ?_
          rotate_left 1
          · intro wx hSw
            go_simp <;> with_reducible rfl
          simp only [Act.put, List.getElem_toArray, List.getElem_cons_zero, List.getElem_cons_succ, List.setIfInBounds_toArray, List.set_cons_zero, List.set_cons_succ]
          refine Go.wpAnyH_take (i := 5) (oi := _) (v := ?_) rfl (by kernel_rfl) (by kernel_rfl) (by kernel_rfl) (fun _ _ _ h => h) (Or.inl ⟨by rfl, ?_⟩) (by assumption) ?_
          rotate_left 1
          · intro wx hSw
            go_simp <;> with_reducible rfl
          simp only [Act.put, List.getElem_toArray, List.getElem_cons_zero, List.getElem_cons_succ, List.setIfInBounds_toArray, List.set_cons_zero, List.set_cons_succ]
          refine Go.wpAnyH_ready (rs := [6]) (by kernel_rfl) (by simp) ?_
          refine Go.AllReadyH.cons rfl (fun K hK => ?_) Go.AllReadyH.nil
          rw [if_pos (by rfl)]
          go_simp
          refine (kU.out _ hHeld.1.out).mono ?_
          rintro e v3_6 ⟨U3, u3, U4, u4, rfl, g3_6⟩
          refine hK.out _ _ (seen.out _ g3_6) (fun hHeld => ?_)
          clear hK K
          refine Go.wpAnyH_ready (rs := [7]) (by kernel_rfl) (by simp) ?_
          refine Go.AllReadyH.cons rfl (fun K hK => ?_) Go.AllReadyH.nil
          rw [if_pos (by rfl)]
          go_simp
          refine (kaU.out _ hHeld.1.out U3 u3 U4 u4).mono ?_
          rintro e v3_7 ⟨rfl, g3_7⟩
          refine hK.out _ _ (seen.out _ g3_7) (fun hHeld => ?_)
          clear hK K
          refine Go.wpAnyH_take (i := 8) (oi := _) (v := ?_) rfl (by kernel_rfl) (by kernel_rfl) (by kernel_rfl) (fun _ _ _ h => h) (Or.inl ⟨by rfl, ?_⟩) (by assumption) ?_
          rotate_left 1
          · intro wx hSw
            go_simp <;> with_reducible rfl
          simp only [Act.put, List.getElem_toArray, List.getElem_cons_zero, List.getElem_cons_succ, List.setIfInBounds_toArray, List.set_cons_zero, List.set_cons_succ]
          refine Go.wpAnyH_take (i := 9) (oi := _) (v := ?_) rfl (by kernel_rfl) (by kernel_rfl) (by kernel_rfl) (fun _ _ _ h => h) (Or.inl ⟨by rfl, ?_⟩) (by assumption) ?_
          rotate_left 1
          · intro wx hSw
            go_simp <;> with_reducible rfl
          simp only [Act.put, List.getElem_toArray, List.getElem_cons_zero, List.getElem_cons_succ, List.setIfInBounds_toArray, List.set_cons_zero, List.set_cons_succ]
          refine Go.wpAnyH_take (i := 10) (oi := _) (v := ?_) rfl (by kernel_rfl) (by kernel_rfl) (by kernel_rfl) (fun _ _ _ h => h) (Or.inl ⟨by rfl, ?_⟩) (by assumption) ?_
          rotate_left 1
          · intro wx hSw
            go_simp <;> with_reducible rfl
          simp only [Act.put, List.getElem_toArray, List.getElem_cons_zero, List.getElem_cons_succ, List.setIfInBounds_toArray, List.set_cons_zero, List.set_cons_succ]
          refine Go.wpAnyH_take (i := 11) (oi := _) (v := ?_) rfl (by kernel_rfl) (by kernel_rfl) (by kernel_rfl) (fun _ _ _ h => h) (Or.inl ⟨by rfl, ?_⟩) (by assumption) ?_
          rotate_left 1
          · intro wx hSw
            go_simp <;> with_reducible rfl
          simp only [Act.put, List.getElem_toArray, List.getElem_cons_zero, List.getElem_cons_succ, List.setIfInBounds_toArray, List.set_cons_zero, List.set_cons_succ]
          refine Go.wpAnyH_take (i := 12) (oi := _) (v := ?_) rfl (by kernel_rfl) (by kernel_rfl) (by kernel_rfl) (fun _ _ _ h => h) (Or.inl ⟨by rfl, ?_⟩) (by assumption) ?_
          rotate_left 1
          · intro wx hSw
            go_simp <;> with_reducible rfl
          simp only [Act.put, List.getElem_toArray, List.getElem_cons_zero, List.getElem_cons_succ, List.setIfInBounds_toArray, List.set_cons_zero, List.set_cons_succ]
          refine Go.wpAnyH_take (i := 13) (oi := _) (v := ?_) rfl (by kernel_rfl) (by kernel_rfl) (by kernel_rfl) (fun _ _ _ h => h) (Or.inl ⟨by rfl, ?_⟩) (by assumption) ?_
          rotate_left 1
          · intro wx hSw
            go_simp <;> with_reducible rfl
          simp only [Act.put, List.getElem_toArray, List.getElem_cons_zero, List.getElem_cons_succ, List.setIfInBounds_toArray, List.set_cons_zero, List.set_cons_succ]
          refine Go.wpAnyH_take (i := 14) (oi := _) (v := ?_) rfl (by kernel_rfl) (by kernel_rfl) (by kernel_rfl) (fun _ _ _ h => h) (Or.inl ⟨by rfl, ?_⟩) (by assumption) ?_
          rotate_left 1
          · intro wx hSw
            go_simp <;> with_reducible rfl
          simp only [Act.put, List.getElem_toArray, List.getElem_cons_zero, List.getElem_cons_succ, List.setIfInBounds_toArray, List.set_cons_zero, List.set_cons_succ]
          refine Go.wpAnyH_take (i := 15) (oi := _) (v := ?_) rfl (by kernel_rfl) (by kernel_rfl) (by kernel_rfl) (fun _ _ _ h => h) (Or.inl ⟨by rfl, ?_⟩) (by assumption) ?_
          rotate_left 1
          · intro wx hSw
            go_simp <;> with_reducible rfl
          simp only [Act.put, List.getElem_toArray, List.getElem_cons_zero, List.getElem_cons_succ, List.setIfInBounds_toArray, List.set_cons_zero, List.set_cons_succ]
          refine Go.wpAnyH_take (i := 16) (oi := _) (v := undef) rfl (by kernel_rfl) (by kernel_rfl) (by kernel_rfl) (fun _ _ _ h => h) (Or.inr ⟨by rfl, rfl⟩) (by assumption) ?_
          simp only [Act.put, List.getElem_toArray, List.getElem_cons_zero, List.getElem_cons_succ, List.setIfInBounds_toArray, List.set_cons_zero, List.set_cons_succ]
          refine Go.wpAnyH_take (i := 17) (oi := _) (v := undef) rfl (by kernel_rfl) (by kernel_rfl) (by kernel_rfl) (fun _ _ _ h => h) (Or.inr ⟨by rfl, rfl⟩) (by assumption) ?_
          simp only [Act.put, List.getElem_toArray, List.getElem_cons_zero, List.getElem_cons_succ, List.setIfInBounds_toArray, List.set_cons_zero, List.set_cons_succ]
          refine Go.wpAnyH_take (i := 18) (oi := _) (v := undef) rfl (by kernel_rfl) (by kernel_rfl) (by kernel_rfl) (fun _ _ _ h => h) (Or.inr ⟨by rfl, rfl⟩) (by assumption) ?_
          simp only [Act.put, List.getElem_toArray, List.getElem_cons_zero, List.getElem_cons_succ, List.setIfInBounds_toArray, List.set_cons_zero, List.set_cons_succ]
          refine Go.wpAnyH_take (i := 19) (oi := _) (v := undef) rfl (by kernel_rfl) (by kernel_rfl) (by kernel_rfl) (fun _ _ _ h => h) (Or.inr ⟨by rfl, rfl⟩) (by assumption) ?_
          simp only [Act.put, List.getElem_toArray, List.getElem_cons_zero, List.getElem_cons_succ, List.setIfInBounds_toArray, List.set_cons_zero, List.set_cons_succ]
          refine Go.wpAnyH_take (i := 20) (oi := _) (v := ?_) rfl (by kernel_rfl) (by kernel_rfl) (by kernel_rfl) (fun _ _ _ h => h) (Or.inl ⟨by rfl, ?_⟩) (by assumption) ?_
          rotate_left 1
          · intro wx hSw
            go_simp <;> with_reducible rfl
          simp only [Act.put, List.getElem_toArray, List.getElem_cons_zero, List.getElem_cons_succ, List.setIfInBounds_toArray, List.set_cons_zero, List.set_cons_succ]
          refine Go.wpAnyH_take (i := 21) (oi := _) (v := ?_) rfl (by kernel_rfl) (by kernel_rfl) (by kernel_rfl) (fun _ _ _ h => h) (Or.inl ⟨by rfl, ?_⟩) (by assumption) ?_
          rotate_left 1
          · intro wx hSw
            go_simp <;> with_reducible rfl
          simp only [Act.put, List.getElem_toArray, List.getElem_cons_zero, List.getElem_cons_succ, List.setIfInBounds_toArray, List.set_cons_zero, List.set_cons_succ]
          refine Go.wpAnyH_done (by kernel_rfl) ?_ _
          have H3 := Lib.hid hHeld.1.out
          obtain ⟨-, x0, x1, x2, x3, x4, x5, x6, x7, x8, x9, x10, x11, x12, x13, x14⟩ := hHeld
          go_wp2_with fail
          refine (kba.out _ H3.out).mono ?_
          rintro e w_4 ⟨rfl, h4⟩
          have H4 := Lib.hid h4
          clear x0 x1 x2 x3 x4 x5 x6 x7 x8 x9 x10 x11 x12 x13 x14 h4
          obtain ⟨-, x0, x1, x2, x3, x4, x5, x6, x7, x8, x9, x10, x11, x12, x13, x14⟩ := seen.out _ H4.out
          go_wp2_with fail
          refine (eab.out _ H4.out).mono ?_
          rintro e w_5 ⟨rfl, h5⟩
          have H5 := Lib.hid h5
          clear x0 x1 x2 x3 x4 x5 x6 x7 x8 x9 x10 x11 x12 x13 x14 h5
          obtain ⟨-, x0, x1, x2, x3, x4, x5, x6, x7, x8, x9, x10, x11, x12, x13, x14⟩ := seen.out _ H5.out
          go_wp2_with fail
          clear x0 x1 x2 x3 x4 x5 x6 x7 x8 x9 x10 x11 x12 x13 x14
          refine Go.wp_region_held_drew (S := (fun w' => Hid (L w') ∧ w'.cell? ⟨P1, 0, none⟩ = some (.int .i64 ak) ∧ w'.cell? ⟨P1, 1, none⟩ = some (.int .i64 an) ∧ w'.cell? ⟨P1, 2, none⟩ = some (.string as') ∧ w'.cell? ⟨P1, 3, none⟩ = some (.slice A3 an3 k3) ∧ w'.cell? ⟨P1, 4, none⟩ = some (.slice A4 an4 k4) ∧ w'.cell? ⟨P2, 0, none⟩ = some (.int .i64 bk) ∧ w'.cell? ⟨P2, 1, none⟩ = some (.int .i64 bn) ∧ w'.cell? ⟨P2, 2, none⟩ = some (.string bs) ∧ w'.cell? ⟨P2, 3, none⟩ = some (.slice B3 bn3 l3) ∧ w'.cell? ⟨P2, 4, none⟩ = some (.slice B4 bn4 l4) ∧ w'.cell? ⟨P3, 0, none⟩ = some (.int .i64 ck) ∧ w'.cell? ⟨P3, 1, none⟩ = some (.int .i64 cn) ∧ w'.cell? ⟨P3, 2, none⟩ = some (.string cs) ∧ w'.cell? ⟨P3, 3, none⟩ = some (.slice C3 cn3 m3) ∧ w'.cell? ⟨P3, 4, none⟩ = some (.slice C4 cn4 m4))) (by kernel_rfl) (seen.out _ (stays.out _ _ H5.out (Q.drewN _ 1))) (fun hHeld => ?_)
          refine Go.wpAnyH_take (i := 0) (oi := _) (v := ?_) rfl (by kernel_rfl) (by kernel_rfl) (by kernel_rfl) (fun _ _ _ h => h) (Or.inl ⟨by rfl, ?_⟩) (by assumption) ?_
          rotate_left 1
          · intro wx hSw
            go_simp <;> with_reducible rfl
          simp only [Act.put, List.getElem_toArray, List.getElem_cons_zero, List.setIfInBounds_toArray, List.set_cons_zero, List.set_cons_succ]
          refine Go.wpAnyH_take (i := 1) (oi := _) (v := ?_) rfl (by kernel_rfl) (by kernel_rfl) (by kernel_rfl) (fun _ _ _ h => h) (Or.inl ⟨by rfl, ?_⟩) (by assumption) ?_
          rotate_left 1
          · intro wx hSw
            go_simp <;> with_reducible rfl
          simp only [Act.put, List.getElem_toArray, List.getElem_cons_zero, List.getElem_cons_succ, List.setIfInBounds_toArray, List.set_cons_zero, List.set_cons_succ]
          refine Go.wpAnyH_take (i := 2) (oi := _) (v := ?_) rfl (by kernel_rfl) (by kernel_rfl) (by kernel_rfl) (fun _ _ _ h => h) (Or.inl ⟨by rfl, ?_⟩) (by assumption) ?_
          rotate_left 1
          · intro wx hSw
            go_simp <;> with_reducible rfl
          simp only [Act.put, List.getElem_toArray, List.getElem_cons_zero, List.getElem_cons_succ, List.setIfInBounds_toArray, List.set_cons_zero, List.set_cons_succ]
          refine Go.wpAnyH_ready (rs := [3]) (by kernel_rfl) (by simp) ?_
          refine Go.AllReadyH.cons rfl (fun K hK => ?_) Go.AllReadyH.nil
          rw [if_pos (by rfl)]
          go_simp
          refine (kkb.out _ hHeld.1.out).mono ?_
          rintro e v6_3 ⟨rfl, g6_3⟩
          refine hK.out _ _ (seen.out _ g6_3) (fun hHeld => ?_)
          clear hK K
          refine Go.wpAnyH_take (i := 4) (oi := _) (v := ?_) rfl (by kernel_rfl) (by kernel_rfl) (by kernel_rfl) (fun _ _ _ h => h) (Or.inl ⟨by rfl, ?_⟩) (by assumption) ?_
          rotate_left 1
          · intro wx hSw
            go_simp <;> with_reducible rfl
          simp only [Act.put, List.getElem_toArray, List.getElem_cons_zero, List.getElem_cons_succ, List.setIfInBounds_toArray, List.set_cons_zero, List.set_cons_succ]
          refine Go.wpAnyH_take (i := 5) (oi := _) (v := ?_) rfl (by kernel_rfl) (by kernel_rfl) (by kernel_rfl) (fun _ _ _ h => h) (Or.inl ⟨by rfl, ?_⟩) (by assumption) ?_
          rotate_left 1
          · intro wx hSw
            go_simp <;> with_reducible rfl
          simp only [Act.put, List.getElem_toArray, List.getElem_cons_zero, List.getElem_cons_succ, List.setIfInBounds_toArray, List.set_cons_zero, List.set_cons_succ]
          refine Go.wpAnyH_take (i := 6) (oi := _) (v := undef) rfl (by kernel_rfl) (by kernel_rfl) (by kernel_rfl) (fun _ _ _ h => h) (Or.inr ⟨by rfl, rfl⟩) (by assumption) ?_
          simp only [Act.put, List.getElem_toArray, List.getElem_cons_zero, List.getElem_cons_succ, List.setIfInBounds_toArray, List.set_cons_zero, List.set_cons_succ]
          refine Go.wpAnyH_take (i := 7) (oi := _) (v := undef) rfl (by kernel_rfl) (by kernel_rfl) (by kernel_rfl) (fun _ _ _ h => h) (Or.inr ⟨by rfl, rfl⟩) (by assumption) ?_
          simp only [Act.put, List.getElem_toArray, List.getElem_cons_zero, List.getElem_cons_succ, List.setIfInBounds_toArray, List.set_cons_zero, List.set_cons_succ]
          refine Go.wpAnyH_take (i := 8) (oi := _) (v := undef) rfl (by kernel_rfl) (by kernel_rfl) (by kernel_rfl) (fun _ _ _ h => h) (Or.inr ⟨by rfl, rfl⟩) (by assumption) ?_
          simp only [Act.put, List.getElem_toArray, List.getElem_cons_zero, List.getElem_cons_succ, List.setIfInBounds_toArray, List.set_cons_zero, List.set_cons_succ]
          refine Go.wpAnyH_take (i := 9) (oi := _) (v := undef) rfl (by kernel_rfl) (by kernel_rfl) (by kernel_rfl) (fun _ _ _ h => h) (Or.inr ⟨by rfl, rfl⟩) (by assumption) ?_
          simp only [Act.put, List.getElem_toArray, List.getElem_cons_zero, List.getElem_cons_succ, List.setIfInBounds_toArray, List.set_cons_zero, List.set_cons_succ]
          refine Go.wpAnyH_take (i := 10) (oi := _) (v := ?_) rfl (by kernel_rfl) (by kernel_rfl) (by kernel_rfl) (fun _ _ _ h => h) (Or.inl ⟨by rfl, ?_⟩) (by assumption) ?_
          rotate_left 1
          · intro wx hSw
            go_simp <;> with_reducible rfl
          simp only [Act.put, List.getElem_toArray, List.getElem_cons_zero, List.getElem_cons_succ, List.setIfInBounds_toArray, List.set_cons_zero, List.set_cons_succ]
          refine Go.wpAnyH_take (i := 11) (oi := _) (v := ?_) rfl (by kernel_rfl) (by kernel_rfl) (by kernel_rfl) (fun _ _ _ h => h) (Or.inl ⟨by rfl, ?_⟩) (by assumption) ?_
          rotate_left 1
          · intro wx hSw
            go_simp <;> with_reducible rfl
          simp only [Act.put, List.getElem_toArray, List.getElem_cons_zero, List.getElem_cons_succ, List.setIfInBounds_toArray, List.set_cons_zero, List.set_cons_succ]
          refine Go.wpAnyH_take (i := 12) (oi := _) (v := ?_) rfl (by kernel_rfl) (by kernel_rfl) (by kernel_rfl) (fun _ _ _ h => h) (Or.inl ⟨by rfl, ?_⟩) (by assumption) ?_
          rotate_left 1
          · intro wx hSw
            go_simp <;> with_reducible rfl
          simp only [Act.put, List.getElem_toArray, List.getElem_cons_zero, List.getElem_cons_succ, List.setIfInBounds_toArray, List.set_cons_zero, List.set_cons_succ]
          refine Go.wpAnyH_take (i := 13) (oi := _) (v := ?_) rfl (by kernel_rfl) (by kernel_rfl) (by kernel_rfl) (fun _ _ _ h => h) (Or.inl ⟨by rfl, ?_⟩) (by assumption) ?_
          rotate_left 1
          · intro wx hSw
            go_simp <;> with_reducible rfl
          simp only [Act.put, List.getElem_toArray, List.getElem_cons_zero, List.getElem_cons_succ, List.setIfInBounds_toArray, List.set_cons_zero, List.set_cons_succ]
          refine Go.wpAnyH_take (i := 14) (oi := _) (v := ?_) rfl (by kernel_rfl) (by kernel_rfl) (by kernel_rfl) (fun _ _ _ h => h) (Or.inl ⟨by rfl, ?_⟩) (by assumption) ?_
          rotate_left 1
          · intro wx hSw
            go_simp <;> with_reducible rfl
          simp only [Act.put, List.getElem_toArray, List.getElem_cons_zero, List.getElem_cons_succ, List.setIfInBounds_toArray, List.set_cons_zero, List.set_cons_succ]
          refine Go.wpAnyH_take (i := 16) (oi := _) (v := ?_) rfl (by kernel_rfl) (by kernel_rfl) (by kernel_rfl) (fun _ _ _ h => h) (Or.inl ⟨by rfl, ?_⟩) (by assumption) ?_
          rotate_left 1
          · intro wx hSw
            go_simp <;> with_reducible rfl
          simp only [Act.put, List.getElem_toArray, List.getElem_cons_zero, List.getElem_cons_succ, List.setIfInBounds_toArray, List.set_cons_zero, List.set_cons_succ]
          refine Go.wpAnyH_ready (rs := [15]) (by kernel_rfl) (by simp) ?_
          refine Go.AllReadyH.cons rfl (fun K hK => ?_) Go.AllReadyH.nil
          rw [if_pos (by rfl)]
          go_simp
          refine (kna.out _ hHeld.1.out).mono ?_
          rintro e v6_15 ⟨rfl, g6_15⟩
          refine hK.out _ _ (seen.out _ g6_15) (fun hHeld => ?_)
          clear hK K
          refine Go.wpAnyH_ready (rs := [17]) (by kernel_rfl) (by simp) ?_
          refine Go.AllReadyH.cons rfl (fun K hK => ?_) Go.AllReadyH.nil
          rw [if_pos (by rfl)]
          go_simp
          refine (knb.out _ hHeld.1.out).mono ?_
          rintro e v6_17 ⟨rfl, g6_17⟩
          refine hK.out _ _ (seen.out _ g6_17) (fun hHeld => ?_)
          clear hK K
          refine Go.wpAnyH_take (i := 18) (oi := _) (v := ?_) rfl (by kernel_rfl) (by kernel_rfl) (by kernel_rfl) (fun _ _ _ h => h) (Or.inl ⟨by rfl, ?_⟩) (by assumption) ?_
          rotate_left 1
          · intro wx hSw
            go_simp <;> with_reducible rfl
          simp only [Act.put, List.getElem_toArray, List.getElem_cons_zero, List.getElem_cons_succ, List.setIfInBounds_toArray, List.set_cons_zero, List.set_cons_succ]
          refine Go.wpAnyH_take (i := 19) (oi := _) (v := ?_) rfl (by kernel_rfl) (by kernel_rfl) (by kernel_rfl) (fun _ _ _ h => h) (Or.inl ⟨by rfl, ?_⟩) (by assumption) ?_
          rotate_left 1
          · intro wx hSw
            go_simp <;> with_reducible rfl
          simp only [Act.put, List.getElem_toArray, List.getElem_cons_zero, List.getElem_cons_succ, List.setIfInBounds_toArray, List.set_cons_zero, List.set_cons_succ]
          refine Go.wpAnyH_take (i := 20) (oi := _) (v := ?_) rfl (by kernel_rfl) (by kernel_rfl) (by kernel_rfl) (fun _ _ _ h => h) (Or.inl ⟨by rfl, ?_⟩) (by assumption) ?_
          rotate_left 1
          · intro wx hSw
            go_simp <;> with_reducible rfl
          simp only [Act.put, List.getElem_toArray, List.getElem_cons_zero, List.getElem_cons_succ, List.setIfInBounds_toArray, List.set_cons_zero, List.set_cons_succ]
          refine Go.wpAnyH_done (by kernel_rfl) ?_ _
          have H6 := Lib.hid hHeld.1.out
          obtain ⟨-, x0, x1, x2, x3, x4, x5, x6, x7, x8, x9, x10, x11, x12, x13, x14⟩ := hHeld
          go_wp2_with fail
          refine (cA.out _ (LQ.out _ H6.out)).mono ?_
          rintro e wz ⟨rfl, qz⟩
          clear x0 x1 x2 x3 x4 x5 x6 x7 x8 x9 x10 x11 x12 x13 x14
          go_wp2_with fail
          go_ret
          exact ⟨rfl, (LQ.out _ H6.out).trans qz⟩
        · have hN : NB ≤ NA := TN.out rfl
          have n1 : decide (NA < NB) = false := decide_eq_false (by omega)
          have n2 : decide ((NA : Int) < (NB : Int)) = false := decide_eq_false (by omega)
          clear hN
          obtain rfl : EQ = true := TE.out rfl rfl
          clear TR TE TK TN
          obtain ⟨D, hD⟩ : ∃ x, wb3.heap.size = x := ⟨_, rfl⟩
          obtain ⟨wd, hwd⟩ : ∃ x, wb3.alloc (.cells #[.int .i64 ak, .int .i64 an, .string as', .slice A3 an3 k3, .slice A4 an4 k4, .int .i64 bk, .int .i64 bn, .string bs, .slice B3 bn3 l3, .slice B4 bn4 l4, .int .i64 ck, .int .i64 cn, .string cs, .slice C3 cn3 m3, .slice C4 cn4 m4] 26) = x := ⟨_, rfl⟩
          have LD : Hid (L wd) := Lib.hid (by rw [← hwd]; exact stays.out _ _ L0.out (Q.box _ _))
          have cVd := Lib.hid (cVal.out wd D (LQ.out _ LD.out) (by rw [← hwd, ← hD]; exact Bk.new _ _ _))
          go_enter Tryz.func8, Tryz.ntmps8
          go_wp2_with fail
          refine (cVd.out).mono ?_
          rintro e w_1 ⟨rfl, q1⟩
          have H1 := Lib.hid (stays.out _ _ LD.out q1)
          clear x0 x1 x2 x3 x4 x5 x6 x7 x8 x9 x10 x11 x12 x13 x14 q1 hwd hD
          obtain ⟨-, x0, x1, x2, x3, x4, x5, x6, x7, x8, x9, x10, x11, x12, x13, x14⟩ := seen.out _ H1.out
          go_wp2_with fail
          clear x0 x1 x2 x3 x4 x5 x6 x7 x8 x9 x10 x11 x12 x13 x14
          refine Go.wp_region_held_drew (S := (fun w' => Hid (L w') ∧ w'.cell? ⟨P1, 0, none⟩ = some (.int .i64 ak) ∧ w'.cell? ⟨P1, 1, none⟩ = some (.int .i64 an) ∧ w'.cell? ⟨P1, 2, none⟩ = some (.string as') ∧ w'.cell? ⟨P1, 3, none⟩ = some (.slice A3 an3 k3) ∧ w'.cell? ⟨P1, 4, none⟩ = some (.slice A4 an4 k4) ∧ w'.cell? ⟨P2, 0, none⟩ = some (.int .i64 bk) ∧ w'.cell? ⟨P2, 1, none⟩ = some (.int .i64 bn) ∧ w'.cell? ⟨P2, 2, none⟩ = some (.string bs) ∧ w'.cell? ⟨P2, 3, none⟩ = some (.slice B3 bn3 l3) ∧ w'.cell? ⟨P2, 4, none⟩ = some (.slice B4 bn4 l4) ∧ w'.cell? ⟨P3, 0, none⟩ = some (.int .i64 ck) ∧ w'.cell? ⟨P3, 1, none⟩ = some (.int .i64 cn) ∧ w'.cell? ⟨P3, 2, none⟩ = some (.string cs) ∧ w'.cell? ⟨P3, 3, none⟩ = some (.slice C3 cn3 m3) ∧ w'.cell? ⟨P3, 4, none⟩ = some (.slice C4 cn4 m4))) (by kernel_rfl) (seen.out _ (stays.out _ _ H1.out (Q.drewN _ 1))) (fun hHeld => ?_)
          refine Go.wpAnyH_take (i := 0) (oi := _) (v := ?_) rfl (by kernel_rfl) (by kernel_rfl) (by kernel_rfl) (fun _ _ _ h => h) (Or.inl ⟨by rfl, ?_⟩) (by assumption) ?_
          rotate_left 1
          · intro wx hSw
            go_simp <;> with_reducible rfl
          simp only [Act.put, List.getElem_toArray, List.getElem_cons_zero, List.setIfInBounds_toArray, List.set_cons_zero, List.set_cons_succ]
          refine Go.wpAnyH_take (i := 1) (oi := _) (v := ?_) rfl (by kernel_rfl) (by kernel_rfl) (by kernel_rfl) (fun _ _ _ h => h) (Or.inl ⟨by rfl, ?_⟩) (by assumption) ?_
          rotate_left 1
          · intro wx hSw
            go_simp <;> with_reducible rfl
          simp only [Act.put, List.getElem_toArray, List.getElem_cons_zero, List.getElem_cons_succ, List.setIfInBounds_toArray, List.set_cons_zero, List.set_cons_succ]
          refine Go.wpAnyH_take (i := 3) (oi := _) (v := ?_) rfl (by kernel_rfl) (by kernel_rfl) (by kernel_rfl) (fun _ _ _ h => h) (Or.inl ⟨by rfl, ?_⟩) (by assumption) ?_
          rotate_left 1
          · intro wx hSw
            go_simp <;> with_reducible rfl
          simp only [Act.put, List.getElem_toArray, List.getElem_cons_zero, List.getElem_cons_succ, List.setIfInBounds_toArray, List.set_cons_zero, List.set_cons_succ]
          refine Go.wpAnyH_take (i := 4) (oi := _) (v := ?_) rfl (by kernel_rfl) (by kernel_rfl) (by kernel_rfl) (fun _ _ _ h => h) (Or.inl ⟨by rfl, ?_⟩) (by assumption) ?_
          rotate_left 1
          · intro wx hSw
            go_simp <;> with_reducible rfl
          simp only [Act.put, List.getElem_toArray, List.getElem_cons_zero, List.getElem_cons_succ, List.setIfInBounds_toArray, List.set_cons_zero, List.set_cons_succ]
          refine Go.wpAnyH_ready (rs := [2]) (by kernel_rfl) (by simp) ?_
          refine Go.AllReadyH.cons rfl (fun K hK => ?_) Go.AllReadyH.nil
          rw [if_pos (by rfl)]
          go_simp
          refine (kab.out _ hHeld.1.out).mono ?_
          rintro e v2_2 ⟨rfl, g2_2⟩
          refine hK.out _ _ (seen.out _ g2_2) (fun hHeld => ?_)
          clear hK K
          refine Go.wpAnyH_ready (rs := [5]) (by kernel_rfl) (by simp) ?_
          refine Go.AllReadyH.cons rfl (fun K hK => ?_) Go.AllReadyH.nil
          rw [if_pos (by rfl)]
          go_simp
          refine (kbc.out _ hHeld.1.out).mono ?_
          rintro e v2_5 ⟨rfl, g2_5⟩
          refine hK.out _ _ (seen.out _ g2_5) (fun hHeld => ?_)
          clear hK K
          refine Go.wpAnyH_take (i := 6) (oi := _) (v := ?_) rfl (by kernel_rfl) (by kernel_rfl) (by kernel_rfl) (fun _ _ _ h => h) (Or.inl ⟨by rfl, ?_⟩) (by assumption) ?_
          rotate_left 1
          · intro wx hSw
            go_simp <;> with_reducible rfl
          simp only [Act.put, List.getElem_toArray, List.getElem_cons_zero, List.getElem_cons_succ, List.setIfInBounds_toArray, List.set_cons_zero, List.set_cons_succ]
          refine Go.wpAnyH_take (i := 7) (oi := _) (v := ?_) rfl (by kernel_rfl) (by kernel_rfl) (by kernel_rfl) (fun _ _ _ h => h) (Or.inl ⟨by rfl, ?_⟩) (by assumption) ?_
          rotate_left 1
          · intro wx hSw
            go_simp <;> with_reducible rfl
          simp only [Act.put, List.getElem_toArray, List.getElem_cons_zero, List.getElem_cons_succ, List.setIfInBounds_toArray, List.set_cons_zero, List.set_cons_succ]
          refine Go.wpAnyH_done (by kernel_rfl) ?_ _
          have H2 := Lib.hid hHeld.1.out
          obtain ⟨-, x0, x1, x2, x3, x4, x5, x6, x7, x8, x9, x10, x11, x12, x13, x14⟩ := hHeld
          go_wp2_with fail
          clear x0 x1 x2 x3 x4 x5 x6 x7 x8 x9 x10 x11 x12 x13 x14
          refine Go.wp_region_held_drew (S := (fun w' => Hid (L w') ∧ w'.cell? ⟨P1, 0, none⟩ = some (.int .i64 ak) ∧ w'.cell? ⟨P1, 1, none⟩ = some (.int .i64 an) ∧ w'.cell? ⟨P1, 2, none⟩ = some (.string as') ∧ w'.cell? ⟨P1, 3, none⟩ = some (.slice A3 an3 k3) ∧ w'.cell? ⟨P1, 4, none⟩ = some (.slice A4 an4 k4) ∧ w'.cell? ⟨P2, 0, none⟩ = some (.int .i64 bk) ∧ w'.cell? ⟨P2, 1, none⟩ = some (.int .i64 bn) ∧ w'.cell? ⟨P2, 2, none⟩ = some (.string bs) ∧ w'.cell? ⟨P2, 3, none⟩ = some (.slice B3 bn3 l3) ∧ w'.cell? ⟨P2, 4, none⟩ = some (.slice B4 bn4 l4) ∧ w'.cell? ⟨P3, 0, none⟩ = some (.int .i64 ck) ∧ w'.cell? ⟨P3, 1, none⟩ = some (.int .i64 cn) ∧ w'.cell? ⟨P3, 2, none⟩ = some (.string cs) ∧ w'.cell? ⟨P3, 3, none⟩ = some (.slice C3 cn3 m3) ∧ w'.cell? ⟨P3, 4, none⟩ = some (.slice C4 cn4 m4))) (by kernel_rfl) (seen.out _ (stays.out _ _ H2.out (Q.drewN _ 1))) (fun hHeld => ?_)
          refine Go.wpAnyH_take (i := 0) (oi := _) (v := ?_) rfl (by kernel_rfl) (by kernel_rfl) (by kernel_rfl) (fun _ _ _ h => h) (Or.inl ⟨by rfl, ?_⟩) (by assumption) ?_
          rotate_left 1
          · intro wx hSw
            go_simp <;> with_reducible rfl
          simp only [Act.put, List.getElem_toArray, List.getElem_cons_zero, List.setIfInBounds_toArray, List.set_cons_zero, List.set_cons_succ]
          refine Go.wpAnyH_take (i := 1) (oi := _) (v := ?_) rfl (by kernel_rfl) (by kernel_rfl) (by kernel_rfl) (fun _ _ _ h => h) (Or.inl ⟨by rfl, ?_⟩) (by assumption) ?_
          rotate_left 1
          · intro wx hSw
            go_simp <;> with_reducible rfl
          simp only [Act.put, List.getElem_toArray, List.getElem_cons_zero, List.getElem_cons_succ, List.setIfInBounds_toArray, List.set_cons_zero, List.set_cons_succ]
          refine Go.wpAnyH_ready (rs := [2]) (by kernel_rfl) (by simp) ?_
          refine Go.AllReadyH.cons rfl (fun K hK => ?_) Go.AllReadyH.nil
          rw [if_pos (by rfl)]
          go_simp
          refine (kaa.out _ hHeld.1.out).mono ?_
          rintro e v3_2 ⟨rfl, g3_2⟩
          refine hK.out _ _ (seen.out _ g3_2) (fun hHeld => ?_)
          clear hK K
          refine Go.wpAnyH_take (i := 3) (oi := _) (v := ?_) rfl (by kernel_rfl) (by kernel_rfl) (by kernel_rfl) (fun _ _ _ h => h) (Or.inl ⟨by rfl, ?_⟩) (by assumption) ?_
          rotate_left 1
          · intro wx hSw
            go_simp <;> with_reducible rfl
          simp only [Act.put, List.getElem_toArray, List.getElem_cons_zero, List.getElem_cons_succ, List.setIfInBounds_toArray, List.set_cons_zero, List.set_cons_succ]
          refine Go.wpAnyH_take (i := 4) (oi := _) (v := ?_) rfl (by kernel_rfl) (by kernel_rfl) (by kernel_rfl) (fun _ _ _ h => h) (Or.inl ⟨by rfl, ?_⟩) (by assumption) ?_
          rotate_left 1
          · intro wx hSw
            go_simp <;> with_reducible rfl
          simp only [Act.put, List.getElem_toArray, List.getElem_cons_zero, List.getElem_cons_succ, List.setIfInBounds_toArray, List.set_cons_zero, List.set_cons_succ]
          refine Go.wpAnyH_take (i := 5) (oi := _) (v := ?_) rfl (by kernel_rfl) (by kernel_rfl) (by kernel_rfl) (fun _ _ _ h => h) (Or.inl ⟨by rfl, ?_⟩) (by assumption) ?_
          rotate_left 1
          · intro wx hSw
            go_simp <;> with_reducible rfl
          simp only [Act.put, List.getElem_toArray, List.getElem_cons_zero, List.getElem_cons_succ, List.setIfInBounds_toArray, List.set_cons_zero, List.set_cons_succ]
          refine Go.wpAnyH_ready (rs := [6]) (by kernel_rfl) (by simp) ?_
          refine Go.AllReadyH.cons rfl (fun K hK => ?_) Go.AllReadyH.nil
          rw [if_pos (by rfl)]
          go_simp
          refine (kU.out _ hHeld.1.out).mono ?_
          rintro e v3_6 ⟨U3, u3, U4, u4, rfl, g3_6⟩
          refine hK.out _ _ (seen.out _ g3_6) (fun hHeld => ?_)
          clear hK K
          refine Go.wpAnyH_ready (rs := [7]) (by kernel_rfl) (by simp) ?_
          refine Go.AllReadyH.cons rfl (fun K hK => ?_) Go.AllReadyH.nil
          rw [if_pos (by rfl)]
          go_simp
          refine (kaU.out _ hHeld.1.out U3 u3 U4 u4).mono ?_
          rintro e v3_7 ⟨rfl, g3_7⟩
          refine hK.out _ _ (seen.out _ g3_7) (fun hHeld => ?_)
          clear hK K
          refine Go.wpAnyH_take (i := 8) (oi := _) (v := ?_) rfl (by kernel_rfl) (by kernel_rfl) (by kernel_rfl) (fun _ _ _ h => h) (Or.inl ⟨by rfl, ?_⟩) (by assumption) ?_
          rotate_left 1
          · intro wx hSw
            go_simp <;> with_reducible rfl
          simp only [Act.put, List.getElem_toArray, List.getElem_cons_zero, List.getElem_cons_succ, List.setIfInBounds_toArray, List.set_cons_zero, List.set_cons_succ]
          refine Go.wpAnyH_take (i := 9) (oi := _) (v := ?_) rfl (by kernel_rfl) (by kernel_rfl) (by kernel_rfl) (fun _ _ _ h => h) (Or.inl ⟨by rfl, ?_⟩) (by assumption) ?_
          rotate_left 1
          · intro wx hSw
            go_simp <;> with_reducible rfl
          simp only [Act.put, List.getElem_toArray, List.getElem_cons_zero, List.getElem_cons_succ, List.setIfInBounds_toArray, List.set_cons_zero, List.set_cons_succ]
          refine Go.wpAnyH_take (i := 10) (oi := _) (v := ?_) rfl (by kernel_rfl) (by kernel_rfl) (by kernel_rfl) (fun _ _ _ h => h) (Or.inl ⟨by rfl, ?_⟩) (by assumption) ?_
          rotate_left 1
          · intro wx hSw
            go_simp <;> with_reducible rfl
          simp only [Act.put, List.getElem_toArray, List.getElem_cons_zero, List.getElem_cons_succ, List.setIfInBounds_toArray, List.set_cons_zero, List.set_cons_succ]
          refine Go.wpAnyH_take (i := 11) (oi := _) (v := ?_) rfl (by kernel_rfl) (by kernel_rfl) (by kernel_rfl) (fun _ _ _ h => h) (Or.inl ⟨by rfl, ?_⟩) (by assumption) ?_
          rotate_left 1
          · intro wx hSw
            go_simp <;> with_reducible rfl
          simp only [Act.put, List.getElem_toArray, List.getElem_cons_zero, List.getElem_cons_succ, List.setIfInBounds_toArray, List.set_cons_zero, List.set_cons_succ]
          refine Go.wpAnyH_take (i := 12) (oi := _) (v := ?_) rfl (by kernel_rfl) (by kernel_rfl) (by kernel_rfl) (fun _ _ _ h => h) (Or.inl ⟨by rfl, ?_⟩) (by assumption) ?_
          rotate_left 1
          · intro wx hSw
            go_simp <;> with_reducible rfl
          simp only [Act.put, List.getElem_toArray, List.getElem_cons_zero, List.getElem_cons_succ, List.setIfInBounds_toArray, List.set_cons_zero, List.set_cons_succ]
          refine Go.wpAnyH_take (i := 13) (oi := _) (v := ?_) rfl (by kernel_rfl) (by kernel_rfl) (by kernel_rfl) (fun _ _ _ h => h) (Or.inl ⟨by rfl, ?_⟩) (by assumption) ?_
          rotate_left 1
          · intro wx hSw
            go_simp <;> with_reducible rfl
          simp only [Act.put, List.getElem_toArray, List.getElem_cons_zero, List.getElem_cons_succ, List.setIfInBounds_toArray, List.set_cons_zero, List.set_cons_succ]
          refine Go.wpAnyH_take (i := 14) (oi := _) (v := ?_) rfl (by kernel_rfl) (by kernel_rfl) (by kernel_rfl) (fun _ _ _ h => h) (Or.inl ⟨by rfl, ?_⟩) (by assumption) ?_
          rotate_left 1
          · intro wx hSw
            go_simp <;> with_reducible rfl
          simp only [Act.put, List.getElem_toArray, List.getElem_cons_zero, List.getElem_cons_succ, List.setIfInBounds_toArray, List.set_cons_zero, List.set_cons_succ]
          refine Go.wpAnyH_take (i := 15) (oi := _) (v := ?_) rfl (by kernel_rfl) (by kernel_rfl) (by kernel_rfl) (fun _ _ _ h => h) (Or.inl ⟨by rfl, ?_⟩) (by assumption) ?_
          rotate_left 1
          · intro wx hSw
            go_simp <;> with_reducible rfl
          simp only [Act.put, List.getElem_toArray, List.getElem_cons_zero, List.getElem_cons_succ, List.setIfInBounds_toArray, List.set_cons_zero, List.set_cons_succ]
          refine Go.wpAnyH_take (i := 16) (oi := _) (v := undef) rfl (by kernel_rfl) (by kernel_rfl) (by kernel_rfl) (fun _ _ _ h => h) (Or.inr ⟨by rfl, rfl⟩) (by assumption) ?_
          simp only [Act.put, List.getElem_toArray, List.getElem_cons_zero, List.getElem_cons_succ, List.setIfInBounds_toArray, List.set_cons_zero, List.set_cons_succ]
          refine Go.wpAnyH_take (i := 17) (oi := _) (v := undef) rfl (by kernel_rfl) (by kernel_rfl) (by kernel_rfl) (fun _ _ _ h => h) (Or.inr ⟨by rfl, rfl⟩) (by assumption) ?_
          simp only [Act.put, List.getElem_toArray, List.getElem_cons_zero, List.getElem_cons_succ, List.setIfInBounds_toArray, List.set_cons_zero, List.set_cons_succ]
          refine Go.wpAnyH_take (i := 18) (oi := _) (v := undef) rfl (by kernel_rfl) (by kernel_rfl) (by kernel_rfl) (fun _ _ _ h => h) (Or.inr ⟨by rfl, rfl⟩) (by assumption) ?_
          simp only [Act.put, List.getElem_toArray, List.getElem_cons_zero, List.getElem_cons_succ, List.setIfInBounds_toArray, List.set_cons_zero, List.set_cons_succ]
          refine Go.wpAnyH_take (i := 19) (oi := _) (v := undef) rfl (by kernel_rfl) (by kernel_rfl) (by kernel_rfl) (fun _ _ _ h => h) (Or.inr ⟨by rfl, rfl⟩) (by assumption) ?_
          simp only [Act.put, List.getElem_toArray, List.getElem_cons_zero, List.getElem_cons_succ, List.setIfInBounds_toArray, List.set_cons_zero, List.set_cons_succ]
          refine Go.wpAnyH_take (i := 20) (oi := _) (v := ?_) rfl (by kernel_rfl) (by kernel_rfl) (by kernel_rfl) (fun _ _ _ h => h) (Or.inl ⟨by rfl, ?_⟩) (by assumption) ?_
          rotate_left 1
          · intro wx hSw
            go_simp <;> with_reducible rfl
          simp only [Act.put, List.getElem_toArray, List.getElem_cons_zero, List.getElem_cons_succ, List.setIfInBounds_toArray, List.set_cons_zero, List.set_cons_succ]
          refine Go.wpAnyH_take (i := 21) (oi := _) (v := ?_) rfl (by kernel_rfl) (by kernel_rfl) (by kernel_rfl) (fun _ _ _ h => h) (Or.inl ⟨by rfl, ?_⟩) (by assumption) ?_
          rotate_left 1
          · intro wx hSw
            go_simp <;> with_reducible rfl
          simp only [Act.put, List.getElem_toArray, List.getElem_cons_zero, List.getElem_cons_succ, List.setIfInBounds_toArray, List.set_cons_zero, List.set_cons_succ]
          refine Go.wpAnyH_done (by kernel_rfl) ?_ _
          have H3 := Lib.hid hHeld.1.out
          obtain ⟨-, x0, x1, x2, x3, x4, x5, x6, x7, x8, x9, x10, x11, x12, x13, x14⟩ := hHeld
          go_wp2_with fail
          refine (kba.out _ H3.out).mono ?_
          rintro e w_4 ⟨rfl, h4⟩
          have H4 := Lib.hid h4
          clear x0 x1 x2 x3 x4 x5 x6 x7 x8 x9 x10 x11 x12 x13 x14 h4
          obtain ⟨-, x0, x1, x2, x3, x4, x5, x6, x7, x8, x9, x10, x11, x12, x13, x14⟩ := seen.out _ H4.out
          go_wp2_with fail
          refine (eab.out _ H4.out).mono ?_
          rintro e w_5 ⟨rfl, h5⟩
          have H5 := Lib.hid h5
          clear x0 x1 x2 x3 x4 x5 x6 x7 x8 x9 x10 x11 x12 x13 x14 h5
          obtain ⟨-, x0, x1, x2, x3, x4, x5, x6, x7, x8, x9, x10, x11, x12, x13, x14⟩ := seen.out _ H5.out
          go_wp2_with fail
          clear x0 x1 x2 x3 x4 x5 x6 x7 x8 x9 x10 x11 x12 x13 x14
          refine Go.wp_region_held_drew (S := (fun w' => Hid (L w') ∧ w'.cell? ⟨P1, 0, none⟩ = some (.int .i64 ak) ∧ w'.cell? ⟨P1, 1, none⟩ = some (.int .i64 an) ∧ w'.cell? ⟨P1, 2, none⟩ = some (.string as') ∧ w'.cell? ⟨P1, 3, none⟩ = some (.slice A3 an3 k3) ∧ w'.cell? ⟨P1, 4, none⟩ = some (.slice A4 an4 k4) ∧ w'.cell? ⟨P2, 0, none⟩ = some (.int .i64 bk) ∧ w'.cell? ⟨P2, 1, none⟩ = some (.int .i64 bn) ∧ w'.cell? ⟨P2, 2, none⟩ = some (.string bs) ∧ w'.cell? ⟨P2, 3, none⟩ = some (.slice B3 bn3 l3) ∧ w'.cell? ⟨P2, 4, none⟩ = some (.slice B4 bn4 l4) ∧ w'.cell? ⟨P3, 0, none⟩ = some (.int .i64 ck) ∧ w'.cell? ⟨P3, 1, none⟩ = some (.int .i64 cn) ∧ w'.cell? ⟨P3, 2, none⟩ = some (.string cs) ∧ w'.cell? ⟨P3, 3, none⟩ = some (.slice C3 cn3 m3) ∧ w'.cell? ⟨P3, 4, none⟩ = some (.slice C4 cn4 m4))) (by kernel_rfl) (seen.out _ (stays.out _ _ H5.out (Q.drewN _ 1))) (fun hHeld => ?_)
          refine Go.wpAnyH_take (i := 0) (oi := _) (v := ?_) rfl (by kernel_rfl) (by kernel_rfl) (by kernel_rfl) (fun _ _ _ h => h) (Or.inl ⟨by rfl, ?_⟩) (by assumption) ?_
          rotate_left 1
          · intro wx hSw
            go_simp <;> with_reducible rfl
          simp only [Act.put, List.getElem_toArray, List.getElem_cons_zero, List.setIfInBounds_toArray, List.set_cons_zero, List.set_cons_succ]
          refine Go.wpAnyH_take (i := 1) (oi := _) (v := ?_) rfl (by kernel_rfl) (by kernel_rfl) (by kernel_rfl) (fun _ _ _ h => h) (Or.inl ⟨by rfl, ?_⟩) (by assumption) ?_
          rotate_left 1
          · intro wx hSw
            go_simp <;> with_reducible rfl
          simp only [Act.put, List.getElem_toArray, List.getElem_cons_zero, List.getElem_cons_succ, List.setIfInBounds_toArray, List.set_cons_zero, List.set_cons_succ]
          refine Go.wpAnyH_take (i := 2) (oi := _) (v := ?_) rfl (by kernel_rfl) (by kernel_rfl) (by kernel_rfl) (fun _ _ _ h => h) (Or.inl ⟨by rfl, ?_⟩) (by assumption) ?_
          rotate_left 1
          · intro wx hSw
            go_simp <;> with_reducible rfl
          simp only [Act.put, List.getElem_toArray, List.getElem_cons_zero, List.getElem_cons_succ, List.setIfInBounds_toArray, List.set_cons_zero, List.set_cons_succ]
          refine Go.wpAnyH_ready (rs := [3]) (by kernel_rfl) (by simp) ?_
          refine Go.AllReadyH.cons rfl (fun K hK => ?_) Go.AllReadyH.nil
          rw [if_pos (by rfl)]
          go_simp
          refine (kkb.out _ hHeld.1.out).mono ?_
          rintro e v6_3 ⟨rfl, g6_3⟩
          refine hK.out _ _ (seen.out _ g6_3) (fun hHeld => ?_)
          clear hK K
          refine Go.wpAnyH_take (i := 4) (oi := _) (v := ?_) rfl (by kernel_rfl) (by kernel_rfl) (by kernel_rfl) (fun _ _ _ h => h) (Or.inl ⟨by rfl, ?_⟩) (by assumption) ?_
          rotate_left 1
          · intro wx hSw
            go_simp <;> with_reducible rfl
          simp only [Act.put, List.getElem_toArray, List.getElem_cons_zero, List.getElem_cons_succ, List.setIfInBounds_toArray, List.set_cons_zero, List.set_cons_succ]
          refine Go.wpAnyH_take (i := 5) (oi := _) (v := ?_) rfl (by kernel_rfl) (by kernel_rfl) (by kernel_rfl) (fun _ _ _ h => h) (Or.inl ⟨by rfl, ?_⟩) (by assumption) ?_
          rotate_left 1
          · intro wx hSw
            go_simp <;> with_reducible rfl
          simp only [Act.put, List.getElem_toArray, List.getElem_cons_zero, List.getElem_cons_succ, List.setIfInBounds_toArray, List.set_cons_zero, List.set_cons_succ]
          refine Go.wpAnyH_take (i := 6) (oi := _) (v := ?_) rfl (by kernel_rfl) (by kernel_rfl) (by kernel_rfl) (fun _ _ _ h => h) (Or.inl ⟨by rfl, ?_⟩) (by assumption) ?_
          rotate_left 1
          · intro wx hSw
            go_simp <;> with_reducible rfl
          simp only [Act.put, List.getElem_toArray, List.getElem_cons_zero, List.getElem_cons_succ, List.setIfInBounds_toArray, List.set_cons_zero, List.set_cons_succ]
          refine Go.wpAnyH_take (i := 7) (oi := _) (v := ?_) rfl (by kernel_rfl) (by kernel_rfl) (by kernel_rfl) (fun _ _ _ h => h) (Or.inl ⟨by rfl, ?_⟩) (by assumption) ?_
          rotate_left 1
          · intro wx hSw
            go_simp <;> with_reducible rfl
          simp only [Act.put, List.getElem_toArray, List.getElem_cons_zero, List.getElem_cons_succ, List.setIfInBounds_toArray, List.set_cons_zero, List.set_cons_succ]
          refine Go.wpAnyH_ready (rs := [8]) (by kernel_rfl) (by simp) ?_
          refine Go.AllReadyH.cons rfl (fun K hK => ?_) Go.AllReadyH.nil
          rw [if_pos (by rfl)]
          go_simp
          refine (eab.out _ hHeld.1.out).mono ?_
          rintro e v6_8 ⟨rfl, g6_8⟩
          refine hK.out _ _ (seen.out _ g6_8) (fun hHeld => ?_)
          clear hK K
          refine Go.wpAnyH_take (i := 9) (oi := _) (v := ?_) rfl (by kernel_rfl) (by kernel_rfl) (by kernel_rfl) (fun _ _ _ h => h) (Or.inl ⟨by rfl, ?_⟩) (by assumption) ?_
          rotate_left 1
          · intro wx hSw
            go_simp <;> with_reducible rfl
          simp only [Act.put, List.getElem_toArray, List.getElem_cons_zero, List.getElem_cons_succ, List.setIfInBounds_toArray, List.set_cons_zero, List.set_cons_succ]
          refine Go.wpAnyH_take (i := 10) (oi := _) (v := ?_) rfl (by kernel_rfl) (by kernel_rfl) (by kernel_rfl) (fun _ _ _ h => h) (Or.inl ⟨by rfl, ?_⟩) (by assumption) ?_
          rotate_left 1
          · intro wx hSw
            go_simp <;> with_reducible rfl
          simp only [Act.put, List.getElem_toArray, List.getElem_cons_zero, List.getElem_cons_succ, List.setIfInBounds_toArray, List.set_cons_zero, List.set_cons_succ]
          refine Go.wpAnyH_take (i := 11) (oi := _) (v := ?_) rfl (by kernel_rfl) (by kernel_rfl) (by kernel_rfl) (fun _ _ _ h => h) (Or.inl ⟨by rfl, ?_⟩) (by assumption) ?_
          rotate_left 1
          · intro wx hSw
            go_simp <;> with_reducible rfl
          simp only [Act.put, List.getElem_toArray, List.getElem_cons_zero, List.getElem_cons_succ, List.setIfInBounds_toArray, List.set_cons_zero, List.set_cons_succ]
          refine Go.wpAnyH_take (i := 12) (oi := _) (v := ?_) rfl (by kernel_rfl) (by kernel_rfl) (by kernel_rfl) (fun _ _ _ h => h) (Or.inl ⟨by rfl, ?_⟩) (by assumption) ?_
          rotate_left 1
          · intro wx hSw
            go_simp <;> with_reducible rfl
          simp only [Act.put, List.getElem_toArray, List.getElem_cons_zero, List.getElem_cons_succ, List.setIfInBounds_toArray, List.set_cons_zero, List.set_cons_succ]
          refine Go.wpAnyH_take (i := 13) (oi := _) (v := ?_) rfl (by kernel_rfl) (by kernel_rfl) (by kernel_rfl) (fun _ _ _ h => h) (Or.inl ⟨by rfl, ?_⟩) (by assumption) ?_
          rotate_left 1
          · intro wx hSw
            go_simp <;> with_reducible rfl
          simp only [Act.put, List.getElem_toArray, List.getElem_cons_zero, List.getElem_cons_succ, List.setIfInBounds_toArray, List.set_cons_zero, List.set_cons_succ]
          refine Go.wpAnyH_take (i := 14) (oi := _) (v := ?_) rfl (by kernel_rfl) (by kernel_rfl) (by kernel_rfl) (fun _ _ _ h => h) (Or.inl ⟨by rfl, ?_⟩) (by assumption) ?_
          rotate_left 1
          · intro wx hSw
            go_simp <;> with_reducible rfl
          simp only [Act.put, List.getElem_toArray, List.getElem_cons_zero, List.getElem_cons_succ, List.setIfInBounds_toArray, List.set_cons_zero, List.set_cons_succ]
          refine Go.wpAnyH_take (i := 16) (oi := _) (v := ?_) rfl (by kernel_rfl) (by kernel_rfl) (by kernel_rfl) (fun _ _ _ h => h) (Or.inl ⟨by rfl, ?_⟩) (by assumption) ?_
          rotate_left 1
          · intro wx hSw
            go_simp <;> with_reducible rfl
          simp only [Act.put, List.getElem_toArray, List.getElem_cons_zero, List.getElem_cons_succ, List.setIfInBounds_toArray, List.set_cons_zero, List.set_cons_succ]
          refine Go.wpAnyH_ready (rs := [15]) (by kernel_rfl) (by simp) ?_
          refine Go.AllReadyH.cons rfl (fun K hK => ?_) Go.AllReadyH.nil
          rw [if_pos (by rfl)]
          go_simp
          refine (kna.out _ hHeld.1.out).mono ?_
          rintro e v6_15 ⟨rfl, g6_15⟩
          refine hK.out _ _ (seen.out _ g6_15) (fun hHeld => ?_)
          clear hK K
          refine Go.wpAnyH_ready (rs := [17]) (by kernel_rfl) (by simp) ?_
          refine Go.AllReadyH.cons rfl (fun K hK => ?_) Go.AllReadyH.nil
          rw [if_pos (by rfl)]
          go_simp
          refine (knb.out _ hHeld.1.out).mono ?_
          rintro e v6_17 ⟨rfl, g6_17⟩
          refine hK.out _ _ (seen.out _ g6_17) (fun hHeld => ?_)
          clear hK K
          refine Go.wpAnyH_take (i := 18) (oi := _) (v := ?_) rfl (by kernel_rfl) (by kernel_rfl) (by kernel_rfl) (fun _ _ _ h => h) (Or.inl ⟨by rfl, ?_⟩) (by assumption) ?_
          rotate_left 1
          · intro wx hSw
            go_simp <;> with_reducible rfl
          simp only [Act.put, List.getElem_toArray, List.getElem_cons_zero, List.getElem_cons_succ, List.setIfInBounds_toArray, List.set_cons_zero, List.set_cons_succ]
          refine Go.wpAnyH_take (i := 19) (oi := _) (v := ?_) rfl (by kernel_rfl) (by kernel_rfl) (by kernel_rfl) (fun _ _ _ h => h) (Or.inl ⟨by rfl, ?_⟩) (by assumption) ?_
          rotate_left 1
          · intro wx hSw
            go_simp <;> with_reducible rfl
          simp only [Act.put, List.getElem_toArray, List.getElem_cons_zero, List.getElem_cons_succ, List.setIfInBounds_toArray, List.set_cons_zero, List.set_cons_succ]
          refine Go.wpAnyH_take (i := 20) (oi := _) (v := ?_) rfl (by kernel_rfl) (by kernel_rfl) (by kernel_rfl) (fun _ _ _ h => h) (Or.inl ⟨by rfl, ?_⟩) (by assumption) ?_
          rotate_left 1
          · intro wx hSw
            go_simp <;> with_reducible rfl
          simp only [Act.put, List.getElem_toArray, List.getElem_cons_zero, List.getElem_cons_succ, List.setIfInBounds_toArray, List.set_cons_zero, List.set_cons_succ]
          refine Go.wpAnyH_done (by kernel_rfl) ?_ _
          have H6 := Lib.hid hHeld.1.out
          obtain ⟨-, x0, x1, x2, x3, x4, x5, x6, x7, x8, x9, x10, x11, x12, x13, x14⟩ := hHeld
          go_wp2_with fail
          refine (cA.out _ (LQ.out _ H6.out)).mono ?_
          rintro e wz ⟨rfl, qz⟩
          clear x0 x1 x2 x3 x4 x5 x6 x7 x8 x9 x10 x11 x12 x13 x14
          go_wp2_with fail
          go_ret
          exact ⟨rfl, (LQ.out _ H6.out).trans qz⟩
    · cases BA
      · cases KB
        · have hN : NB ≤ NA := TN.out rfl
          have n1 : decide (NA < NB) = false := decide_eq_false (by omega)
          have n2 : decide ((NA : Int) < (NB : Int)) = false := decide_eq_false (by omega)
          clear hN
          obtain rfl : AC = true := TR.out rfl rfl
          clear TR TE TK TN
          obtain ⟨D, hD⟩ : ∃ x, wb3.heap.size = x := ⟨_, rfl⟩
          obtain ⟨wd, hwd⟩ : ∃ x, wb3.alloc (.cells #[.int .i64 ak, .int .i64 an, .string as', .slice A3 an3 k3, .slice A4 an4 k4, .int .i64 bk, .int .i64 bn, .string bs, .slice B3 bn3 l3, .slice B4 bn4 l4, .int .i64 ck, .int .i64 cn, .string cs, .slice C3 cn3 m3, .slice C4 cn4 m4] 26) = x := ⟨_, rfl⟩
          have LD : Hid (L wd) := Lib.hid (by rw [← hwd]; exact stays.out _ _ L0.out (Q.box _ _))
          have cVd := Lib.hid (cVal.out wd D (LQ.out _ LD.out) (by rw [← hwd, ← hD]; exact Bk.new _ _ _))
          go_enter Tryz.func8, Tryz.ntmps8
          go_wp2_with fail
          refine (cVd.out).mono ?_
          rintro e w_1 ⟨rfl, q1⟩
          have H1 := Lib.hid (stays.out _ _ LD.out q1)
          clear x0 x1 x2 x3 x4 x5 x6 x7 x8 x9 x10 x11 x12 x13 x14 q1 hwd hD
          obtain ⟨-, x0, x1, x2, x3, x4, x5, x6, x7, x8, x9, x10, x11, x12, x13, x14⟩ := seen.out _ H1.out
          go_wp2_with fail
          clear x0 x1 x2 x3 x4 x5 x6 x7 x8 x9 x10 x11 x12 x13 x14
          refine Go.wp_region_held_drew (S := (fun w' => Hid (L w') ∧ w'.cell? ⟨P1, 0, none⟩ = some (.int .i64 ak) ∧ w'.cell? ⟨P1, 1, none⟩ = some (.int .i64 an) ∧ w'.cell? ⟨P1, 2, none⟩ = some (.string as') ∧ w'.cell? ⟨P1, 3, none⟩ = some (.slice A3 an3 k3) ∧ w'.cell? ⟨P1, 4, none⟩ = some (.slice A4 an4 k4) ∧ w'.cell? ⟨P2, 0, none⟩ = some (.int .i64 bk) ∧ w'.cell? ⟨P2, 1, none⟩ = some (.int .i64 bn) ∧ w'.cell? ⟨P2, 2, none⟩ = some (.string bs) ∧ w'.cell? ⟨P2, 3, none⟩ = some (.slice B3 bn3 l3) ∧ w'.cell? ⟨P2, 4, none⟩ = some (.slice B4 bn4 l4) ∧ w'.cell? ⟨P3, 0, none⟩ = some (.int .i64 ck) ∧ w'.cell? ⟨P3, 1, none⟩ = some (.int .i64 cn) ∧ w'.cell? ⟨P3, 2, none⟩ = some (.string cs) ∧ w'.cell? ⟨P3, 3, none⟩ = some (.slice C3 cn3 m3) ∧ w'.cell? ⟨P3, 4, none⟩ = some (.slice C4 cn4 m4))) (by kernel_rfl) (seen.out _ (stays.out _ _ H1.out (Q.drewN _ 1))) (fun hHeld => ?_)
          refine Go.wpAnyH_take (i := 0) (oi := _) (v := ?_) rfl (by kernel_rfl) (by kernel_rfl) (by kernel_rfl) (fun _ _ _ h => h) (Or.inl ⟨by rfl, ?_⟩) (by assumption) ?_
          rotate_left 1
          · intro wx hSw
            go_simp <;> with_reducible rfl
          simp only [Act.put, List.getElem_toArray, List.getElem_cons_zero, List.setIfInBounds_toArray, List.set_cons_zero, List.set_cons_succ]
          refine Go.wpAnyH_take (i := 1) (oi := _) (v := ?_) rfl (by kernel_rfl) (by kernel_rfl) (by kernel_rfl) (fun _ _ _ h => h) (Or.inl ⟨by rfl, ?_⟩) (by assumption) ?_
          rotate_left 1
          · intro wx hSw
            go_simp <;> with_reducible rfl
          simp only [Act.put, List.getElem_toArray, List.getElem_cons_zero, List.getElem_cons_succ, List.setIfInBounds_toArray, List.set_cons_zero, List.set_cons_succ]
          refine Go.wpAnyH_take (i := 3) (oi := _) (v := ?_) rfl (by kernel_rfl) (by kernel_rfl) (by kernel_rfl) (fun _ _ _ h => h) (Or.inl ⟨by rfl, ?_⟩) (by assumption) ?_
          rotate_left 1
          · intro wx hSw
            go_simp <;> with_reducible rfl
          simp only [Act.put, List.getElem_toArray, List.getElem_cons_zero, List.getElem_cons_succ, List.setIfInBounds_toArray, List.set_cons_zero, List.set_cons_succ]
          refine Go.wpAnyH_take (i := 4) (oi := _) (v := ?_) rfl (by kernel_rfl) (by kernel_rfl) (by kernel_rfl) (fun _ _ _ h => h) (Or.inl ⟨by rfl, ?_⟩) (by assumption) ?_
          rotate_left 1
          · intro wx hSw
            go_simp <;> with_reducible rfl
          simp only [Act.put, List.getElem_toArray, List.getElem_cons_zero, List.getElem_cons_succ, List.setIfInBounds_toArray, List.set_cons_zero, List.set_cons_succ]
          refine Go.wpAnyH_ready (rs := [2]) (by kernel_rfl) (by simp) ?_
          refine Go.AllReadyH.cons rfl (fun K hK => ?_) Go.AllReadyH.nil
          rw [if_pos (by rfl)]
          go_simp
          refine (kab.out _ hHeld.1.out).mono ?_
          rintro e v2_2 ⟨rfl, g2_2⟩
          refine hK.out _ _ (seen.out _ g2_2) (fun hHeld => ?_)
          clear hK K
          refine Go.wpAnyH_ready (rs := [5]) (by kernel_rfl) (by simp) ?_
          refine Go.AllReadyH.cons rfl (fun K hK => ?_) Go.AllReadyH.nil
          rw [if_pos (by rfl)]
          go_simp
          refine (kbc.out _ hHeld.1.out).mono ?_
          rintro e v2_5 ⟨rfl, g2_5⟩
          refine hK.out _ _ (seen.out _ g2_5) (fun hHeld => ?_)
          clear hK K
          refine Go.wpAnyH_take (i := 6) (oi := _) (v := ?_) rfl (by kernel_rfl) (by kernel_rfl) (by kernel_rfl) (fun _ _ _ h => h) (Or.inl ⟨by rfl, ?_⟩) (by assumption) ?_
          rotate_left 1
          · intro wx hSw
            go_simp <;> with_reducible rfl
          simp only [Act.put, List.getElem_toArray, List.getElem_cons_zero, List.getElem_cons_succ, List.setIfInBounds_toArray, List.set_cons_zero, List.set_cons_succ]
          refine Go.wpAnyH_take (i := 7) (oi := _) (v := ?_) rfl (by kernel_rfl) (by kernel_rfl) (by kernel_rfl) (fun _ _ _ h => h) (Or.inl ⟨by rfl, ?_⟩) (by assumption) ?_
          rotate_left 1
          · intro wx hSw
            go_simp <;> with_reducible rfl
          simp only [Act.put, List.getElem_toArray, List.getElem_cons_zero, List.getElem_cons_succ, List.setIfInBounds_toArray, List.set_cons_zero, List.set_cons_succ]
          refine Go.wpAnyH_done (by kernel_rfl) ?_ _
          have H2 := Lib.hid hHeld.1.out
          obtain ⟨-, x0, x1, x2, x3, x4, x5, x6, x7, x8, x9, x10, x11, x12, x13, x14⟩ := hHeld
          go_wp2_with fail
          clear x0 x1 x2 x3 x4 x5 x6 x7 x8 x9 x10 x11 x12 x13 x14
          refine Go.wp_region_held_drew (S := (fun w' => Hid (L w') ∧ w'.cell? ⟨P1, 0, none⟩ = some (.int .i64 ak) ∧ w'.cell? ⟨P1, 1, none⟩ = some (.int .i64 an) ∧ w'.cell? ⟨P1, 2, none⟩ = some (.string as') ∧ w'.cell? ⟨P1, 3, none⟩ = some (.slice A3 an3 k3) ∧ w'.cell? ⟨P1, 4, none⟩ = some (.slice A4 an4 k4) ∧ w'.cell? ⟨P2, 0, none⟩ = some (.int .i64 bk) ∧ w'.cell? ⟨P2, 1, none⟩ = some (.int .i64 bn) ∧ w'.cell? ⟨P2, 2, none⟩ = some (.string bs) ∧ w'.cell? ⟨P2, 3, none⟩ = some (.slice B3 bn3 l3) ∧ w'.cell? ⟨P2, 4, none⟩ = some (.slice B4 bn4 l4) ∧ w'.cell? ⟨P3, 0, none⟩ = some (.int .i64 ck) ∧ w'.cell? ⟨P3, 1, none⟩ = some (.int .i64 cn) ∧ w'.cell? ⟨P3, 2, none⟩ = some (.string cs) ∧ w'.cell? ⟨P3, 3, none⟩ = some (.slice C3 cn3 m3) ∧ w'.cell? ⟨P3, 4, none⟩ = some (.slice C4 cn4 m4))) (by kernel_rfl) (seen.out _ (stays.out _ _ H2.out (Q.drewN _ 1))) (fun hHeld => ?_)
          refine Go.wpAnyH_take (i := 0) (oi := _) (v := ?_) rfl (by kernel_rfl) (by kernel_rfl) (by kernel_rfl) (fun _ _ _ h => h) (Or.inl ⟨by rfl, ?_⟩) (by assumption) ?_
          rotate_left 1
          · intro wx hSw
            go_simp <;> with_reducible rfl
          simp only [Act.put, List.getElem_toArray, List.getElem_cons_zero, List.setIfInBounds_toArray, List.set_cons_zero, List.set_cons_succ]
          refine Go.wpAnyH_take (i := 1) (oi := _) (v := ?_) rfl (by kernel_rfl) (by kernel_rfl) (by kernel_rfl) (fun _ _ _ h => h) (Or.inl ⟨by rfl, ?_⟩) (by assumption) ?_
          rotate_left 1
          · intro wx hSw
            go_simp <;> with_reducible rfl
          simp only [Act.put, List.getElem_toArray, List.getElem_cons_zero, List.getElem_cons_succ, List.setIfInBounds_toArray, List.set_cons_zero, List.set_cons_succ]
          refine Go.wpAnyH_ready (rs := [2]) (by kernel_rfl) (by simp) ?_
          refine Go.AllReadyH.cons rfl (fun K hK => ?_) Go.AllReadyH.nil
          rw [if_pos (by rfl)]
          go_simp
          refine (kaa.out _ hHeld.1.out).mono ?_
          rintro e v3_2 ⟨rfl, g3_2⟩
          refine hK.out _ _ (seen.out _ g3_2) (fun hHeld => ?_)
          clear hK K
          refine Go.wpAnyH_take (i := 3) (oi := _) (v := ?_) rfl (by kernel_rfl) (by kernel_rfl) (by kernel_rfl) (fun _ _ _ h => h) (Or.inl ⟨by rfl, ?_⟩) (by assumption) ?_
          rotate_left 1
          · intro wx hSw
            go_simp <;> with_reducible rfl
          simp only [Act.put, List.getElem_toArray, List.getElem_cons_zero, List.getElem_cons_succ, List.setIfInBounds_toArray, List.set_cons_zero, List.set_cons_succ]
          refine Go.wpAnyH_take (i := 4) (oi := _) (v := ?_) rfl (by kernel_rfl) (by kernel_rfl) (by kernel_rfl) (fun _ _ _ h => h) (Or.inl ⟨by rfl, ?_⟩) (by assumption) ?_
          rotate_left 1
          · intro wx hSw
            go_simp <;> with_reducible rfl
          simp only [Act.put, List.getElem_toArray, List.getElem_cons_zero, List.getElem_cons_succ, List.setIfInBounds_toArray, List.set_cons_zero, List.set_cons_succ]
          refine Go.wpAnyH_take (i := 5) (oi := _) (v := ?_) rfl (by kernel_rfl) (by kernel_rfl) (by kernel_rfl) (fun _ _ _ h => h) (Or.inl ⟨by rfl, ?_⟩) (by assumption) ?_
          rotate_left 1
          · intro wx hSw
            go_simp <;> with_reducible rfl
          simp only [Act.put, List.getElem_toArray, List.getElem_cons_zero, List.getElem_cons_succ, List.setIfInBounds_toArray, List.set_cons_zero, List.set_cons_succ]
          refine Go.wpAnyH_ready (rs := [6]) (by kernel_rfl) (by simp) ?_
          refine Go.AllReadyH.cons rfl (fun K hK => ?_) Go.AllReadyH.nil
          rw [if_pos (by rfl)]
          go_simp
          refine (kU.out _ hHeld.1.out).mono ?_
          rintro e v3_6 ⟨U3, u3, U4, u4, rfl, g3_6⟩
          refine hK.out _ _ (seen.out _ g3_6) (fun hHeld => ?_)
          clear hK K
          refine Go.wpAnyH_ready (rs := [7]) (by kernel_rfl) (by simp) ?_
          refine Go.AllReadyH.cons rfl (fun K hK => ?_) Go.AllReadyH.nil
          rw [if_pos (by rfl)]
          go_simp
          refine (kaU.out _ hHeld.1.out U3 u3 U4 u4).mono ?_
          rintro e v3_7 ⟨rfl, g3_7⟩
          refine hK.out _ _ (seen.out _ g3_7) (fun hHeld => ?_)
          clear hK K
          refine Go.wpAnyH_take (i := 8) (oi := _) (v := ?_) rfl (by kernel_rfl) (by kernel_rfl) (by kernel_rfl) (fun _ _ _ h => h) (Or.inl ⟨by rfl, ?_⟩) (by assumption) ?_
          rotate_left 1
          · intro wx hSw
            go_simp <;> with_reducible rfl
          simp only [Act.put, List.getElem_toArray, List.getElem_cons_zero, List.getElem_cons_succ, List.setIfInBounds_toArray, List.set_cons_zero, List.set_cons_succ]
          refine Go.wpAnyH_take (i := 9) (oi := _) (v := ?_) rfl (by kernel_rfl) (by kernel_rfl) (by kernel_rfl) (fun _ _ _ h => h) (Or.inl ⟨by rfl, ?_⟩) (by assumption) ?_
          rotate_left 1
          · intro wx hSw
            go_simp <;> with_reducible rfl
          simp only [Act.put, List.getElem_toArray, List.getElem_cons_zero, List.getElem_cons_succ, List.setIfInBounds_toArray, List.set_cons_zero, List.set_cons_succ]
          refine Go.wpAnyH_take (i := 10) (oi := _) (v := ?_) rfl (by kernel_rfl) (by kernel_rfl) (by kernel_rfl) (fun _ _ _ h => h) (Or.inl ⟨by rfl, ?_⟩) (by assumption) ?_
          rotate_left 1
          · intro wx hSw
            go_simp <;> with_reducible rfl
          simp only [Act.put, List.getElem_toArray, List.getElem_cons_zero, List.getElem_cons_succ, List.setIfInBounds_toArray, List.set_cons_zero, List.set_cons_succ]
          refine Go.wpAnyH_take (i := 11) (oi := _) (v := ?_) rfl (by kernel_rfl) (by kernel_rfl) (by kernel_rfl) (fun _ _ _ h => h) (Or.inl ⟨by rfl, ?_⟩) (by assumption) ?_
          rotate_left 1
          · intro wx hSw
            go_simp <;> with_reducible rfl
          simp only [Act.put, List.getElem_toArray, List.getElem_cons_zero, List.getElem_cons_succ, List.setIfInBounds_toArray, List.set_cons_zero, List.set_cons_succ]
          refine Go.wpAnyH_take (i := 12) (oi := _) (v := ?_) rfl (by kernel_rfl) (by kernel_rfl) (by kernel_rfl) (fun _ _ _ h => h) (Or.inl ⟨by rfl, ?_⟩) (by assumption) ?_
          rotate_left 1
          · intro wx hSw
            go_simp <;> with_reducible rfl
          simp only [Act.put, List.getElem_toArray, List.getElem_cons_zero, List.getElem_cons_succ, List.setIfInBounds_toArray, List.set_cons_zero, List.set_cons_succ]
          refine Go.wpAnyH_take (i := 13) (oi := _) (v := ?_) rfl (by kernel_rfl) (by kernel_rfl) (by kernel_rfl) (fun _ _ _ h => h) (Or.inl ⟨by rfl, ?_⟩) (by assumption) ?_
          rotate_left 1
          · intro wx hSw
            go_simp <;> with_reducible rfl
          simp only [Act.put, List.getElem_toArray, List.getElem_cons_zero, List.getElem_cons_succ, List.setIfInBounds_toArray, List.set_cons_zero, List.set_cons_succ]
          refine Go.wpAnyH_take (i := 14) (oi := _) (v := ?_) rfl (by kernel_rfl) (by kernel_rfl) (by kernel_rfl) (fun _ _ _ h => h) (Or.inl ⟨by rfl, ?_⟩) (by assumption) ?_
          rotate_left 1
          · intro wx hSw
            go_simp <;> with_reducible rfl
          simp only [Act.put, List.getElem_toArray, List.getElem_cons_zero, List.getElem_cons_succ, List.setIfInBounds_toArray, List.set_cons_zero, List.set_cons_succ]
          refine Go.wpAnyH_take (i := 15) (oi := _) (v := ?_) rfl (by kernel_rfl) (by kernel_rfl) (by kernel_rfl) (fun _ _ _ h => h) (Or.inl ⟨by rfl, ?_⟩) (by assumption) ?_
          rotate_left 1
          · intro wx hSw
            go_simp <;> with_reducible rfl
          simp only [Act.put, List.getElem_toArray, List.getElem_cons_zero, List.getElem_cons_succ, List.setIfInBounds_toArray, List.set_cons_zero, List.set_cons_succ]
          refine Go.wpAnyH_take (i := 16) (oi := _) (v := ?_) rfl (by kernel_rfl) (by kernel_rfl) (by kernel_rfl) (fun _ _ _ h => h) (Or.inl ⟨by rfl, ?_⟩) (by assumption) ?_
          rotate_left 1
          · intro wx hSw
            go_simp <;> with_reducible rfl
          simp only [Act.put, List.getElem_toArray, List.getElem_cons_zero, List.getElem_cons_succ, List.setIfInBounds_toArray, List.set_cons_zero, List.set_cons_succ]
          refine Go.wpAnyH_take (i := 17) (oi := _) (v := ?_) rfl (by kernel_rfl) (by kernel_rfl) (by kernel_rfl) (fun _ _ _ h => h) (Or.inl ⟨by rfl, ?_⟩) (by assumption) ?_
          rotate_left 1
          · intro wx hSw
            go_simp <;> with_reducible rfl
          simp only [Act.put, List.getElem_toArray, List.getElem_cons_zero, List.getElem_cons_succ, List.setIfInBounds_toArray, List.set_cons_zero, List.set_cons_succ]
          refine Go.wpAnyH_ready (rs := [18]) (by kernel_rfl) (by simp) ?_
          refine Go.AllReadyH.cons rfl (fun K hK => ?_) Go.AllReadyH.nil
          rw [if_pos (by rfl)]
          go_simp
          refine (kac.out _ hHeld.1.out).mono ?_
          rintro e v3_18 ⟨rfl, g3_18⟩
          refine hK.out _ _ (seen.out _ g3_18) (fun hHeld => ?_)
          clear hK K
          refine Go.wpAnyH_take (i := 19) (oi := _) (v := ?_) rfl (by kernel_rfl) (by kernel_rfl) (by kernel_rfl) (fun _ _ _ h => h) (Or.inl ⟨by rfl, ?_⟩) (by assumption) ?_
          rotate_left 1
          · intro wx hSw
            go_simp <;> with_reducible rfl
          simp only [Act.put, List.getElem_toArray, List.getElem_cons_zero, List.getElem_cons_succ, List.setIfInBounds_toArray, List.set_cons_zero, List.set_cons_succ]
          refine Go.wpAnyH_take (i := 20) (oi := _) (v := ?_) rfl (by kernel_rfl) (by kernel_rfl) (by kernel_rfl) (fun _ _ _ h => h) (Or.inl ⟨by rfl, ?_⟩) (by assumption) ?_
          rotate_left 1
          · intro wx hSw
            go_simp <;> with_reducible rfl
          simp only [Act.put, List.getElem_toArray, List.getElem_cons_zero, List.getElem_cons_succ, List.setIfInBounds_toArray, List.set_cons_zero, List.set_cons_succ]
          refine Go.wpAnyH_take (i := 21) (oi := _) (v := ?_) rfl (by kernel_rfl) (by kernel_rfl) (by kernel_rfl) (fun _ _ _ h => h) (Or.inl ⟨by rfl, ?_⟩) (by assumption) ?_
          rotate_left 1
          · intro wx hSw
            go_simp <;> with_reducible rfl
          simp only [Act.put, List.getElem_toArray, List.getElem_cons_zero, List.getElem_cons_succ, List.setIfInBounds_toArray, List.set_cons_zero, List.set_cons_succ]
          refine Go.wpAnyH_done (by kernel_rfl) ?_ _
          have H3 := Lib.hid hHeld.1.out
          obtain ⟨-, x0, x1, x2, x3, x4, x5, x6, x7, x8, x9, x10, x11, x12, x13, x14⟩ := hHeld
          go_wp2_with fail
          refine (kba.out _ H3.out).mono ?_
          rintro e w_4 ⟨rfl, h4⟩
          have H4 := Lib.hid h4
          clear x0 x1 x2 x3 x4 x5 x6 x7 x8 x9 x10 x11 x12 x13 x14 h4
          obtain ⟨-, x0, x1, x2, x3, x4, x5, x6, x7, x8, x9, x10, x11, x12, x13, x14⟩ := seen.out _ H4.out
          go_wp2_with fail
          clear x0 x1 x2 x3 x4 x5 x6 x7 x8 x9 x10 x11 x12 x13 x14
          refine Go.wp_region_held_drew (S := (fun w' => Hid (L w') ∧ w'.cell? ⟨P1, 0, none⟩ = some (.int .i64 ak) ∧ w'.cell? ⟨P1, 1, none⟩ = some (.int .i64 an) ∧ w'.cell? ⟨P1, 2, none⟩ = some (.string as') ∧ w'.cell? ⟨P1, 3, none⟩ = some (.slice A3 an3 k3) ∧ w'.cell? ⟨P1, 4, none⟩ = some (.slice A4 an4 k4) ∧ w'.cell? ⟨P2, 0, none⟩ = some (.int .i64 bk) ∧ w'.cell? ⟨P2, 1, none⟩ = some (.int .i64 bn) ∧ w'.cell? ⟨P2, 2, none⟩ = some (.string bs) ∧ w'.cell? ⟨P2, 3, none⟩ = some (.slice B3 bn3 l3) ∧ w'.cell? ⟨P2, 4, none⟩ = some (.slice B4 bn4 l4) ∧ w'.cell? ⟨P3, 0, none⟩ = some (.int .i64 ck) ∧ w'.cell? ⟨P3, 1, none⟩ = some (.int .i64 cn) ∧ w'.cell? ⟨P3, 2, none⟩ = some (.string cs) ∧ w'.cell? ⟨P3, 3, none⟩ = some (.slice C3 cn3 m3) ∧ w'.cell? ⟨P3, 4, none⟩ = some (.slice C4 cn4 m4))) (by kernel_rfl) (seen.out _ (stays.out _ _ H4.out (Q.drewN _ 1))) (fun hHeld => ?_)
          refine Go.wpAnyH_take (i := 0) (oi := _) (v := ?_) rfl (by kernel_rfl) (by kernel_rfl) (by kernel_rfl) (fun _ _ _ h => h) (Or.inl ⟨by rfl, ?_⟩) (by assumption) ?_
          rotate_left 1
          · intro wx hSw
            go_simp <;> with_reducible rfl
          simp only [Act.put, List.getElem_toArray, List.getElem_cons_zero, List.setIfInBounds_toArray, List.set_cons_zero, List.set_cons_succ]
          refine Go.wpAnyH_take (i := 1) (oi := _) (v := ?_) rfl (by kernel_rfl) (by kernel_rfl) (by kernel_rfl) (fun _ _ _ h => h) (Or.inl ⟨by rfl, ?_⟩) (by assumption) ?_
          rotate_left 1
          · intro wx hSw
            go_simp <;> with_reducible rfl
          simp only [Act.put, List.getElem_toArray, List.getElem_cons_zero, List.getElem_cons_succ, List.setIfInBounds_toArray, List.set_cons_zero, List.set_cons_succ]
          refine Go.wpAnyH_take (i := 2) (oi := _) (v := ?_) rfl (by kernel_rfl) (by kernel_rfl) (by kernel_rfl) (fun _ _ _ h => h) (Or.inl ⟨by rfl, ?_⟩) (by assumption) ?_
          rotate_left 1
          · intro wx hSw
            go_simp <;> with_reducible rfl
          simp only [Act.put, List.getElem_toArray, List.getElem_cons_zero, List.getElem_cons_succ, List.setIfInBounds_toArray, List.set_cons_zero, List.set_cons_succ]
          refine Go.wpAnyH_ready (rs := [3]) (by kernel_rfl) (by simp) ?_
          refine Go.AllReadyH.cons rfl (fun K hK => ?_) Go.AllReadyH.nil
          rw [if_pos (by rfl)]
          go_simp
          refine (kkb.out _ hHeld.1.out).mono ?_
          rintro e v5_3 ⟨rfl, g5_3⟩
          refine hK.out _ _ (seen.out _ g5_3) (fun hHeld => ?_)
          clear hK K
          refine Go.wpAnyH_take (i := 4) (oi := _) (v := ?_) rfl (by kernel_rfl) (by kernel_rfl) (by kernel_rfl) (fun _ _ _ h => h) (Or.inl ⟨by rfl, ?_⟩) (by assumption) ?_
          rotate_left 1
          · intro wx hSw
            go_simp <;> with_reducible rfl
          simp only [Act.put, List.getElem_toArray, List.getElem_cons_zero, List.getElem_cons_succ, List.setIfInBounds_toArray, List.set_cons_zero, List.set_cons_succ]
          refine Go.wpAnyH_take (i := 5) (oi := _) (v := ?_) rfl (by kernel_rfl) (by kernel_rfl) (by kernel_rfl) (fun _ _ _ h => h) (Or.inl ⟨by rfl, ?_⟩) (by assumption) ?_
          rotate_left 1
          · intro wx hSw
            go_simp <;> with_reducible rfl
          simp only [Act.put, List.getElem_toArray, List.getElem_cons_zero, List.getElem_cons_succ, List.setIfInBounds_toArray, List.set_cons_zero, List.set_cons_succ]
          refine Go.wpAnyH_take (i := 6) (oi := _) (v := undef) rfl (by kernel_rfl) (by kernel_rfl) (by kernel_rfl) (fun _ _ _ h => h) (Or.inr ⟨by rfl, rfl⟩) (by assumption) ?_
          simp only [Act.put, List.getElem_toArray, List.getElem_cons_zero, List.getElem_cons_succ, List.setIfInBounds_toArray, List.set_cons_zero, List.set_cons_succ]
          refine Go.wpAnyH_take (i := 7) (oi := _) (v := undef) rfl (by kernel_rfl) (by kernel_rfl) (by kernel_rfl) (fun _ _ _ h => h) (Or.inr ⟨by rfl, rfl⟩) (by assumption) ?_
          simp only [Act.put, List.getElem_toArray, List.getElem_cons_zero, List.getElem_cons_succ, List.setIfInBounds_toArray, List.set_cons_zero, List.set_cons_succ]
          refine Go.wpAnyH_take (i := 8) (oi := _) (v := undef) rfl (by kernel_rfl) (by kernel_rfl) (by kernel_rfl) (fun _ _ _ h => h) (Or.inr ⟨by rfl, rfl⟩) (by assumption) ?_
          simp only [Act.put, List.getElem_toArray, List.getElem_cons_zero, List.getElem_cons_succ, List.setIfInBounds_toArray, List.set_cons_zero, List.set_cons_succ]
          refine Go.wpAnyH_take (i := 9) (oi := _) (v := undef) rfl (by kernel_rfl) (by kernel_rfl) (by kernel_rfl) (fun _ _ _ h => h) (Or.inr ⟨by rfl, rfl⟩) (by assumption) ?_
          simp only [Act.put, List.getElem_toArray, List.getElem_cons_zero, List.getElem_cons_succ, List.setIfInBounds_toArray, List.set_cons_zero, List.set_cons_succ]
          refine Go.wpAnyH_take (i := 10) (oi := _) (v := ?_) rfl (by kernel_rfl) (by kernel_rfl) (by kernel_rfl) (fun _ _ _ h => h) (Or.inl ⟨by rfl, ?_⟩) (by assumption) ?_
          rotate_left 1
          · intro wx hSw
            go_simp <;> with_reducible rfl
          simp only [Act.put, List.getElem_toArray, List.getElem_cons_zero, List.getElem_cons_succ, List.setIfInBounds_toArray, List.set_cons_zero, List.set_cons_succ]
          refine Go.wpAnyH_take (i := 11) (oi := _) (v := ?_) rfl (by kernel_rfl) (by kernel_rfl) (by kernel_rfl) (fun _ _ _ h => h) (Or.inl ⟨by rfl, ?_⟩) (by assumption) ?_
          rotate_left 1
          · intro wx hSw
            go_simp <;> with_reducible rfl
          simp only [Act.put, List.getElem_toArray, List.getElem_cons_zero, List.getElem_cons_succ, List.setIfInBounds_toArray, List.set_cons_zero, List.set_cons_succ]
          refine Go.wpAnyH_take (i := 12) (oi := _) (v := ?_) rfl (by kernel_rfl) (by kernel_rfl) (by kernel_rfl) (fun _ _ _ h => h) (Or.inl ⟨by rfl, ?_⟩) (by assumption) ?_
          rotate_left 1
          · intro wx hSw
            go_simp <;> with_reducible rfl
          simp only [Act.put, List.getElem_toArray, List.getElem_cons_zero, List.getElem_cons_succ, List.setIfInBounds_toArray, List.set_cons_zero, List.set_cons_succ]
          refine Go.wpAnyH_take (i := 13) (oi := _) (v := ?_) rfl (by kernel_rfl) (by kernel_rfl) (by kernel_rfl) (fun _ _ _ h => h) (Or.inl ⟨by rfl, ?_⟩) (by assumption) ?_
          rotate_left 1
          · intro wx hSw
            go_simp <;> with_reducible rfl
          simp only [Act.put, List.getElem_toArray, List.getElem_cons_zero, List.getElem_cons_succ, List.setIfInBounds_toArray, List.set_cons_zero, List.set_cons_succ]
          refine Go.wpAnyH_take (i := 14) (oi := _) (v := ?_) rfl (by kernel_rfl) (by kernel_rfl) (by kernel_rfl) (fun _ _ _ h => h) (Or.inl ⟨by rfl, ?_⟩) (by assumption) ?_
          rotate_left 1
          · intro wx hSw
            go_simp <;> with_reducible rfl
          simp only [Act.put, List.getElem_toArray, List.getElem_cons_zero, List.getElem_cons_succ, List.setIfInBounds_toArray, List.set_cons_zero, List.set_cons_succ]
          refine Go.wpAnyH_take (i := 16) (oi := _) (v := ?_) rfl (by kernel_rfl) (by kernel_rfl) (by kernel_rfl) (fun _ _ _ h => h) (Or.inl ⟨by rfl, ?_⟩) (by assumption) ?_
          rotate_left 1
          · intro wx hSw
            go_simp <;> with_reducible rfl
          simp only [Act.put, List.getElem_toArray, List.getElem_cons_zero, List.getElem_cons_succ, List.setIfInBounds_toArray, List.set_cons_zero, List.set_cons_succ]
          refine Go.wpAnyH_ready (rs := [15]) (by kernel_rfl) (by simp) ?_
          refine Go.AllReadyH.cons rfl (fun K hK => ?_) Go.AllReadyH.nil
          rw [if_pos (by rfl)]
          go_simp
          refine (kna.out _ hHeld.1.out).mono ?_
          rintro e v5_15 ⟨rfl, g5_15⟩
          refine hK.out _ _ (seen.out _ g5_15) (fun hHeld => ?_)
          clear hK K
          refine Go.wpAnyH_ready (rs := [17]) (by kernel_rfl) (by simp) ?_
          refine Go.AllReadyH.cons rfl (fun K hK => ?_) Go.AllReadyH.nil
          rw [if_pos (by rfl)]
          go_simp
          refine (knb.out _ hHeld.1.out).mono ?_
          rintro e v5_17 ⟨rfl, g5_17⟩
          refine hK.out _ _ (seen.out _ g5_17) (fun hHeld => ?_)
          clear hK K
          refine Go.wpAnyH_take (i := 18) (oi := _) (v := ?_) rfl (by kernel_rfl) (by kernel_rfl) (by kernel_rfl) (fun _ _ _ h => h) (Or.inl ⟨by rfl, ?_⟩) (by assumption) ?_
          rotate_left 1
          · intro wx hSw
            go_simp <;> with_reducible rfl
          simp only [Act.put, List.getElem_toArray, List.getElem_cons_zero, List.getElem_cons_succ, List.setIfInBounds_toArray, List.set_cons_zero, List.set_cons_succ]
          refine Go.wpAnyH_take (i := 19) (oi := _) (v := ?_) rfl (by kernel_rfl) (by kernel_rfl) (by kernel_rfl) (fun _ _ _ h => h) (Or.inl ⟨by rfl, ?_⟩) (by assumption) ?_
          rotate_left 1
          · intro wx hSw
            go_simp <;> with_reducible rfl
          simp only [Act.put, List.getElem_toArray, List.getElem_cons_zero, List.getElem_cons_succ, List.setIfInBounds_toArray, List.set_cons_zero, List.set_cons_succ]
          refine Go.wpAnyH_take (i := 20) (oi := _) (v := ?_) rfl (by kernel_rfl) (by kernel_rfl) (by kernel_rfl) (fun _ _ _ h => h) (Or.inl ⟨by rfl, ?_⟩) (by assumption) ?_
          rotate_left 1
          · intro wx hSw
            go_simp <;> with_reducible rfl
          simp only [Act.put, List.getElem_toArray, List.getElem_cons_zero, List.getElem_cons_succ, List.setIfInBounds_toArray, List.set_cons_zero, List.set_cons_succ]
          refine Go.wpAnyH_done (by kernel_rfl) ?_ _
          have H5 := Lib.hid hHeld.1.out
          obtain ⟨-, x0, x1, x2, x3, x4, x5, x6, x7, x8, x9, x10, x11, x12, x13, x14⟩ := hHeld
          go_wp2_with fail
          refine (cA.out _ (LQ.out _ H5.out)).mono ?_
          rintro e wz ⟨rfl, qz⟩
          clear x0 x1 x2 x3 x4 x5 x6 x7 x8 x9 x10 x11 x12 x13 x14
          go_wp2_with fail
          go_ret
          exact ⟨rfl, (LQ.out _ H5.out).trans qz⟩
        · have hN : NB ≤ NA := TN.out rfl
          have n1 : decide (NA < NB) = false := decide_eq_false (by omega)
          have n2 : decide ((NA : Int) < (NB : Int)) = false := decide_eq_false (by omega)
          clear hN
          obtain rfl : AC = true := TR.out rfl rfl
          obtain rfl : EQ = true := TK.out rfl rfl
          clear TR TE TK TN
          obtain ⟨D, hD⟩ : ∃ x, wb3.heap.size = x := ⟨_, rfl⟩
          obtain ⟨wd, hwd⟩ : ∃ x, wb3.alloc (.cells #[.int .i64 ak, .int .i64 an, .string as', .slice A3 an3 k3, .slice A4 an4 k4, .int .i64 bk, .int .i64 bn, .string bs, .slice B3 bn3 l3, .slice B4 bn4 l4, .int .i64 ck, .int .i64 cn, .string cs, .slice C3 cn3 m3, .slice C4 cn4 m4] 26) = x := ⟨_, rfl⟩
          have LD : Hid (L wd) := Lib.hid (by rw [← hwd]; exact stays.out _ _ L0.out (Q.box _ _))
          have cVd := Lib.hid (cVal.out wd D (LQ.out _ LD.out) (by rw [← hwd, ← hD]; exact Bk.new _ _ _))
          go_enter Tryz.func8, Tryz.ntmps8
          go_wp2_with fail
          refine (cVd.out).mono ?_
          rintro e w_1 ⟨rfl, q1⟩
          have H1 := Lib.hid (stays.out _ _ LD.out q1)
          clear x0 x1 x2 x3 x4 x5 x6 x7 x8 x9 x10 x11 x12 x13 x14 q1 hwd hD
          obtain ⟨-, x0, x1, x2, x3, x4, x5, x6, x7, x8, x9, x10, x11, x12, x13, x14⟩ := seen.out _ H1.out
          go_wp2_with fail
          clear x0 x1 x2 x3 x4 x5 x6 x7 x8 x9 x10 x11 x12 x13 x14
          refine Go.wp_region_held_drew (S := (fun w' => Hid (L w') ∧ w'.cell? ⟨P1, 0, none⟩ = some (.int .i64 ak) ∧ w'.cell? ⟨P1, 1, none⟩ = some (.int .i64 an) ∧ w'.cell? ⟨P1, 2, none⟩ = some (.string as') ∧ w'.cell? ⟨P1, 3, none⟩ = some (.slice A3 an3 k3) ∧ w'.cell? ⟨P1, 4, none⟩ = some (.slice A4 an4 k4) ∧ w'.cell? ⟨P2, 0, none⟩ = some (.int .i64 bk) ∧ w'.cell? ⟨P2, 1, none⟩ = some (.int .i64 bn) ∧ w'.cell? ⟨P2, 2, none⟩ = some (.string bs) ∧ w'.cell? ⟨P2, 3, none⟩ = some (.slice B3 bn3 l3) ∧ w'.cell? ⟨P2, 4, none⟩ = some (.slice B4 bn4 l4) ∧ w'.cell? ⟨P3, 0, none⟩ = some (.int .i64 ck) ∧ w'.cell? ⟨P3, 1, none⟩ = some (.int .i64 cn) ∧ w'.cell? ⟨P3, 2, none⟩ = some (.string cs) ∧ w'.cell? ⟨P3, 3, none⟩ = some (.slice C3 cn3 m3) ∧ w'.cell? ⟨P3, 4, none⟩ = some (.slice C4 cn4 m4))) (by kernel_rfl) (seen.out _ (stays.out _ _ H1.out (Q.drewN _ 1))) (fun hHeld => ?_)
          refine Go.wpAnyH_take (i := 0) (oi := _) (v := ?_) rfl (by kernel_rfl) (by kernel_rfl) (by kernel_rfl) (fun _ _ _ h => h) (Or.inl ⟨by rfl, ?_⟩) (by assumption) ?_
          rotate_left 1
          · intro wx hSw
            go_simp <;> with_reducible rfl
          simp only [Act.put, List.getElem_toArray, List.getElem_cons_zero, List.setIfInBounds_toArray, List.set_cons_zero, List.set_cons_succ]
          refine Go.wpAnyH_take (i := 1) (oi := _) (v := ?_) rfl (by kernel_rfl) (by kernel_rfl) (by kernel_rfl) (fun _ _ _ h => h) (Or.inl ⟨by rfl, ?_⟩) (by assumption) ?_
          rotate_left 1
          · intro wx hSw
            go_simp <;> with_reducible rfl
          simp only [Act.put, List.getElem_toArray, List.getElem_cons_zero, List.getElem_cons_succ, List.setIfInBounds_toArray, List.set_cons_zero, List.set_cons_succ]
          refine Go.wpAnyH_take (i := 3) (oi := _) (v := ?_) rfl (by kernel_rfl) (by kernel_rfl) (by kernel_rfl) (fun _ _ _ h => h) (Or.inl ⟨by rfl, ?_⟩) (by assumption) ?_
          rotate_left 1
          · intro wx hSw
            go_simp <;> with_reducible rfl
          simp only [Act.put, List.getElem_toArray, List.getElem_cons_zero, List.getElem_cons_succ, List.setIfInBounds_toArray, List.set_cons_zero, List.set_cons_succ]
          refine Go.wpAnyH_take (i := 4) (oi := _) (v := ?_) rfl (by kernel_rfl) (by kernel_rfl) (by kernel_rfl) (fun _ _ _ h => h) (Or.inl ⟨by rfl, ?_⟩) (by assumption) ?_
          rotate_left 1
          · intro wx hSw
            go_simp <;> with_reducible rfl
          simp only [Act.put, List.getElem_toArray, List.getElem_cons_zero, List.getElem_cons_succ, List.setIfInBounds_toArray, List.set_cons_zero, List.set_cons_succ]
          refine Go.wpAnyH_ready (rs := [2]) (by kernel_rfl) (by simp) ?_
          refine Go.AllReadyH.cons rfl (fun K hK => ?_) Go.AllReadyH.nil
          rw [if_pos (by rfl)]
          go_simp
          refine (kab.out _ hHeld.1.out).mono ?_
          rintro e v2_2 ⟨rfl, g2_2⟩
          refine hK.out _ _ (seen.out _ g2_2) (fun hHeld => ?_)
          clear hK K
          refine Go.wpAnyH_ready (rs := [5]) (by kernel_rfl) (by simp) ?_
          refine Go.AllReadyH.cons rfl (fun K hK => ?_) Go.AllReadyH.nil
          rw [if_pos (by rfl)]
          go_simp
          refine (kbc.out _ hHeld.1.out).mono ?_
          rintro e v2_5 ⟨rfl, g2_5⟩
          refine hK.out _ _ (seen.out _ g2_5) (fun hHeld => ?_)
          clear hK K
          refine Go.wpAnyH_take (i := 6) (oi := _) (v := ?_) rfl (by kernel_rfl) (by kernel_rfl) (by kernel_rfl) (fun _ _ _ h => h) (Or.inl ⟨by rfl, ?_⟩) (by assumption) ?_
          rotate_left 1
          · intro wx hSw
            go_simp <;> with_reducible rfl
          simp only [Act.put, List.getElem_toArray, List.getElem_cons_zero, List.getElem_cons_succ, List.setIfInBounds_toArray, List.set_cons_zero, List.set_cons_succ]
          refine Go.wpAnyH_take (i := 7) (oi := _) (v := ?_) rfl (by kernel_rfl) (by kernel_rfl) (by kernel_rfl) (fun _ _ _ h => h) (Or.inl ⟨by rfl, ?_⟩) (by assumption) ?_
          rotate_left 1
          · intro wx hSw
            go_simp <;> with_reducible rfl
          simp only [Act.put, List.getElem_toArray, List.getElem_cons_zero, List.getElem_cons_succ, List.setIfInBounds_toArray, List.set_cons_zero, List.set_cons_succ]
          refine Go.wpAnyH_done (by kernel_rfl) ?_ _
          have H2 := Lib.hid hHeld.1.out
          obtain ⟨-, x0, x1, x2, x3, x4, x5, x6, x7, x8, x9, x10, x11, x12, x13, x14⟩ := hHeld
          go_wp2_with fail
          clear x0 x1 x2 x3 x4 x5 x6 x7 x8 x9 x10 x11 x12 x13 x14
          refine Go.wp_region_held_drew (S := (fun w' => Hid (L w') ∧ w'.cell? ⟨P1, 0, none⟩ = some (.int .i64 ak) ∧ w'.cell? ⟨P1, 1, none⟩ = some (.int .i64 an) ∧ w'.cell? ⟨P1, 2, none⟩ = some (.string as') ∧ w'.cell? ⟨P1, 3, none⟩ = some (.slice A3 an3 k3) ∧ w'.cell? ⟨P1, 4, none⟩ = some (.slice A4 an4 k4) ∧ w'.cell? ⟨P2, 0, none⟩ = some (.int .i64 bk) ∧ w'.cell? ⟨P2, 1, none⟩ = some (.int .i64 bn) ∧ w'.cell? ⟨P2, 2, none⟩ = some (.string bs) ∧ w'.cell? ⟨P2, 3, none⟩ = some (.slice B3 bn3 l3) ∧ w'.cell? ⟨P2, 4, none⟩ = some (.slice B4 bn4 l4) ∧ w'.cell? ⟨P3, 0, none⟩ = some (.int .i64 ck) ∧ w'.cell? ⟨P3, 1, none⟩ = some (.int .i64 cn) ∧ w'.cell? ⟨P3, 2, none⟩ = some (.string cs) ∧ w'.cell? ⟨P3, 3, none⟩ = some (.slice C3 cn3 m3) ∧ w'.cell? ⟨P3, 4, none⟩ = some (.slice C4 cn4 m4))) (by kernel_rfl) (seen.out _ (stays.out _ _ H2.out (Q.drewN _ 1))) (fun hHeld => ?_)
          refine Go.wpAnyH_take (i := 0) (oi := _) (v := ?_) rfl (by kernel_rfl) (by kernel_rfl) (by kernel_rfl) (fun _ _ _ h => h) (Or.inl ⟨by rfl, ?_⟩) (by assumption) ?_
          rotate_left 1
          · intro wx hSw
            go_simp <;> with_reducible rfl
          simp only [Act.put, List.getElem_toArray, List.getElem_cons_zero, List.setIfInBounds_toArray, List.set_cons_zero, List.set_cons_succ]
          refine Go.wpAnyH_take (i := 1) (oi := _) (v := ?_) rfl (by kernel_rfl) (by kernel_rfl) (by kernel_rfl) (fun _ _ _ h => h) (Or.inl ⟨by rfl, ?_⟩) (by assumption) ?_
          rotate_left 1
          · intro wx hSw
            go_simp <;> with_reducible rfl
          simp only [Act.put, List.getElem_toArray, List.getElem_cons_zero, List.getElem_cons_succ, List.setIfInBounds_toArray, List.set_cons_zero, List.set_cons_succ]
          refine Go.wpAnyH_ready (rs := [2]) (by kernel_rfl) (by simp) ?_
          refine Go.AllReadyH.cons rfl (fun K hK => ?_) Go.AllReadyH.nil
          rw [if_pos (by rfl)]
          go_simp
          refine (kaa.out _ hHeld.1.out).mono ?_
          rintro e v3_2 ⟨rfl, g3_2⟩
          refine hK.out _ _ (seen.out _ g3_2) (fun hHeld => ?_)
          clear hK K
          refine Go.wpAnyH_take (i := 3) (oi := _) (v := ?_) rfl (by kernel_rfl) (by kernel_rfl) (by kernel_rfl) (fun _ _ _ h => h) (Or.inl ⟨by rfl, ?_⟩) (by assumption) ?_
          rotate_left 1
          · intro wx hSw
            go_simp <;> with_reducible rfl
          simp only [Act.put, List.getElem_toArray, List.getElem_cons_zero, List.getElem_cons_succ, List.setIfInBounds_toArray, List.set_cons_zero, List.set_cons_succ]
          refine Go.wpAnyH_take (i := 4) (oi := _) (v := ?_) rfl (by kernel_rfl) (by kernel_rfl) (by kernel_rfl) (fun _ _ _ h => h) (Or.inl ⟨by rfl, ?_⟩) (by assumption) ?_
          rotate_left 1
          · intro wx hSw
            go_simp <;> with_reducible rfl
          simp only [Act.put, List.getElem_toArray, List.getElem_cons_zero, List.getElem_cons_succ, List.setIfInBounds_toArray, List.set_cons_zero, List.set_cons_succ]
          refine Go.wpAnyH_take (i := 5) (oi := _) (v := ?_) rfl (by kernel_rfl) (by kernel_rfl) (by kernel_rfl) (fun _ _ _ h => h) (Or.inl ⟨by rfl, ?_⟩) (by assumption) ?_
          rotate_left 1
          · intro wx hSw
            go_simp <;> with_reducible rfl
          simp only [Act.put, List.getElem_toArray, List.getElem_cons_zero, List.getElem_cons_succ, List.setIfInBounds_toArray, List.set_cons_zero, List.set_cons_succ]
          refine Go.wpAnyH_ready (rs := [6]) (by kernel_rfl) (by simp) ?_
          refine Go.AllReadyH.cons rfl (fun K hK => ?_) Go.AllReadyH.nil
          rw [if_pos (by rfl)]
          go_simp
          refine (kU.out _ hHeld.1.out).mono ?_
          rintro e v3_6 ⟨U3, u3, U4, u4, rfl, g3_6⟩
          refine hK.out _ _ (seen.out _ g3_6) (fun hHeld => ?_)
          clear hK K
          refine Go.wpAnyH_ready (rs := [7]) (by kernel_rfl) (by simp) ?_
          refine Go.AllReadyH.cons rfl (fun K hK => ?_) Go.AllReadyH.nil
          rw [if_pos (by rfl)]
          go_simp
          refine (kaU.out _ hHeld.1.out U3 u3 U4 u4).mono ?_
          rintro e v3_7 ⟨rfl, g3_7⟩
          refine hK.out _ _ (seen.out _ g3_7) (fun hHeld => ?_)
          clear hK K
          refine Go.wpAnyH_take (i := 8) (oi := _) (v := ?_) rfl (by kernel_rfl) (by kernel_rfl) (by kernel_rfl) (fun _ _ _ h => h) (Or.inl ⟨by rfl, ?_⟩) (by assumption) ?_
          rotate_left 1
          · intro wx hSw
            go_simp <;> with_reducible rfl
          simp only [Act.put, List.getElem_toArray, List.getElem_cons_zero, List.getElem_cons_succ, List.setIfInBounds_toArray, List.set_cons_zero, List.set_cons_succ]
          refine Go.wpAnyH_take (i := 9) (oi := _) (v := ?_) rfl (by kernel_rfl) (by kernel_rfl) (by kernel_rfl) (fun _ _ _ h => h) (Or.inl ⟨by rfl, ?_⟩) (by assumption) ?_
          rotate_left 1
          · intro wx hSw
            go_simp <;> with_reducible rfl
          simp only [Act.put, List.getElem_toArray, List.getElem_cons_zero, List.getElem_cons_succ, List.setIfInBounds_toArray, List.set_cons_zero, List.set_cons_succ]
          refine Go.wpAnyH_take (i := 10) (oi := _) (v := ?_) rfl (by kernel_rfl) (by kernel_rfl) (by kernel_rfl) (fun _ _ _ h => h) (Or.inl ⟨by rfl, ?_⟩) (by assumption) ?_
          rotate_left 1
          · intro wx hSw
            go_simp <;> with_reducible rfl
          simp only [Act.put, List.getElem_toArray, List.getElem_cons_zero, List.getElem_cons_succ, List.setIfInBounds_toArray, List.set_cons_zero, List.set_cons_succ]
          refine Go.wpAnyH_take (i := 11) (oi := _) (v := ?_) rfl (by kernel_rfl) (by kernel_rfl) (by kernel_rfl) (fun _ _ _ h => h) (Or.inl ⟨by rfl, ?_⟩) (by assumption) ?_
          rotate_left 1
          · intro wx hSw
            go_simp <;> with_reducible rfl
          simp only [Act.put, List.getElem_toArray, List.getElem_cons_zero, List.getElem_cons_succ, List.setIfInBounds_toArray, List.set_cons_zero, List.set_cons_succ]
          refine Go.wpAnyH_take (i := 12) (oi := _) (v := ?_) rfl (by kernel_rfl) (by kernel_rfl) (by kernel_rfl) (fun _ _ _ h => h) (Or.inl ⟨by rfl, ?_⟩) (by assumption) ?_
          rotate_left 1
          · intro wx hSw
            go_simp <;> with_reducible rfl
          simp only [Act.put, List.getElem_toArray, List.getElem_cons_zero, List.getElem_cons_succ, List.setIfInBounds_toArray, List.set_cons_zero, List.set_cons_succ]
          refine Go.wpAnyH_take (i := 13) (oi := _) (v := ?_) rfl (by kernel_rfl) (by kernel_rfl) (by kernel_rfl) (fun _ _ _ h => h) (Or.inl ⟨by rfl, ?_⟩) (by assumption) ?_
          rotate_left 1
          · intro wx hSw
            go_simp <;> with_reducible rfl
          simp only [Act.put, List.getElem_toArray, List.getElem_cons_zero, List.getElem_cons_succ, List.setIfInBounds_toArray, List.set_cons_zero, List.set_cons_succ]
          refine Go.wpAnyH_take (i := 14) (oi := _) (v := ?_) rfl (by kernel_rfl) (by kernel_rfl) (by kernel_rfl) (fun _ _ _ h => h) (Or.inl ⟨by rfl, ?_⟩) (by assumption) ?_
          rotate_left 1
          · intro wx hSw
            go_simp <;> with_reducible rfl
          simp only [Act.put, List.getElem_toArray, List.getElem_cons_zero, List.getElem_cons_succ, List.setIfInBounds_toArray, List.set_cons_zero, List.set_cons_succ]
          refine Go.wpAnyH_take (i := 15) (oi := _) (v := ?_) rfl (by kernel_rfl) (by kernel_rfl) (by kernel_rfl) (fun _ _ _ h => h) (Or.inl ⟨by rfl, ?_⟩) (by assumption) ?_
          rotate_left 1
          · intro wx hSw
            go_simp <;> with_reducible rfl
          simp only [Act.put, List.getElem_toArray, List.getElem_cons_zero, List.getElem_cons_succ, List.setIfInBounds_toArray, List.set_cons_zero, List.set_cons_succ]
          refine Go.wpAnyH_take (i := 16) (oi := _) (v := ?_) rfl (by kernel_rfl) (by kernel_rfl) (by kernel_rfl) (fun _ _ _ h => h) (Or.inl ⟨by rfl, ?_⟩) (by assumption) ?_
          rotate_left 1
          · intro wx hSw
            go_simp <;> with_reducible rfl
          simp only [Act.put, List.getElem_toArray, List.getElem_cons_zero, List.getElem_cons_succ, List.setIfInBounds_toArray, List.set_cons_zero, List.set_cons_succ]
          refine Go.wpAnyH_take (i := 17) (oi := _) (v := ?_) rfl (by kernel_rfl) (by kernel_rfl) (by kernel_rfl) (fun _ _ _ h => h) (Or.inl ⟨by rfl, ?_⟩) (by assumption) ?_
          rotate_left 1
          · intro wx hSw
            go_simp <;> with_reducible rfl
          simp only [Act.put, List.getElem_toArray, List.getElem_cons_zero, List.getElem_cons_succ, List.setIfInBounds_toArray, List.set_cons_zero, List.set_cons_succ]
          refine Go.wpAnyH_ready (rs := [18]) (by kernel_rfl) (by simp) ?_
          refine Go.AllReadyH.cons rfl (fun K hK => ?_) Go.AllReadyH.nil
          rw [if_pos (by rfl)]
          go_simp
          refine (kac.out _ hHeld.1.out).mono ?_
          rintro e v3_18 ⟨rfl, g3_18⟩
          refine hK.out _ _ (seen.out _ g3_18) (fun hHeld => ?_)
          clear hK K
          refine Go.wpAnyH_take (i := 19) (oi := _) (v := ?_) rfl (by kernel_rfl) (by kernel_rfl) (by kernel_rfl) (fun _ _ _ h => h) (Or.inl ⟨by rfl, ?_⟩) (by assumption) ?_
          rotate_left 1
          · intro wx hSw
            go_simp <;> with_reducible rfl
          simp only [Act.put, List.getElem_toArray, List.getElem_cons_zero, List.getElem_cons_succ, List.setIfInBounds_toArray, List.set_cons_zero, List.set_cons_succ]
          refine Go.wpAnyH_take (i := 20) (oi := _) (v := ?_) rfl (by kernel_rfl) (by kernel_rfl) (by kernel_rfl) (fun _ _ _ h => h) (Or.inl ⟨by rfl, ?_⟩) (by assumption) ?_
          rotate_left 1
          · intro wx hSw
            go_simp <;> with_reducible rfl
          simp only [Act.put, List.getElem_toArray, List.getElem_cons_zero, List.getElem_cons_succ, List.setIfInBounds_toArray, List.set_cons_zero, List.set_cons_succ]
          refine Go.wpAnyH_take (i := 21) (oi := _) (v := ?_) rfl (by kernel_rfl) (by kernel_rfl) (by kernel_rfl) (fun _ _ _ h => h) (Or.inl ⟨by rfl, ?_⟩) (by assumption) ?_
          rotate_left 1
          · intro wx hSw
            go_simp <;> with_reducible rfl
          simp only [Act.put, List.getElem_toArray, List.getElem_cons_zero, List.getElem_cons_succ, List.setIfInBounds_toArray, List.set_cons_zero, List.set_cons_succ]
          refine Go.wpAnyH_done (by kernel_rfl) ?_ _
          have H3 := Lib.hid hHeld.1.out
          obtain ⟨-, x0, x1, x2, x3, x4, x5, x6, x7, x8, x9, x10, x11, x12, x13, x14⟩ := hHeld
          go_wp2_with fail
          refine (kba.out _ H3.out).mono ?_
          rintro e w_4 ⟨rfl, h4⟩
          have H4 := Lib.hid h4
          clear x0 x1 x2 x3 x4 x5 x6 x7 x8 x9 x10 x11 x12 x13 x14 h4
          obtain ⟨-, x0, x1, x2, x3, x4, x5, x6, x7, x8, x9, x10, x11, x12, x13, x14⟩ := seen.out _ H4.out
          go_wp2_with fail
          clear x0 x1 x2 x3 x4 x5 x6 x7 x8 x9 x10 x11 x12 x13 x14
          refine Go.wp_region_held_drew (S := (fun w' => Hid (L w') ∧ w'.cell? ⟨P1, 0, none⟩ = some (.int .i64 ak) ∧ w'.cell? ⟨P1, 1, none⟩ = some (.int .i64 an) ∧ w'.cell? ⟨P1, 2, none⟩ = some (.string as') ∧ w'.cell? ⟨P1, 3, none⟩ = some (.slice A3 an3 k3) ∧ w'.cell? ⟨P1, 4, none⟩ = some (.slice A4 an4 k4) ∧ w'.cell? ⟨P2, 0, none⟩ = some (.int .i64 bk) ∧ w'.cell? ⟨P2, 1, none⟩ = some (.int .i64 bn) ∧ w'.cell? ⟨P2, 2, none⟩ = some (.string bs) ∧ w'.cell? ⟨P2, 3, none⟩ = some (.slice B3 bn3 l3) ∧ w'.cell? ⟨P2, 4, none⟩ = some (.slice B4 bn4 l4) ∧ w'.cell? ⟨P3, 0, none⟩ = some (.int .i64 ck) ∧ w'.cell? ⟨P3, 1, none⟩ = some (.int .i64 cn) ∧ w'.cell? ⟨P3, 2, none⟩ = some (.string cs) ∧ w'.cell? ⟨P3, 3, none⟩ = some (.slice C3 cn3 m3) ∧ w'.cell? ⟨P3, 4, none⟩ = some (.slice C4 cn4 m4))) (by kernel_rfl) (seen.out _ (stays.out _ _ H4.out (Q.drewN _ 1))) (fun hHeld => ?_)
          refine Go.wpAnyH_take (i := 0) (oi := _) (v := ?_) rfl (by kernel_rfl) (by kernel_rfl) (by kernel_rfl) (fun _ _ _ h => h) (Or.inl ⟨by rfl, ?_⟩) (by assumption) ?_
          rotate_left 1
          · intro wx hSw
            go_simp <;> with_reducible rfl
          simp only [Act.put, List.getElem_toArray, List.getElem_cons_zero, List.setIfInBounds_toArray, List.set_cons_zero, List.set_cons_succ]
          refine Go.wpAnyH_take (i := 1) (oi := _) (v := ?_) rfl (by kernel_rfl) (by kernel_rfl) (by kernel_rfl) (fun _ _ _ h => h) (Or.inl ⟨by rfl, ?_⟩) (by assumption) ?_
          rotate_left 1
          · intro wx hSw
            go_simp <;> with_reducible rfl
          simp only [Act.put, List.getElem_toArray, List.getElem_cons_zero, List.getElem_cons_succ, List.setIfInBounds_toArray, List.set_cons_zero, List.set_cons_succ]
          refine Go.wpAnyH_take (i := 2) (oi := _) (v := ?_) rfl (by kernel_rfl) (by kernel_rfl) (by kernel_rfl) (fun _ _ _ h => h) (Or.inl ⟨by rfl, ?_⟩) (by assumption) ?_
          rotate_left 1
          · intro wx hSw
            go_simp <;> with_reducible rfl
          simp only [Act.put, List.getElem_toArray, List.getElem_cons_zero, List.getElem_cons_succ, List.setIfInBounds_toArray, List.set_cons_zero, List.set_cons_succ]
          refine Go.wpAnyH_ready (rs := [3]) (by kernel_rfl) (by simp) ?_
          refine Go.AllReadyH.cons rfl (fun K hK => ?_) Go.AllReadyH.nil
          rw [if_pos (by rfl)]
          go_simp
          refine (kkb.out _ hHeld.1.out).mono ?_
          rintro e v5_3 ⟨rfl, g5_3⟩
          refine hK.out _ _ (seen.out _ g5_3) (fun hHeld => ?_)
          clear hK K
          refine Go.wpAnyH_take (i := 4) (oi := _) (v := ?_) rfl (by kernel_rfl) (by kernel_rfl) (by kernel_rfl) (fun _ _ _ h => h) (Or.inl ⟨by rfl, ?_⟩) (by assumption) ?_
          rotate_left 1
          · intro wx hSw
            go_simp <;> with_reducible rfl
          simp only [Act.put, List.getElem_toArray, List.getElem_cons_zero, List.getElem_cons_succ, List.setIfInBounds_toArray, List.set_cons_zero, List.set_cons_succ]
          refine Go.wpAnyH_take (i := 5) (oi := _) (v := ?_) rfl (by kernel_rfl) (by kernel_rfl) (by kernel_rfl) (fun _ _ _ h => h) (Or.inl ⟨by rfl, ?_⟩) (by assumption) ?_
          rotate_left 1
          · intro wx hSw
            go_simp <;> with_reducible rfl
          simp only [Act.put, List.getElem_toArray, List.getElem_cons_zero, List.getElem_cons_succ, List.setIfInBounds_toArray, List.set_cons_zero, List.set_cons_succ]
          refine Go.wpAnyH_take (i := 6) (oi := _) (v := ?_) rfl (by kernel_rfl) (by kernel_rfl) (by kernel_rfl) (fun _ _ _ h => h) (Or.inl ⟨by rfl, ?_⟩) (by assumption) ?_
          rotate_left 1
          · intro wx hSw
            go_simp <;> with_reducible rfl
          simp only [Act.put, List.getElem_toArray, List.getElem_cons_zero, List.getElem_cons_succ, List.setIfInBounds_toArray, List.set_cons_zero, List.set_cons_succ]
          refine Go.wpAnyH_take (i := 7) (oi := _) (v := ?_) rfl (by kernel_rfl) (by kernel_rfl) (by kernel_rfl) (fun _ _ _ h => h) (Or.inl ⟨by rfl, ?_⟩) (by assumption) ?_
          rotate_left 1
          · intro wx hSw
            go_simp <;> with_reducible rfl
          simp only [Act.put, List.getElem_toArray, List.getElem_cons_zero, List.getElem_cons_succ, List.setIfInBounds_toArray, List.set_cons_zero, List.set_cons_succ]
          refine Go.wpAnyH_ready (rs := [8]) (by kernel_rfl) (by simp) ?_
          refine Go.AllReadyH.cons rfl (fun K hK => ?_) Go.AllReadyH.nil
          rw [if_pos (by rfl)]
          go_simp
          refine (eab.out _ hHeld.1.out).mono ?_
          rintro e v5_8 ⟨rfl, g5_8⟩
          refine hK.out _ _ (seen.out _ g5_8) (fun hHeld => ?_)
          clear hK K
          refine Go.wpAnyH_take (i := 9) (oi := _) (v := ?_) rfl (by kernel_rfl) (by kernel_rfl) (by kernel_rfl) (fun _ _ _ h => h) (Or.inl ⟨by rfl, ?_⟩) (by assumption) ?_
          rotate_left 1
          · intro wx hSw
            go_simp <;> with_reducible rfl
          simp only [Act.put, List.getElem_toArray, List.getElem_cons_zero, List.getElem_cons_succ, List.setIfInBounds_toArray, List.set_cons_zero, List.set_cons_succ]
          refine Go.wpAnyH_take (i := 10) (oi := _) (v := ?_) rfl (by kernel_rfl) (by kernel_rfl) (by kernel_rfl) (fun _ _ _ h => h) (Or.inl ⟨by rfl, ?_⟩) (by assumption) ?_
          rotate_left 1
          · intro wx hSw
            go_simp <;> with_reducible rfl
          simp only [Act.put, List.getElem_toArray, List.getElem_cons_zero, List.getElem_cons_succ, List.setIfInBounds_toArray, List.set_cons_zero, List.set_cons_succ]
          refine Go.wpAnyH_take (i := 11) (oi := _) (v := ?_) rfl (by kernel_rfl) (by kernel_rfl) (by kernel_rfl) (fun _ _ _ h => h) (Or.inl ⟨by rfl, ?_⟩) (by assumption) ?_
          rotate_left 1
          · intro wx hSw
            go_simp <;> with_reducible rfl
          simp only [Act.put, List.getElem_toArray, List.getElem_cons_zero, List.getElem_cons_succ, List.setIfInBounds_toArray, List.set_cons_zero, List.set_cons_succ]
          refine Go.wpAnyH_take (i := 12) (oi := _) (v := ?_) rfl (by kernel_rfl) (by kernel_rfl) (by kernel_rfl) (fun _ _ _ h => h) (Or.inl ⟨by rfl, ?_⟩) (by assumption) ?_
          rotate_left 1
          · intro wx hSw
            go_simp <;> with_reducible rfl
          simp only [Act.put, List.getElem_toArray, List.getElem_cons_zero, List.getElem_cons_succ, List.setIfInBounds_toArray, List.set_cons_zero, List.set_cons_succ]
          refine Go.wpAnyH_take (i := 13) (oi := _) (v := ?_) rfl (by kernel_rfl) (by kernel_rfl) (by kernel_rfl) (fun _ _ _ h => h) (Or.inl ⟨by rfl, ?_⟩) (by assumption) ?_
          rotate_left 1
          · intro wx hSw
            go_simp <;> with_reducible rfl
          simp only [Act.put, List.getElem_toArray, List.getElem_cons_zero, List.getElem_cons_succ, List.setIfInBounds_toArray, List.set_cons_zero, List.set_cons_succ]
          refine Go.wpAnyH_take (i := 14) (oi := _) (v := ?_) rfl (by kernel_rfl) (by kernel_rfl) (by kernel_rfl) (fun _ _ _ h => h) (Or.inl ⟨by rfl, ?_⟩) (by assumption) ?_
          rotate_left 1
          · intro wx hSw
            go_simp <;> with_reducible rfl
          simp only [Act.put, List.getElem_toArray, List.getElem_cons_zero, List.getElem_cons_succ, List.setIfInBounds_toArray, List.set_cons_zero, List.set_cons_succ]
          refine Go.wpAnyH_take (i := 16) (oi := _) (v := ?_) rfl (by kernel_rfl) (by kernel_rfl) (by kernel_rfl) (fun _ _ _ h => h) (Or.inl ⟨by rfl, ?_⟩) (by assumption) ?_
          rotate_left 1
          · intro wx hSw
            go_simp <;> with_reducible rfl
          simp only [Act.put, List.getElem_toArray, List.getElem_cons_zero, List.getElem_cons_succ, List.setIfInBounds_toArray, List.set_cons_zero, List.set_cons_succ]
          refine Go.wpAnyH_ready (rs := [15]) (by kernel_rfl) (by simp) ?_
          refine Go.AllReadyH.cons rfl (fun K hK => ?_) Go.AllReadyH.nil
          rw [if_pos (by rfl)]
          go_simp
          refine (kna.out _ hHeld.1.out).mono ?_
          rintro e v5_15 ⟨rfl, g5_15⟩
          refine hK.out _ _ (seen.out _ g5_15) (fun hHeld => ?_)
          clear hK K
          refine Go.wpAnyH_ready (rs := [17]) (by kernel_rfl) (by simp) ?_
          refine Go.AllReadyH.cons rfl (fun K hK => ?_) Go.AllReadyH.nil
          rw [if_pos (by rfl)]
          go_simp
          refine (knb.out _ hHeld.1.out).mono ?_
          rintro e v5_17 ⟨rfl, g5_17⟩
          refine hK.out _ _ (seen.out _ g5_17) (fun hHeld => ?_)
          clear hK K
          refine Go.wpAnyH_take (i := 18) (oi := _) (v := ?_) rfl (by kernel_rfl) (by kernel_rfl) (by kernel_rfl) (fun _ _ _ h => h) (Or.inl ⟨by rfl, ?_⟩) (by assumption) ?_
          rotate_left 1
          · intro wx hSw
            go_simp <;> with_reducible rfl
          simp only [Act.put, List.getElem_toArray, List.getElem_cons_zero, List.getElem_cons_succ, List.setIfInBounds_toArray, List.set_cons_zero, List.set_cons_succ]
          refine Go.wpAnyH_take (i := 19) (oi := _) (v := ?_) rfl (by kernel_rfl) (by kernel_rfl) (by kernel_rfl) (fun _ _ _ h => h) (Or.inl ⟨by rfl, ?_⟩) (by assumption) ?_
          rotate_left 1
          · intro wx hSw
            go_simp <;> with_reducible rfl
          simp only [Act.put, List.getElem_toArray, List.getElem_cons_zero, List.getElem_cons_succ, List.setIfInBounds_toArray, List.set_cons_zero, List.set_cons_succ]
          refine Go.wpAnyH_take (i := 20) (oi := _) (v := ?_) rfl (by kernel_rfl) (by kernel_rfl) (by kernel_rfl) (fun _ _ _ h => h) (Or.inl ⟨by rfl, ?_⟩) (by assumption) ?_
          rotate_left 1
          · intro wx hSw
            go_simp <;> with_reducible rfl
          simp only [Act.put, List.getElem_toArray, List.getElem_cons_zero, List.getElem_cons_succ, List.setIfInBounds_toArray, List.set_cons_zero, List.set_cons_succ]
          refine Go.wpAnyH_done (by kernel_rfl) ?_ _
          have H5 := Lib.hid hHeld.1.out
          obtain ⟨-, x0, x1, x2, x3, x4, x5, x6, x7, x8, x9, x10, x11, x12, x13, x14⟩ := hHeld
          go_wp2_with fail
          refine (cA.out _ (LQ.out _ H5.out)).mono ?_
          rintro e wz ⟨rfl, qz⟩
          clear x0 x1 x2 x3 x4 x5 x6 x7 x8 x9 x10 x11 x12 x13 x14
          go_wp2_with fail
          go_ret
          exact ⟨rfl, (LQ.out _ H5.out).trans qz⟩
      · cases KB
        · have hN : NB ≤ NA := TN.out rfl
          have n1 : decide (NA < NB) = false := decide_eq_false (by omega)
          have n2 : decide ((NA : Int) < (NB : Int)) = false := decide_eq_false (by omega)
          clear hN
          obtain rfl : AC = true := TR.out rfl rfl
          obtain rfl : EQ = true := TE.out rfl rfl
          clear TR TE TK TN
          obtain ⟨D, hD⟩ : ∃ x, wb3.heap.size = x := ⟨_, rfl⟩
          obtain ⟨wd, hwd⟩ : ∃ x, wb3.alloc (.cells #[.int .i64 ak, .int .i64 an, .string as', .slice A3 an3 k3, .slice A4 an4 k4, .int .i64 bk, .int .i64 bn, .string bs, .slice B3 bn3 l3, .slice B4 bn4 l4, .int .i64 ck, .int .i64 cn, .string cs, .slice C3 cn3 m3, .slice C4 cn4 m4] 26) = x := ⟨_, rfl⟩
          have LD : Hid (L wd) := Lib.hid (by rw [← hwd]; exact stays.out _ _ L0.out (Q.box _ _))
          have cVd := Lib.hid (cVal.out wd D (LQ.out _ LD.out) (by rw [← hwd, ← hD]; exact Bk.new _ _ _))
          go_enter Tryz.func8, Tryz.ntmps8
          go_wp2_with fail
          refine (cVd.out).mono ?_
          rintro e w_1 ⟨rfl, q1⟩
          have H1 := Lib.hid (stays.out _ _ LD.out q1)
          clear x0 x1 x2 x3 x4 x5 x6 x7 x8 x9 x10 x11 x12 x13 x14 q1 hwd hD
          obtain ⟨-, x0, x1, x2, x3, x4, x5, x6, x7, x8, x9, x10, x11, x12, x13, x14⟩ := seen.out _ H1.out
          go_wp2_with fail
          clear x0 x1 x2 x3 x4 x5 x6 x7 x8 x9 x10 x11 x12 x13 x14
          refine Go.wp_region_held_drew (S := (fun w' => Hid (L w') ∧ w'.cell? ⟨P1, 0, none⟩ = some (.int .i64 ak) ∧ w'.cell? ⟨P1, 1, none⟩ = some (.int .i64 an) ∧ w'.cell? ⟨P1, 2, none⟩ = some (.string as') ∧ w'.cell? ⟨P1, 3, none⟩ = some (.slice A3 an3 k3) ∧ w'.cell? ⟨P1, 4, none⟩ = some (.slice A4 an4 k4) ∧ w'.cell? ⟨P2, 0, none⟩ = some (.int .i64 bk) ∧ w'.cell? ⟨P2, 1, none⟩ = some (.int .i64 bn) ∧ w'.cell? ⟨P2, 2, none⟩ = some (.string bs) ∧ w'.cell? ⟨P2, 3, none⟩ = some (.slice B3 bn3 l3) ∧ w'.cell? ⟨P2, 4, none⟩ = some (.slice B4 bn4 l4) ∧ w'.cell? ⟨P3, 0, none⟩ = some (.int .i64 ck) ∧ w'.cell? ⟨P3, 1, none⟩ = some (.int .i64 cn) ∧ w'.cell? ⟨P3, 2, none⟩ = some (.string cs) ∧ w'.cell? ⟨P3, 3, none⟩ = some (.slice C3 cn3 m3) ∧ w'.cell? ⟨P3, 4, none⟩ = some (.slice C4 cn4 m4))) (by kernel_rfl) (seen.out _ (stays.out _ _ H1.out (Q.drewN _ 1))) (fun hHeld => ?_)
          refine Go.wpAnyH_take (i := 0) (oi := _) (v := ?_) rfl (by kernel_rfl) (by kernel_rfl) (by kernel_rfl) (fun _ _ _ h => h) (Or.inl ⟨by rfl, ?_⟩) (by assumption) ?_
          rotate_left 1
          · intro wx hSw
            go_simp <;> with_reducible rfl
          simp only [Act.put, List.getElem_toArray, List.getElem_cons_zero, List.setIfInBounds_toArray, List.set_cons_zero, List.set_cons_succ]
          refine Go.wpAnyH_take (i := 1) (oi := _) (v := ?_) rfl (by kernel_rfl) (by kernel_rfl) (by kernel_rfl) (fun _ _ _ h => h) (Or.inl ⟨by rfl, ?_⟩) (by assumption) ?_
          rotate_left 1
          · intro wx hSw
            go_simp <;> with_reducible rfl
          simp only [Act.put, List.getElem_toArray, List.getElem_cons_zero, List.getElem_cons_succ, List.setIfInBounds_toArray, List.set_cons_zero, List.set_cons_succ]
          refine Go.wpAnyH_take (i := 3) (oi := _) (v := ?_) rfl (by kernel_rfl) (by kernel_rfl) (by kernel_rfl) (fun _ _ _ h => h) (Or.inl ⟨by rfl, ?_⟩) (by assumption) ?_
          rotate_left 1
          · intro wx hSw
            go_simp <;> with_reducible rfl
          simp only [Act.put, List.getElem_toArray, List.getElem_cons_zero, List.getElem_cons_succ, List.setIfInBounds_toArray, List.set_cons_zero, List.set_cons_succ]
          refine Go.wpAnyH_take (i := 4) (oi := _) (v := ?_) rfl (by kernel_rfl) (by kernel_rfl) (by kernel_rfl) (fun _ _ _ h => h) (Or.inl ⟨by rfl, ?_⟩) (by assumption) ?_
          rotate_left 1
          · intro wx hSw
            go_simp <;> with_reducible rfl
          simp only [Act.put, List.getElem_toArray, List.getElem_cons_zero, List.getElem_cons_succ, List.setIfInBounds_toArray, List.set_cons_zero, List.set_cons_succ]
          refine Go.wpAnyH_ready (rs := [2]) (by kernel_rfl) (by simp) ?_
          refine Go.AllReadyH.cons rfl (fun K hK => ?_) Go.AllReadyH.nil
          rw [if_pos (by rfl)]
          go_simp
          refine (kab.out _ hHeld.1.out).mono ?_
          rintro e v2_2 ⟨rfl, g2_2⟩
          refine hK.out _ _ (seen.out _ g2_2) (fun hHeld => ?_)
          clear hK K
          refine Go.wpAnyH_ready (rs := [5]) (by kernel_rfl) (by simp) ?_
          refine Go.AllReadyH.cons rfl (fun K hK => ?_) Go.AllReadyH.nil
          rw [if_pos (by rfl)]
          go_simp
          refine (kbc.out _ hHeld.1.out).mono ?_
          rintro e v2_5 ⟨rfl, g2_5⟩
          refine hK.out _ _ (seen.out _ g2_5) (fun hHeld => ?_)
          clear hK K
          refine Go.wpAnyH_take (i := 6) (oi := _) (v := ?_) rfl (by kernel_rfl) (by kernel_rfl) (by kernel_rfl) (fun _ _ _ h => h) (Or.inl ⟨by rfl, ?_⟩) (by assumption) ?_
          rotate_left 1
          · intro wx hSw
            go_simp <;> with_reducible rfl
          simp only [Act.put, List.getElem_toArray, List.getElem_cons_zero, List.getElem_cons_succ, List.setIfInBounds_toArray, List.set_cons_zero, List.set_cons_succ]
          refine Go.wpAnyH_take (i := 7) (oi := _) (v := ?_) rfl (by kernel_rfl) (by kernel_rfl) (by kernel_rfl) (fun _ _ _ h => h) (Or.inl ⟨by rfl, ?_⟩) (by assumption) ?_
          rotate_left 1
          · intro wx hSw
            go_simp <;> with_reducible rfl
          simp only [Act.put, List.getElem_toArray, List.getElem_cons_zero, List.getElem_cons_succ, List.setIfInBounds_toArray, List.set_cons_zero, List.set_cons_succ]
          refine Go.wpAnyH_done (by kernel_rfl) ?_ _
          have H2 := Lib.hid hHeld.1.out
          obtain ⟨-, x0, x1, x2, x3, x4, x5, x6, x7, x8, x9, x10, x11, x12, x13, x14⟩ := hHeld
          go_wp2_with fail
          clear x0 x1 x2 x3 x4 x5 x6 x7 x8 x9 x10 x11 x12 x13 x14
          refine Go.wp_region_held_drew (S := (fun w' => Hid (L w') ∧ w'.cell? ⟨P1, 0, none⟩ = some (.int .i64 ak) ∧ w'.cell? ⟨P1, 1, none⟩ = some (.int .i64 an) ∧ w'.cell? ⟨P1, 2, none⟩ = some (.string as') ∧ w'.cell? ⟨P1, 3, none⟩ = some (.slice A3 an3 k3) ∧ w'.cell? ⟨P1, 4, none⟩ = some (.slice A4 an4 k4) ∧ w'.cell? ⟨P2, 0, none⟩ = some (.int .i64 bk) ∧ w'.cell? ⟨P2, 1, none⟩ = some (.int .i64 bn) ∧ w'.cell? ⟨P2, 2, none⟩ = some (.string bs) ∧ w'.cell? ⟨P2, 3, none⟩ = some (.slice B3 bn3 l3) ∧ w'.cell? ⟨P2, 4, none⟩ = some (.slice B4 bn4 l4) ∧ w'.cell? ⟨P3, 0, none⟩ = some (.int .i64 ck) ∧ w'.cell? ⟨P3, 1, none⟩ = some (.int .i64 cn) ∧ w'.cell? ⟨P3, 2, none⟩ = some (.string cs) ∧ w'.cell? ⟨P3, 3, none⟩ = some (.slice C3 cn3 m3) ∧ w'.cell? ⟨P3, 4, none⟩ = some (.slice C4 cn4 m4))) (by kernel_rfl) (seen.out _ (stays.out _ _ H2.out (Q.drewN _ 1))) (fun hHeld => ?_)
          refine Go.wpAnyH_take (i := 0) (oi := _) (v := ?_) rfl (by kernel_rfl) (by kernel_rfl) (by kernel_rfl) (fun _ _ _ h => h) (Or.inl ⟨by rfl, ?_⟩) (by assumption) ?_
          rotate_left 1
          · intro wx hSw
            go_simp <;> with_reducible rfl
          simp only [Act.put, List.getElem_toArray, List.getElem_cons_zero, List.setIfInBounds_toArray, List.set_cons_zero, List.set_cons_succ]
          refine Go.wpAnyH_take (i := 1) (oi := _) (v := ?_) rfl (by kernel_rfl) (by kernel_rfl) (by kernel_rfl) (fun _ _ _ h => h) (Or.inl ⟨by rfl, ?_⟩) (by assumption) ?_
          rotate_left 1
          · intro wx hSw
            go_simp <;> with_reducible rfl
          simp only [Act.put, List.getElem_toArray, List.getElem_cons_zero, List.getElem_cons_succ, List.setIfInBounds_toArray, List.set_cons_zero, List.set_cons_succ]
          refine Go.wpAnyH_ready (rs := [2]) (by kernel_rfl) (by simp) ?_
          refine Go.AllReadyH.cons rfl (fun K hK => ?_) Go.AllReadyH.nil
          rw [if_pos (by rfl)]
          go_simp
          refine (kaa.out _ hHeld.1.out).mono ?_
          rintro e v3_2 ⟨rfl, g3_2⟩
          refine hK.out _ _ (seen.out _ g3_2) (fun hHeld => ?_)
          clear hK K
          refine Go.wpAnyH_take (i := 3) (oi := _) (v := ?_) rfl (by kernel_rfl) (by kernel_rfl) (by kernel_rfl) (fun _ _ _ h => h) (Or.inl ⟨by rfl, ?_⟩) (by assumption) ?_
          rotate_left 1
          · intro wx hSw
            go_simp <;> with_reducible rfl
          simp only [Act.put, List.getElem_toArray, List.getElem_cons_zero, List.getElem_cons_succ, List.setIfInBounds_toArray, List.set_cons_zero, List.set_cons_succ]
          refine Go.wpAnyH_take (i := 4) (oi := _) (v := ?_) rfl (by kernel_rfl) (by kernel_rfl) (by kernel_rfl) (fun _ _ _ h => h) (Or.inl ⟨by rfl, ?_⟩) (by assumption) ?_
          rotate_left 1
          · intro wx hSw
            go_simp <;> with_reducible rfl
          simp only [Act.put, List.getElem_toArray, List.getElem_cons_zero, List.getElem_cons_succ, List.setIfInBounds_toArray, List.set_cons_zero, List.set_cons_succ]
          refine Go.wpAnyH_take (i := 5) (oi := _) (v := ?_) rfl (by kernel_rfl) (by kernel_rfl) (by kernel_rfl) (fun _ _ _ h => h) (Or.inl ⟨by rfl, ?_⟩) (by assumption) ?_
          rotate_left 1
          · intro wx hSw
            go_simp <;> with_reducible rfl
          simp only [Act.put, List.getElem_toArray, List.getElem_cons_zero, List.getElem_cons_succ, List.setIfInBounds_toArray, List.set_cons_zero, List.set_cons_succ]
          refine Go.wpAnyH_ready (rs := [6]) (by kernel_rfl) (by simp) ?_
          refine Go.AllReadyH.cons rfl (fun K hK => ?_) Go.AllReadyH.nil
          rw [if_pos (by rfl)]
          go_simp
          refine (kU.out _ hHeld.1.out).mono ?_
          rintro e v3_6 ⟨U3, u3, U4, u4, rfl, g3_6⟩
          refine hK.out _ _ (seen.out _ g3_6) (fun hHeld => ?_)
          clear hK K
          refine Go.wpAnyH_ready (rs := [7]) (by kernel_rfl) (by simp) ?_
          refine Go.AllReadyH.cons rfl (fun K hK => ?_) Go.AllReadyH.nil
          rw [if_pos (by rfl)]
          go_simp
          refine (kaU.out _ hHeld.1.out U3 u3 U4 u4).mono ?_
          rintro e v3_7 ⟨rfl, g3_7⟩
          refine hK.out _ _ (seen.out _ g3_7) (fun hHeld => ?_)
          clear hK K
          refine Go.wpAnyH_take (i := 8) (oi := _) (v := ?_) rfl (by kernel_rfl) (by kernel_rfl) (by kernel_rfl) (fun _ _ _ h => h) (Or.inl ⟨by rfl, ?_⟩) (by assumption) ?_
          rotate_left 1
          · intro wx hSw
            go_simp <;> with_reducible rfl
          simp only [Act.put, List.getElem_toArray, List.getElem_cons_zero, List.getElem_cons_succ, List.setIfInBounds_toArray, List.set_cons_zero, List.set_cons_succ]
          refine Go.wpAnyH_take (i := 9) (oi := _) (v := ?_) rfl (by kernel_rfl) (by kernel_rfl) (by kernel_rfl) (fun _ _ _ h => h) (Or.inl ⟨by rfl, ?_⟩) (by assumption) ?_
          rotate_left 1
          · intro wx hSw
            go_simp <;> with_reducible rfl
          simp only [Act.put, List.getElem_toArray, List.getElem_cons_zero, List.getElem_cons_succ, List.setIfInBounds_toArray, List.set_cons_zero, List.set_cons_succ]
          refine Go.wpAnyH_take (i := 10) (oi := _) (v := ?_) rfl (by kernel_rfl) (by kernel_rfl) (by kernel_rfl) (fun _ _ _ h => h) (Or.inl ⟨by rfl, ?_⟩) (by assumption) ?_
          rotate_left 1
          · intro wx hSw
            go_simp <;> with_reducible rfl
          simp only [Act.put, List.getElem_toArray, List.getElem_cons_zero, List.getElem_cons_succ, List.setIfInBounds_toArray, List.set_cons_zero, List.set_cons_succ]
          refine Go.wpAnyH_take (i := 11) (oi := _) (v := ?_) rfl (by kernel_rfl) (by kernel_rfl) (by kernel_rfl) (fun _ _ _ h => h) (Or.inl ⟨by rfl, ?_⟩) (by assumption) ?_
          rotate_left 1
          · intro wx hSw
            go_simp <;> with_reducible rfl
          simp only [Act.put, List.getElem_toArray, List.getElem_cons_zero, List.getElem_cons_succ, List.setIfInBounds_toArray, List.set_cons_zero, List.set_cons_succ]
          refine Go.wpAnyH_take (i := 12) (oi := _) (v := ?_) rfl (by kernel_rfl) (by kernel_rfl) (by kernel_rfl) (fun _ _ _ h => h) (Or.inl ⟨by rfl, ?_⟩) (by assumption) ?_
          rotate_left 1
          · intro wx hSw
            go_simp <;> with_reducible rfl
          simp only [Act.put, List.getElem_toArray, List.getElem_cons_zero, List.getElem_cons_succ, List.setIfInBounds_toArray, List.set_cons_zero, List.set_cons_succ]
          refine Go.wpAnyH_take (i := 13) (oi := _) (v := ?_) rfl (by kernel_rfl) (by kernel_rfl) (by kernel_rfl) (fun _ _ _ h => h) (Or.inl ⟨by rfl, ?_⟩) (by assumption) ?_
          rotate_left 1
          · intro wx hSw
            go_simp <;> with_reducible rfl
          simp only [Act.put, List.getElem_toArray, List.getElem_cons_zero, List.getElem_cons_succ, List.setIfInBounds_toArray, List.set_cons_zero, List.set_cons_succ]
          refine Go.wpAnyH_take (i := 14) (oi := _) (v := ?_) rfl (by kernel_rfl) (by kernel_rfl) (by kernel_rfl) (fun _ _ _ h => h) (Or.inl ⟨by rfl, ?_⟩) (by assumption) ?_
          rotate_left 1
          · intro wx hSw
            go_simp <;> with_reducible rfl
          simp only [Act.put, List.getElem_toArray, List.getElem_cons_zero, List.getElem_cons_succ, List.setIfInBounds_toArray, List.set_cons_zero, List.set_cons_succ]
          refine Go.wpAnyH_take (i := 15) (oi := _) (v := ?_) rfl (by kernel_rfl) (by kernel_rfl) (by kernel_rfl) (fun _ _ _ h => h) (Or.inl ⟨by rfl, ?_⟩) (by assumption) ?_
          rotate_left 1
          · intro wx hSw
            go_simp <;> with_reducible rfl
          simp only [Act.put, List.getElem_toArray, List.getElem_cons_zero, List.getElem_cons_succ, List.setIfInBounds_toArray, List.set_cons_zero, List.set_cons_succ]
          refine Go.wpAnyH_take (i := 16) (oi := _) (v := ?_) rfl (by kernel_rfl) (by kernel_rfl) (by kernel_rfl) (fun _ _ _ h => h) (Or.inl ⟨by rfl, ?_⟩) (by assumption) ?_
          rotate_left 1
          · intro wx hSw
            go_simp <;> with_reducible rfl
          simp only [Act.put, List.getElem_toArray, List.getElem_cons_zero, List.getElem_cons_succ, List.setIfInBounds_toArray, List.set_cons_zero, List.set_cons_succ]
          refine Go.wpAnyH_take (i := 17) (oi := _) (v := ?_) rfl (by kernel_rfl) (by kernel_rfl) (by kernel_rfl) (fun _ _ _ h => h) (Or.inl ⟨by rfl, ?_⟩) (by assumption) ?_
          rotate_left 1
          · intro wx hSw
            go_simp <;> with_reducible rfl
          simp only [Act.put, List.getElem_toArray, List.getElem_cons_zero, List.getElem_cons_succ, List.setIfInBounds_toArray, List.set_cons_zero, List.set_cons_succ]
          refine Go.wpAnyH_ready (rs := [18]) (by kernel_rfl) (by simp) ?_
          refine Go.AllReadyH.cons rfl (fun K hK => ?_) Go.AllReadyH.nil
          rw [if_pos (by rfl)]
          go_simp
          refine (kac.out _ hHeld.1.out).mono ?_
          rintro e v3_18 ⟨rfl, g3_18⟩
          refine hK.out _ _ (seen.out _ g3_18) (fun hHeld => ?_)
          clear hK K
          refine Go.wpAnyH_take (i := 19) (oi := _) (v := ?_) rfl (by kernel_rfl) (by kernel_rfl) (by kernel_rfl) (fun _ _ _ h => h) (Or.inl ⟨by rfl, ?_⟩) (by assumption) ?_
          rotate_left 1
          · intro wx hSw
            go_simp <;> with_reducible rfl
          simp only [Act.put, List.getElem_toArray, List.getElem_cons_zero, List.getElem_cons_succ, List.setIfInBounds_toArray, List.set_cons_zero, List.set_cons_succ]
          refine Go.wpAnyH_take (i := 20) (oi := _) (v := ?_) rfl (by kernel_rfl) (by kernel_rfl) (by kernel_rfl) (fun _ _ _ h => h) (Or.inl ⟨by rfl, ?_⟩) (by assumption) ?_
          rotate_left 1
          · intro wx hSw
            go_simp <;> with_reducible rfl
          simp only [Act.put, List.getElem_toArray, List.getElem_cons_zero, List.getElem_cons_succ, List.setIfInBounds_toArray, List.set_cons_zero, List.set_cons_succ]
          refine Go.wpAnyH_take (i := 21) (oi := _) (v := ?_) rfl (by kernel_rfl) (by kernel_rfl) (by kernel_rfl) (fun _ _ _ h => h) (Or.inl ⟨by rfl, ?_⟩) (by assumption) ?_
          rotate_left 1
          · intro wx hSw
            go_simp <;> with_reducible rfl
          simp only [Act.put, List.getElem_toArray, List.getElem_cons_zero, List.getElem_cons_succ, List.setIfInBounds_toArray, List.set_cons_zero, List.set_cons_succ]
          refine Go.wpAnyH_done (by kernel_rfl) ?_ _
          have H3 := Lib.hid hHeld.1.out
          obtain ⟨-, x0, x1, x2, x3, x4, x5, x6, x7, x8, x9, x10, x11, x12, x13, x14⟩ := hHeld
          go_wp2_with fail
          refine (kba.out _ H3.out).mono ?_
          rintro e w_4 ⟨rfl, h4⟩
          have H4 := Lib.hid h4
          clear x0 x1 x2 x3 x4 x5 x6 x7 x8 x9 x10 x11 x12 x13 x14 h4
          obtain ⟨-, x0, x1, x2, x3, x4, x5, x6, x7, x8, x9, x10, x11, x12, x13, x14⟩ := seen.out _ H4.out
          go_wp2_with fail
          refine (eab.out _ H4.out).mono ?_
          rintro e w_5 ⟨rfl, h5⟩
          have H5 := Lib.hid h5
          clear x0 x1 x2 x3 x4 x5 x6 x7 x8 x9 x10 x11 x12 x13 x14 h5
          obtain ⟨-, x0, x1, x2, x3, x4, x5, x6, x7, x8, x9, x10, x11, x12, x13, x14⟩ := seen.out _ H5.out
          go_wp2_with fail
          clear x0 x1 x2 x3 x4 x5 x6 x7 x8 x9 x10 x11 x12 x13 x14
          refine Go.wp_region_held_drew (S := (fun w' => Hid (L w') ∧ w'.cell? ⟨P1, 0, none⟩ = some (.int .i64 ak) ∧ w'.cell? ⟨P1, 1, none⟩ = some (.int .i64 an) ∧ w'.cell? ⟨P1, 2, none⟩ = some (.string as') ∧ w'.cell? ⟨P1, 3, none⟩ = some (.slice A3 an3 k3) ∧ w'.cell? ⟨P1, 4, none⟩ = some (.slice A4 an4 k4) ∧ w'.cell? ⟨P2, 0, none⟩ = some (.int .i64 bk) ∧ w'.cell? ⟨P2, 1, none⟩ = some (.int .i64 bn) ∧ w'.cell? ⟨P2, 2, none⟩ = some (.string bs) ∧ w'.cell? ⟨P2, 3, none⟩ = some (.slice B3 bn3 l3) ∧ w'.cell? ⟨P2, 4, none⟩ = some (.slice B4 bn4 l4) ∧ w'.cell? ⟨P3, 0, none⟩ = some (.int .i64 ck) ∧ w'.cell? ⟨P3, 1, none⟩ = some (.int .i64 cn) ∧ w'.cell? ⟨P3, 2, none⟩ = some (.string cs) ∧ w'.cell? ⟨P3, 3, none⟩ = some (.slice C3 cn3 m3) ∧ w'.cell? ⟨P3, 4, none⟩ = some (.slice C4 cn4 m4))) (by kernel_rfl) (seen.out _ (stays.out _ _ H5.out (Q.drewN _ 1))) (fun hHeld => ?_)
          refine Go.wpAnyH_take (i := 0) (oi := _) (v := ?_) rfl (by kernel_rfl) (by kernel_rfl) (by kernel_rfl) (fun _ _ _ h => h) (Or.inl ⟨by rfl, ?_⟩) (by assumption) ?_
          rotate_left 1
          · intro wx hSw
            go_simp <;> with_reducible rfl
          simp only [Act.put, List.getElem_toArray, List.getElem_cons_zero, List.setIfInBounds_toArray, List.set_cons_zero, List.set_cons_succ]
          refine Go.wpAnyH_take (i := 1) (oi := _) (v := ?_) rfl (by kernel_rfl) (by kernel_rfl) (by kernel_rfl) (fun _ _ _ h => h) (Or.inl ⟨by rfl, ?_⟩) (by assumption) ?_
          rotate_left 1
          · intro wx hSw
            go_simp <;> with_reducible rfl
          simp only [Act.put, List.getElem_toArray, List.getElem_cons_zero, List.getElem_cons_succ, List.setIfInBounds_toArray, List.set_cons_zero, List.set_cons_succ]
          refine Go.wpAnyH_take (i := 2) (oi := _) (v := ?_) rfl (by kernel_rfl) (by kernel_rfl) (by kernel_rfl) (fun _ _ _ h => h) (Or.inl ⟨by rfl, ?_⟩) (by assumption) ?_
          rotate_left 1
          · intro wx hSw
            go_simp <;> with_reducible rfl
          simp only [Act.put, List.getElem_toArray, List.getElem_cons_zero, List.getElem_cons_succ, List.setIfInBounds_toArray, List.set_cons_zero, List.set_cons_succ]
          refine Go.wpAnyH_ready (rs := [3]) (by kernel_rfl) (by simp) ?_
          refine Go.AllReadyH.cons rfl (fun K hK => ?_) Go.AllReadyH.nil
          rw [if_pos (by rfl)]
          go_simp
          refine (kkb.out _ hHeld.1.out).mono ?_
          rintro e v6_3 ⟨rfl, g6_3⟩
          refine hK.out _ _ (seen.out _ g6_3) (fun hHeld => ?_)
          clear hK K
          refine Go.wpAnyH_take (i := 4) (oi := _) (v := ?_) rfl (by kernel_rfl) (by kernel_rfl) (by kernel_rfl) (fun _ _ _ h => h) (Or.inl ⟨by rfl, ?_⟩) (by assumption) ?_
          rotate_left 1
          · intro wx hSw
            go_simp <;> with_reducible rfl
          simp only [Act.put, List.getElem_toArray, List.getElem_cons_zero, List.getElem_cons_succ, List.setIfInBounds_toArray, List.set_cons_zero, List.set_cons_succ]
          refine Go.wpAnyH_take (i := 5) (oi := _) (v := ?_) rfl (by kernel_rfl) (by kernel_rfl) (by kernel_rfl) (fun _ _ _ h => h) (Or.inl ⟨by rfl, ?_⟩) (by assumption) ?_
          rotate_left 1
          · intro wx hSw
            go_simp <;> with_reducible rfl
          simp only [Act.put, List.getElem_toArray, List.getElem_cons_zero, List.getElem_cons_succ, List.setIfInBounds_toArray, List.set_cons_zero, List.set_cons_succ]
          refine Go.wpAnyH_take (i := 6) (oi := _) (v := undef) rfl (by kernel_rfl) (by kernel_rfl) (by kernel_rfl) (fun _ _ _ h => h) (Or.inr ⟨by rfl, rfl⟩) (by assumption) ?_
          simp only [Act.put, List.getElem_toArray, List.getElem_cons_zero, List.getElem_cons_succ, List.setIfInBounds_toArray, List.set_cons_zero, List.set_cons_succ]
          refine Go.wpAnyH_take (i := 7) (oi := _) (v := undef) rfl (by kernel_rfl) (by kernel_rfl) (by kernel_rfl) (fun _ _ _ h => h) (Or.inr ⟨by rfl, rfl⟩) (by assumption) ?_
          simp only [Act.put, List.getElem_toArray, List.getElem_cons_zero, List.getElem_cons_succ, List.setIfInBounds_toArray, List.set_cons_zero, List.set_cons_succ]
          refine Go.wpAnyH_take (i := 8) (oi := _) (v := undef) rfl (by kernel_rfl) (by kernel_rfl) (by kernel_rfl) (fun _ _ _ h => h) (Or.inr ⟨by rfl, rfl⟩) (by assumption) ?_
          simp only [Act.put, List.getElem_toArray, List.getElem_cons_zero, List.getElem_cons_succ, List.setIfInBounds_toArray, List.set_cons_zero, List.set_cons_succ]
          refine Go.wpAnyH_take (i := 9) (oi := _) (v := undef) rfl (by kernel_rfl) (by kernel_rfl) (by kernel_rfl) (fun _ _ _ h => h) (Or.inr ⟨by rfl, rfl⟩) (by assumption) ?_
          simp only [Act.put, List.getElem_toArray, List.getElem_cons_zero, List.getElem_cons_succ, List.setIfInBounds_toArray, List.set_cons_zero, List.set_cons_succ]
          refine Go.wpAnyH_take (i := 10) (oi := _) (v := ?_) rfl (by kernel_rfl) (by kernel_rfl) (by kernel_rfl) (fun _ _ _ h => h) (Or.inl ⟨by rfl, ?_⟩) (by assumption) ?_
          rotate_left 1
          · intro wx hSw
            go_simp <;> with_reducible rfl
          simp only [Act.put, List.getElem_toArray, List.getElem_cons_zero, List.getElem_cons_succ, List.setIfInBounds_toArray, List.set_cons_zero, List.set_cons_succ]
          refine Go.wpAnyH_take (i := 11) (oi := _) (v := ?_) rfl (by kernel_rfl) (by kernel_rfl) (by kernel_rfl) (fun _ _ _ h => h) (Or.inl ⟨by rfl, ?_⟩) (by assumption) ?_
          rotate_left 1
          · intro wx hSw
            go_simp <;> with_reducible rfl
          simp only [Act.put, List.getElem_toArray, List.getElem_cons_zero, List.getElem_cons_succ, List.setIfInBounds_toArray, List.set_cons_zero, List.set_cons_succ]
          refine Go.wpAnyH_take (i := 12) (oi := _) (v := ?_) rfl (by kernel_rfl) (by kernel_rfl) (by kernel_rfl) (fun _ _ _ h => h) (Or.inl ⟨by rfl, ?_⟩) (by assumption) ?_
          rotate_left 1
          · intro wx hSw
            go_simp <;> with_reducible rfl
          simp only [Act.put, List.getElem_toArray, List.getElem_cons_zero, List.getElem_cons_succ, List.setIfInBounds_toArray, List.set_cons_zero, List.set_cons_succ]
          refine Go.wpAnyH_take (i := 13) (oi := _) (v := ?_) rfl (by kernel_rfl) (by kernel_rfl) (by kernel_rfl) (fun _ _ _ h => h) (Or.inl ⟨by rfl, ?_⟩) (by assumption) ?_
          rotate_left 1
          · intro wx hSw
            go_simp <;> with_reducible rfl
          simp only [Act.put, List.getElem_toArray, List.getElem_cons_zero, List.getElem_cons_succ, List.setIfInBounds_toArray, List.set_cons_zero, List.set_cons_succ]
          refine Go.wpAnyH_take (i := 14) (oi := _) (v := ?_) rfl (by kernel_rfl) (by kernel_rfl) (by kernel_rfl) (fun _ _ _ h => h) (Or.inl ⟨by rfl, ?_⟩) (by assumption) ?_
          rotate_left 1
          · intro wx hSw
            go_simp <;> with_reducible rfl
          simp only [Act.put, List.getElem_toArray, List.getElem_cons_zero, List.getElem_cons_succ, List.setIfInBounds_toArray, List.set_cons_zero, List.set_cons_succ]
          refine Go.wpAnyH_take (i := 16) (oi := _) (v := ?_) rfl (by kernel_rfl) (by kernel_rfl) (by kernel_rfl) (fun _ _ _ h => h) (Or.inl ⟨by rfl, ?_⟩) (by assumption) ?_
          rotate_left 1
          · intro wx hSw
            go_simp <;> with_reducible rfl
          simp only [Act.put, List.getElem_toArray, List.getElem_cons_zero, List.getElem_cons_succ, List.setIfInBounds_toArray, List.set_cons_zero, List.set_cons_succ]
          refine Go.wpAnyH_ready (rs := [15]) (by kernel_rfl) (by simp) ?_
          refine Go.AllReadyH.cons rfl (fun K hK => ?_) Go.AllReadyH.nil
          rw [if_pos (by rfl)]
          go_simp
          refine (kna.out _ hHeld.1.out).mono ?_
          rintro e v6_15 ⟨rfl, g6_15⟩
          refine hK.out _ _ (seen.out _ g6_15) (fun hHeld => ?_)
          clear hK K
          refine Go.wpAnyH_ready (rs := [17]) (by kernel_rfl) (by simp) ?_
          refine Go.AllReadyH.cons rfl (fun K hK => ?_) Go.AllReadyH.nil
          rw [if_pos (by rfl)]
          go_simp
          refine (knb.out _ hHeld.1.out).mono ?_
          rintro e v6_17 ⟨rfl, g6_17⟩
          refine hK.out _ _ (seen.out _ g6_17) (fun hHeld => ?_)
          clear hK K
          refine Go.wpAnyH_take (i := 18) (oi := _) (v := ?_) rfl (by kernel_rfl) (by kernel_rfl) (by kernel_rfl) (fun _ _ _ h => h) (Or.inl ⟨by rfl, ?_⟩) (by assumption) ?_
          rotate_left 1
          · intro wx hSw
            go_simp <;> with_reducible rfl
          simp only [Act.put, List.getElem_toArray, List.getElem_cons_zero, List.getElem_cons_succ, List.setIfInBounds_toArray, List.set_cons_zero, List.set_cons_succ]
          refine Go.wpAnyH_take (i := 19) (oi := _) (v := ?_) rfl (by kernel_rfl) (by kernel_rfl) (by kernel_rfl) (fun _ _ _ h => h) (Or.inl ⟨by rfl, ?_⟩) (by assumption) ?_
          rotate_left 1
          · intro wx hSw
            go_simp <;> with_reducible rfl
          simp only [Act.put, List.getElem_toArray, List.getElem_cons_zero, List.getElem_cons_succ, List.setIfInBounds_toArray, List.set_cons_zero, List.set_cons_succ]
          refine Go.wpAnyH_take (i := 20) (oi := _) (v := ?_) rfl (by kernel_rfl) (by kernel_rfl) (by kernel_rfl) (fun _ _ _ h => h) (Or.inl ⟨by rfl, ?_⟩) (by assumption) ?_
          rotate_left 1
          · intro wx hSw
            go_simp <;> with_reducible rfl
          simp only [Act.put, List.getElem_toArray, List.getElem_cons_zero, List.getElem_cons_succ, List.setIfInBounds_toArray, List.set_cons_zero, List.set_cons_succ]
          refine Go.wpAnyH_done (by kernel_rfl) ?_ _
          have H6 := Lib.hid hHeld.1.out
          obtain ⟨-, x0, x1, x2, x3, x4, x5, x6, x7, x8, x9, x10, x11, x12, x13, x14⟩ := hHeld
          go_wp2_with fail
          refine (cA.out _ (LQ.out _ H6.out)).mono ?_
          rintro e wz ⟨rfl, qz⟩
          clear x0 x1 x2 x3 x4 x5 x6 x7 x8 x9 x10 x11 x12 x13 x14
          go_wp2_with fail
          go_ret
          exact ⟨rfl, (LQ.out _ H6.out).trans qz⟩
        · have hN : NB ≤ NA := TN.out rfl
          have n1 : decide (NA < NB) = false := decide_eq_false (by omega)
          have n2 : decide ((NA : Int) < (NB : Int)) = false := decide_eq_false (by omega)
          clear hN
          obtain rfl : AC = true := TR.out rfl rfl
          obtain rfl : EQ = true := TE.out rfl rfl
          clear TR TE TK TN
          obtain ⟨D, hD⟩ : ∃ x, wb3.heap.size = x := ⟨_, rfl⟩
          obtain ⟨wd, hwd⟩ : ∃ x, wb3.alloc (.cells #[.int .i64 ak, .int .i64 an, .string as', .slice A3 an3 k3, .slice A4 an4 k4, .int .i64 bk, .int .i64 bn, .string bs, .slice B3 bn3 l3, .slice B4 bn4 l4, .int .i64 ck, .int .i64 cn, .string cs, .slice C3 cn3 m3, .slice C4 cn4 m4] 26) = x := ⟨_, rfl⟩
          have LD : Hid (L wd) := Lib.hid (by rw [← hwd]; exact stays.out _ _ L0.out (Q.box _ _))
          have cVd := Lib.hid (cVal.out wd D (LQ.out _ LD.out) (by rw [← hwd, ← hD]; exact Bk.new _ _ _))
          go_enter Tryz.func8, Tryz.ntmps8
          go_wp2_with fail
          refine (cVd.out).mono ?_
          rintro e w_1 ⟨rfl, q1⟩
          have H1 := Lib.hid (stays.out _ _ LD.out q1)
          clear x0 x1 x2 x3 x4 x5 x6 x7 x8 x9 x10 x11 x12 x13 x14 q1 hwd hD
          obtain ⟨-, x0, x1, x2, x3, x4, x5, x6, x7, x8, x9, x10, x11, x12, x13, x14⟩ := seen.out _ H1.out
          go_wp2_with fail
          clear x0 x1 x2 x3 x4 x5 x6 x7 x8 x9 x10 x11 x12 x13 x14
          refine Go.wp_region_held_drew (S := (fun w' => Hid (L w') ∧ w'.cell? ⟨P1, 0, none⟩ = some (.int .i64 ak) ∧ w'.cell? ⟨P1, 1, none⟩ = some (.int .i64 an) ∧ w'.cell? ⟨P1, 2, none⟩ = some (.string as') ∧ w'.cell? ⟨P1, 3, none⟩ = some (.slice A3 an3 k3) ∧ w'.cell? ⟨P1, 4, none⟩ = some (.slice A4 an4 k4) ∧ w'.cell? ⟨P2, 0, none⟩ = some (.int .i64 bk) ∧ w'.cell? ⟨P2, 1, none⟩ = some (.int .i64 bn) ∧ w'.cell? ⟨P2, 2, none⟩ = some (.string bs) ∧ w'.cell? ⟨P2, 3, none⟩ = some (.slice B3 bn3 l3) ∧ w'.cell? ⟨P2, 4, none⟩ = some (.slice B4 bn4 l4) ∧ w'.cell? ⟨P3, 0, none⟩ = some (.int .i64 ck) ∧ w'.cell? ⟨P3, 1, none⟩ = some (.int .i64 cn) ∧ w'.cell? ⟨P3, 2, none⟩ = some (.string cs) ∧ w'.cell? ⟨P3, 3, none⟩ = some (.slice C3 cn3 m3) ∧ w'.cell? ⟨P3, 4, none⟩ = some (.slice C4 cn4 m4))) (by kernel_rfl) (seen.out _ (stays.out _ _ H1.out (Q.drewN _ 1))) (fun hHeld => ?_)
          refine Go.wpAnyH_take (i := 0) (oi := _) (v := ?_) rfl (by kernel_rfl) (by kernel_rfl) (by kernel_rfl) (fun _ _ _ h => h) (Or.inl ⟨by rfl, ?_⟩) (by assumption) ?_
          rotate_left 1
          · intro wx hSw
            go_simp <;> with_reducible rfl
          simp only [Act.put, List.getElem_toArray, List.getElem_cons_zero, List.setIfInBounds_toArray, List.set_cons_zero, List.set_cons_succ]
          refine Go.wpAnyH_take (i := 1) (oi := _) (v := ?_) rfl (by kernel_rfl) (by kernel_rfl) (by kernel_rfl) (fun _ _ _ h => h) (Or.inl ⟨by rfl, ?_⟩) (by assumption) ?_
          rotate_left 1
          · intro wx hSw
            go_simp <;> with_reducible rfl
          simp only [Act.put, List.getElem_toArray, List.getElem_cons_zero, List.getElem_cons_succ, List.setIfInBounds_toArray, List.set_cons_zero, List.set_cons_succ]
          refine Go.wpAnyH_take (i := 3) (oi := _) (v := ?_) rfl (by kernel_rfl) (by kernel_rfl) (by kernel_rfl) (fun _ _ _ h => h) (Or.inl ⟨by rfl, ?_⟩) (by assumption) ?_
          rotate_left 1
          · intro wx hSw
            go_simp <;> with_reducible rfl
          simp only [Act.put, List.getElem_toArray, List.getElem_cons_zero, List.getElem_cons_succ, List.setIfInBounds_toArray, List.set_cons_zero, List.set_cons_succ]
          refine Go.wpAnyH_take (i := 4) (oi := _) (v := ?_) rfl (by kernel_rfl) (by kernel_rfl) (by kernel_rfl) (fun _ _ _ h => h) (Or.inl ⟨by rfl, ?_⟩) (by assumption) ?_
          rotate_left 1
          · intro wx hSw
            go_simp <;> with_reducible rfl
          simp only [Act.put, List.getElem_toArray, List.getElem_cons_zero, List.getElem_cons_succ, List.setIfInBounds_toArray, List.set_cons_zero, List.set_cons_succ]
          refine Go.wpAnyH_ready (rs := [2]) (by kernel_rfl) (by simp) ?_
          refine Go.AllReadyH.cons rfl (fun K hK => ?_) Go.AllReadyH.nil
          rw [if_pos (by rfl)]
          go_simp
          refine (kab.out _ hHeld.1.out).mono ?_
          rintro e v2_2 ⟨rfl, g2_2⟩
          refine hK.out _ _ (seen.out _ g2_2) (fun hHeld => ?_)
          clear hK K
          refine Go.wpAnyH_ready (rs := [5]) (by kernel_rfl) (by simp) ?_
          refine Go.AllReadyH.cons rfl (fun K hK => ?_) Go.AllReadyH.nil
          rw [if_pos (by rfl)]
          go_simp
          refine (kbc.out _ hHeld.1.out).mono ?_
          rintro e v2_5 ⟨rfl, g2_5⟩
          refine hK.out _ _ (seen.out _ g2_5) (fun hHeld => ?_)
          clear hK K
          refine Go.wpAnyH_take (i := 6) (oi := _) (v := ?_) rfl (by kernel_rfl) (by kernel_rfl) (by kernel_rfl) (fun _ _ _ h => h) (Or.inl ⟨by rfl, ?_⟩) (by assumption) ?_
          rotate_left 1
          · intro wx hSw
            go_simp <;> with_reducible rfl
          simp only [Act.put, List.getElem_toArray, List.getElem_cons_zero, List.getElem_cons_succ, List.setIfInBounds_toArray, List.set_cons_zero, List.set_cons_succ]
          refine Go.wpAnyH_take (i := 7) (oi := _) (v := ?_) rfl (by kernel_rfl) (by kernel_rfl) (by kernel_rfl) (fun _ _ _ h => h) (Or.inl ⟨by rfl, ?_⟩) (by assumption) ?_
          rotate_left 1
          · intro wx hSw
            go_simp <;> with_reducible rfl
          simp only [Act.put, List.getElem_toArray, List.getElem_cons_zero, List.getElem_cons_succ, List.setIfInBounds_toArray, List.set_cons_zero, List.set_cons_succ]
          refine Go.wpAnyH_done (by kernel_rfl) ?_ _
          have H2 := Lib.hid hHeld.1.out
          obtain ⟨-, x0, x1, x2, x3, x4, x5, x6, x7, x8, x9, x10, x11, x12, x13, x14⟩ := hHeld
          go_wp2_with fail
          clear x0 x1 x2 x3 x4 x5 x6 x7 x8 x9 x10 x11 x12 x13 x14
          refine Go.wp_region_held_drew (S := (fun w' => Hid (L w') ∧ w'.cell? ⟨P1, 0, none⟩ = some (.int .i64 ak) ∧ w'.cell? ⟨P1, 1, none⟩ = some (.int .i64 an) ∧ w'.cell? ⟨P1, 2, none⟩ = some (.string as') ∧ w'.cell? ⟨P1, 3, none⟩ = some (.slice A3 an3 k3) ∧ w'.cell? ⟨P1, 4, none⟩ = some (.slice A4 an4 k4) ∧ w'.cell? ⟨P2, 0, none⟩ = some (.int .i64 bk) ∧ w'.cell? ⟨P2, 1, none⟩ = some (.int .i64 bn) ∧ w'.cell? ⟨P2, 2, none⟩ = some (.string bs) ∧ w'.cell? ⟨P2, 3, none⟩ = some (.slice B3 bn3 l3) ∧ w'.cell? ⟨P2, 4, none⟩ = some (.slice B4 bn4 l4) ∧ w'.cell? ⟨P3, 0, none⟩ = some (.int .i64 ck) ∧ w'.cell? ⟨P3, 1, none⟩ = some (.int .i64 cn) ∧ w'.cell? ⟨P3, 2, none⟩ = some (.string cs) ∧ w'.cell? ⟨P3, 3, none⟩ = some (.slice C3 cn3 m3) ∧ w'.cell? ⟨P3, 4, none⟩ = some (.slice C4 cn4 m4))) (by kernel_rfl) (seen.out _ (stays.out _ _ H2.out (Q.drewN _ 1))) (fun hHeld => ?_)
          refine Go.wpAnyH_take (i := 0) (oi := _) (v := ?_) rfl (by kernel_rfl) (by kernel_rfl) (by kernel_rfl) (fun _ _ _ h => h) (Or.inl ⟨by rfl, ?_⟩) (by assumption) ?_
          rotate_left 1
          · intro wx hSw
            go_simp <;> with_reducible rfl
          simp only [Act.put, List.getElem_toArray, List.getElem_cons_zero, List.setIfInBounds_toArray, List.set_cons_zero, List.set_cons_succ]
          refine Go.wpAnyH_take (i := 1) (oi := _) (v := ?_) rfl (by kernel_rfl) (by kernel_rfl) (by kernel_rfl) (fun _ _ _ h => h) (Or.inl ⟨by rfl, ?_⟩) (by assumption) ?_
          rotate_left 1
          · intro wx hSw
            go_simp <;> with_reducible rfl
          simp only [Act.put, List.getElem_toArray, List.getElem_cons_zero, List.getElem_cons_succ, List.setIfInBounds_toArray, List.set_cons_zero, List.set_cons_succ]
          refine Go.wpAnyH_ready (rs := [2]) (by kernel_rfl) (by simp) ?_
          refine Go.AllReadyH.cons rfl (fun K hK => ?_) Go.AllReadyH.nil
          rw [if_pos (by rfl)]
          go_simp
          refine (kaa.out _ hHeld.1.out).mono ?_
          rintro e v3_2 ⟨rfl, g3_2⟩
          refine hK.out _ _ (seen.out _ g3_2) (fun hHeld => ?_)
          clear hK K
          refine Go.wpAnyH_take (i := 3) (oi := _) (v := ?_) rfl (by kernel_rfl) (by kernel_rfl) (by kernel_rfl) (fun _ _ _ h => h) (Or.inl ⟨by rfl, ?_⟩) (by assumption) ?_
          rotate_left 1
          · intro wx hSw
            go_simp <;> with_reducible rfl
          simp only [Act.put, List.getElem_toArray, List.getElem_cons_zero, List.getElem_cons_succ, List.setIfInBounds_toArray, List.set_cons_zero, List.set_cons_succ]
          refine Go.wpAnyH_take (i := 4) (oi := _) (v := ?_) rfl (by kernel_rfl) (by kernel_rfl) (by kernel_rfl) (fun _ _ _ h => h) (Or.inl ⟨by rfl, ?_⟩) (by assumption) ?_
          rotate_left 1
          · intro wx hSw
            go_simp <;> with_reducible rfl
          simp only [Act.put, List.getElem_toArray, List.getElem_cons_zero, List.getElem_cons_succ, List.setIfInBounds_toArray, List.set_cons_zero, List.set_cons_succ]
          refine Go.wpAnyH_take (i := 5) (oi := _) (v := ?_) rfl (by kernel_rfl) (by kernel_rfl) (by kernel_rfl) (fun _ _ _ h => h) (Or.inl ⟨by rfl, ?_⟩) (by assumption) ?_
          rotate_left 1
          · intro wx hSw
            go_simp <;> with_reducible rfl
          simp only [Act.put, List.getElem_toArray, List.getElem_cons_zero, List.getElem_cons_succ, List.setIfInBounds_toArray, List.set_cons_zero, List.set_cons_succ]
          refine Go.wpAnyH_ready (rs := [6]) (by kernel_rfl) (by simp) ?_
          refine Go.AllReadyH.cons rfl (fun K hK => ?_) Go.AllReadyH.nil
          rw [if_pos (by rfl)]
          go_simp
          refine (kU.out _ hHeld.1.out).mono ?_
          rintro e v3_6 ⟨U3, u3, U4, u4, rfl, g3_6⟩
          refine hK.out _ _ (seen.out _ g3_6) (fun hHeld => ?_)
          clear hK K
          refine Go.wpAnyH_ready (rs := [7]) (by kernel_rfl) (by simp) ?_
          refine Go.AllReadyH.cons rfl (fun K hK => ?_) Go.AllReadyH.nil
          rw [if_pos (by rfl)]
          go_simp
          refine (kaU.out _ hHeld.1.out U3 u3 U4 u4).mono ?_
          rintro e v3_7 ⟨rfl, g3_7⟩
          refine hK.out _ _ (seen.out _ g3_7) (fun hHeld => ?_)
          clear hK K
          refine Go.wpAnyH_take (i := 8) (oi := _) (v := ?_) rfl (by kernel_rfl) (by kernel_rfl) (by kernel_rfl) (fun _ _ _ h => h) (Or.inl ⟨by rfl, ?_⟩) (by assumption) ?_
          rotate_left 1
          · intro wx hSw
            go_simp <;> with_reducible rfl
          simp only [Act.put, List.getElem_toArray, List.getElem_cons_zero, List.getElem_cons_succ, List.setIfInBounds_toArray, List.set_cons_zero, List.set_cons_succ]
          refine Go.wpAnyH_take (i := 9) (oi := _) (v := ?_) rfl (by kernel_rfl) (by kernel_rfl) (by kernel_rfl) (fun _ _ _ h => h) (Or.inl ⟨by rfl, ?_⟩) (by assumption) ?_
          rotate_left 1
          · intro wx hSw
            go_simp <;> with_reducible rfl
          simp only [Act.put, List.getElem_toArray, List.getElem_cons_zero, List.getElem_cons_succ, List.setIfInBounds_toArray, List.set_cons_zero, List.set_cons_succ]
          refine Go.wpAnyH_take (i := 10) (oi := _) (v := ?_) rfl (by kernel_rfl) (by kernel_rfl) (by kernel_rfl) (fun _ _ _ h => h) (Or.inl ⟨by rfl, ?_⟩) (by assumption) ?_
          rotate_left 1
          · intro wx hSw
            go_simp <;> with_reducible rfl
          simp only [Act.put, List.getElem_toArray, List.getElem_cons_zero, List.getElem_cons_succ, List.setIfInBounds_toArray, List.set_cons_zero, List.set_cons_succ]
          refine Go.wpAnyH_take (i := 11) (oi := _) (v := ?_) rfl (by kernel_rfl) (by kernel_rfl) (by kernel_rfl) (fun _ _ _ h => h) (Or.inl ⟨by rfl, ?_⟩) (by assumption) ?_
          rotate_left 1
          · intro wx hSw
            go_simp <;> with_reducible rfl
          simp only [Act.put, List.getElem_toArray, List.getElem_cons_zero, List.getElem_cons_succ, List.setIfInBounds_toArray, List.set_cons_zero, List.set_cons_succ]
          refine Go.wpAnyH_take (i := 12) (oi := _) (v := ?_) rfl (by kernel_rfl) (by kernel_rfl) (by kernel_rfl) (fun _ _ _ h => h) (Or.inl ⟨by rfl, ?_⟩) (by assumption) ?_
          rotate_left 1
          · intro wx hSw
            go_simp <;> with_reducible rfl
          simp only [Act.put, List.getElem_toArray, List.getElem_cons_zero, List.getElem_cons_succ, List.setIfInBounds_toArray, List.set_cons_zero, List.set_cons_succ]
          refine Go.wpAnyH_take (i := 13) (oi := _) (v := ?_) rfl (by kernel_rfl) (by kernel_rfl) (by kernel_rfl) (fun _ _ _ h => h) (Or.inl ⟨by rfl, ?_⟩) (by assumption) ?_
          rotate_left 1
          · intro wx hSw
            go_simp <;> with_reducible rfl
          simp only [Act.put, List.getElem_toArray, List.getElem_cons_zero, List.getElem_cons_succ, List.setIfInBounds_toArray, List.set_cons_zero, List.set_cons_succ]
          refine Go.wpAnyH_take (i := 14) (oi := _) (v := ?_) rfl (by kernel_rfl) (by kernel_rfl) (by kernel_rfl) (fun _ _ _ h => h) (Or.inl ⟨by rfl, ?_⟩) (by assumption) ?_
          rotate_left 1
          · intro wx hSw
            go_simp <;> with_reducible rfl
          simp only [Act.put, List.getElem_toArray, List.getElem_cons_zero, List.getElem_cons_succ, List.setIfInBounds_toArray, List.set_cons_zero, List.set_cons_succ]
          refine Go.wpAnyH_take (i := 15) (oi := _) (v := ?_) rfl (by kernel_rfl) (by kernel_rfl) (by kernel_rfl) (fun _ _ _ h => h) (Or.inl ⟨by rfl, ?_⟩) (by assumption) ?_
          rotate_left 1
          · intro wx hSw
            go_simp <;> with_reducible rfl
          simp only [Act.put, List.getElem_toArray, List.getElem_cons_zero, List.getElem_cons_succ, List.setIfInBounds_toArray, List.set_cons_zero, List.set_cons_succ]
          refine Go.wpAnyH_take (i := 16) (oi := _) (v := ?_) rfl (by kernel_rfl) (by kernel_rfl) (by kernel_rfl) (fun _ _ _ h => h) (Or.inl ⟨by rfl, ?_⟩) (by assumption) ?_
          rotate_left 1
          · intro wx hSw
            go_simp <;> with_reducible rfl
          simp only [Act.put, List.getElem_toArray, List.getElem_cons_zero, List.getElem_cons_succ, List.setIfInBounds_toArray, List.set_cons_zero, List.set_cons_succ]
          refine Go.wpAnyH_take (i := 17) (oi := _) (v := ?_) rfl (by kernel_rfl) (by kernel_rfl) (by kernel_rfl) (fun _ _ _ h => h) (Or.inl ⟨by rfl, ?_⟩) (by assumption) ?_
          rotate_left 1
          · intro wx hSw
            go_simp <;> with_reducible rfl
          simp only [Act.put, List.getElem_toArray, List.getElem_cons_zero, List.getElem_cons_succ, List.setIfInBounds_toArray, List.set_cons_zero, List.set_cons_succ]
          refine Go.wpAnyH_ready (rs := [18]) (by kernel_rfl) (by simp) ?_
          refine Go.AllReadyH.cons rfl (fun K hK => ?_) Go.AllReadyH.nil
          rw [if_pos (by rfl)]
          go_simp
          refine (kac.out _ hHeld.1.out).mono ?_
          rintro e v3_18 ⟨rfl, g3_18⟩
          refine hK.out _ _ (seen.out _ g3_18) (fun hHeld => ?_)
          clear hK K
          refine Go.wpAnyH_take (i := 19) (oi := _) (v := ?_) rfl (by kernel_rfl) (by kernel_rfl) (by kernel_rfl) (fun _ _ _ h => h) (Or.inl ⟨by rfl, ?_⟩) (by assumption) ?_
          rotate_left 1
          · intro wx hSw
            go_simp <;> with_reducible rfl
          simp only [Act.put, List.getElem_toArray, List.getElem_cons_zero, List.getElem_cons_succ, List.setIfInBounds_toArray, List.set_cons_zero, List.set_cons_succ]
          refine Go.wpAnyH_take (i := 20) (oi := _) (v := ?_) rfl (by kernel_rfl) (by kernel_rfl) (by kernel_rfl) (fun _ _ _ h => h) (Or.inl ⟨by rfl, ?_⟩) (by assumption) ?_
          rotate_left 1
          · intro wx hSw
            go_simp <;> with_reducible rfl
          simp only [Act.put, List.getElem_toArray, List.getElem_cons_zero, List.getElem_cons_succ, List.setIfInBounds_toArray, List.set_cons_zero, List.set_cons_succ]
          refine Go.wpAnyH_take (i := 21) (oi := _) (v := ?_) rfl (by kernel_rfl) (by kernel_rfl) (by kernel_rfl) (fun _ _ _ h => h) (Or.inl ⟨by rfl, ?_⟩) (by assumption) ?_
          rotate_left 1
          · intro wx hSw
            go_simp <;> with_reducible rfl
          simp only [Act.put, List.getElem_toArray, List.getElem_cons_zero, List.getElem_cons_succ, List.setIfInBounds_toArray, List.set_cons_zero, List.set_cons_succ]
          refine Go.wpAnyH_done (by kernel_rfl) ?_ _
          have H3 := Lib.hid hHeld.1.out
          obtain ⟨-, x0, x1, x2, x3, x4, x5, x6, x7, x8, x9, x10, x11, x12, x13, x14⟩ := hHeld
          go_wp2_with fail
          refine (kba.out _ H3.out).mono ?_
          rintro e w_4 ⟨rfl, h4⟩
          have H4 := Lib.hid h4
          clear x0 x1 x2 x3 x4 x5 x6 x7 x8 x9 x10 x11 x12 x13 x14 h4
          obtain ⟨-, x0, x1, x2, x3, x4, x5, x6, x7, x8, x9, x10, x11, x12, x13, x14⟩ := seen.out _ H4.out
          go_wp2_with fail
          refine (eab.out _ H4.out).mono ?_
          rintro e w_5 ⟨rfl, h5⟩
          have H5 := Lib.hid h5
          clear x0 x1 x2 x3 x4 x5 x6 x7 x8 x9 x10 x11 x12 x13 x14 h5
          obtain ⟨-, x0, x1, x2, x3, x4, x5, x6, x7, x8, x9, x10, x11, x12, x13, x14⟩ := seen.out _ H5.out
          go_wp2_with fail
          clear x0 x1 x2 x3 x4 x5 x6 x7 x8 x9 x10 x11 x12 x13 x14
          refine Go.wp_region_held_drew (S := (fun w' => Hid (L w') ∧ w'.cell? ⟨P1, 0, none⟩ = some (.int .i64 ak) ∧ w'.cell? ⟨P1, 1, none⟩ = some (.int .i64 an) ∧ w'.cell? ⟨P1, 2, none⟩ = some (.string as') ∧ w'.cell? ⟨P1, 3, none⟩ = some (.slice A3 an3 k3) ∧ w'.cell? ⟨P1, 4, none⟩ = some (.slice A4 an4 k4) ∧ w'.cell? ⟨P2, 0, none⟩ = some (.int .i64 bk) ∧ w'.cell? ⟨P2, 1, none⟩ = some (.int .i64 bn) ∧ w'.cell? ⟨P2, 2, none⟩ = some (.string bs) ∧ w'.cell? ⟨P2, 3, none⟩ = some (.slice B3 bn3 l3) ∧ w'.cell? ⟨P2, 4, none⟩ = some (.slice B4 bn4 l4) ∧ w'.cell? ⟨P3, 0, none⟩ = some (.int .i64 ck) ∧ w'.cell? ⟨P3, 1, none⟩ = some (.int .i64 cn) ∧ w'.cell? ⟨P3, 2, none⟩ = some (.string cs) ∧ w'.cell? ⟨P3, 3, none⟩ = some (.slice C3 cn3 m3) ∧ w'.cell? ⟨P3, 4, none⟩ = some (.slice C4 cn4 m4))) (by kernel_rfl) (seen.out _ (stays.out _ _ H5.out (Q.drewN _ 1))) (fun hHeld => ?_)
          refine Go.wpAnyH_take (i := 0) (oi := _) (v := ?_) rfl (by kernel_rfl) (by kernel_rfl) (by kernel_rfl) (fun _ _ _ h => h) (Or.inl ⟨by rfl, ?_⟩) (by assumption) ?_
          rotate_left 1
          · intro wx hSw
            go_simp <;> with_reducible rfl
          simp only [Act.put, List.getElem_toArray, List.getElem_cons_zero, List.setIfInBounds_toArray, List.set_cons_zero, List.set_cons_succ]
          refine Go.wpAnyH_take (i := 1) (oi := _) (v := ?_) rfl (by kernel_rfl) (by kernel_rfl) (by kernel_rfl) (fun _ _ _ h => h) (Or.inl ⟨by rfl, ?_⟩) (by assumption) ?_
          rotate_left 1
          · intro wx hSw
            go_simp <;> with_reducible rfl
          simp only [Act.put, List.getElem_toArray, List.getElem_cons_zero, List.getElem_cons_succ, List.setIfInBounds_toArray, List.set_cons_zero, List.set_cons_succ]
          refine Go.wpAnyH_take (i := 2) (oi := _) (v := ?_) rfl (by kernel_rfl) (by kernel_rfl) (by kernel_rfl) (fun _ _ _ h => h) (Or.inl ⟨by rfl, ?_⟩) (by assumption) ?_
          rotate_left 1
          · intro wx hSw
            go_simp <;> with_reducible rfl
          simp only [Act.put, List.getElem_toArray, List.getElem_cons_zero, List.getElem_cons_succ, List.setIfInBounds_toArray, List.set_cons_zero, List.set_cons_succ]
          refine Go.wpAnyH_ready (rs := [3]) (by kernel_rfl) (by simp) ?_
          refine Go.AllReadyH.cons rfl (fun K hK => ?_) Go.AllReadyH.nil
          rw [if_pos (by rfl)]
          go_simp
          refine (kkb.out _ hHeld.1.out).mono ?_
          rintro e v6_3 ⟨rfl, g6_3⟩
          refine hK.out _ _ (seen.out _ g6_3) (fun hHeld => ?_)
          clear hK K
          refine Go.wpAnyH_take (i := 4) (oi := _) (v := ?_) rfl (by kernel_rfl) (by kernel_rfl) (by kernel_rfl) (fun _ _ _ h => h) (Or.inl ⟨by rfl, ?_⟩) (by assumption) ?_
          rotate_left 1
          · intro wx hSw
            go_simp <;> with_reducible rfl
          simp only [Act.put, List.getElem_toArray, List.getElem_cons_zero, List.getElem_cons_succ, List.setIfInBounds_toArray, List.set_cons_zero, List.set_cons_succ]
          refine Go.wpAnyH_take (i := 5) (oi := _) (v := ?_) rfl (by kernel_rfl) (by kernel_rfl) (by kernel_rfl) (fun _ _ _ h => h) (Or.inl ⟨by rfl, ?_⟩) (by assumption) ?_
          rotate_left 1
          · intro wx hSw
            go_simp <;> with_reducible rfl
          simp only [Act.put, List.getElem_toArray, List.getElem_cons_zero, List.getElem_cons_succ, List.setIfInBounds_toArray, List.set_cons_zero, List.set_cons_succ]
          refine Go.wpAnyH_take (i := 6) (oi := _) (v := ?_) rfl (by kernel_rfl) (by kernel_rfl) (by kernel_rfl) (fun _ _ _ h => h) (Or.inl ⟨by rfl, ?_⟩) (by assumption) ?_
          rotate_left 1
          · intro wx hSw
            go_simp <;> with_reducible rfl
          simp only [Act.put, List.getElem_toArray, List.getElem_cons_zero, List.getElem_cons_succ, List.setIfInBounds_toArray, List.set_cons_zero, List.set_cons_succ]
          refine Go.wpAnyH_take (i := 7) (oi := _) (v := ?_) rfl (by kernel_rfl) (by kernel_rfl) (by kernel_rfl) (fun _ _ _ h => h) (Or.inl ⟨by rfl, ?_⟩) (by assumption) ?_
          rotate_left 1
          · intro wx hSw
            go_simp <;> with_reducible rfl
          simp only [Act.put, List.getElem_toArray, List.getElem_cons_zero, List.getElem_cons_succ, List.setIfInBounds_toArray, List.set_cons_zero, List.set_cons_succ]
          refine Go.wpAnyH_ready (rs := [8]) (by kernel_rfl) (by simp) ?_
          refine Go.AllReadyH.cons rfl (fun K hK => ?_) Go.AllReadyH.nil
          rw [if_pos (by rfl)]
          go_simp
          refine (eab.out _ hHeld.1.out).mono ?_
          rintro e v6_8 ⟨rfl, g6_8⟩
          refine hK.out _ _ (seen.out _ g6_8) (fun hHeld => ?_)
          clear hK K
          refine Go.wpAnyH_take (i := 9) (oi := _) (v := ?_) rfl (by kernel_rfl) (by kernel_rfl) (by kernel_rfl) (fun _ _ _ h => h) (Or.inl ⟨by rfl, ?_⟩) (by assumption) ?_
          rotate_left 1
          · intro wx hSw
            go_simp <;> with_reducible rfl
          simp only [Act.put, List.getElem_toArray, List.getElem_cons_zero, List.getElem_cons_succ, List.setIfInBounds_toArray, List.set_cons_zero, List.set_cons_succ]
          refine Go.wpAnyH_take (i := 10) (oi := _) (v := ?_) rfl (by kernel_rfl) (by kernel_rfl) (by kernel_rfl) (fun _ _ _ h => h) (Or.inl ⟨by rfl, ?_⟩) (by assumption) ?_
          rotate_left 1
          · intro wx hSw
            go_simp <;> with_reducible rfl
          simp only [Act.put, List.getElem_toArray, List.getElem_cons_zero, List.getElem_cons_succ, List.setIfInBounds_toArray, List.set_cons_zero, List.set_cons_succ]
          refine Go.wpAnyH_take (i := 11) (oi := _) (v := ?_) rfl (by kernel_rfl) (by kernel_rfl) (by kernel_rfl) (fun _ _ _ h => h) (Or.inl ⟨by rfl, ?_⟩) (by assumption) ?_
          rotate_left 1
          · intro wx hSw
            go_simp <;> with_reducible rfl
          simp only [Act.put, List.getElem_toArray, List.getElem_cons_zero, List.getElem_cons_succ, List.setIfInBounds_toArray, List.set_cons_zero, List.set_cons_succ]
          refine Go.wpAnyH_take (i := 12) (oi := _) (v := ?_) rfl (by kernel_rfl) (by kernel_rfl) (by kernel_rfl) (fun _ _ _ h => h) (Or.inl ⟨by rfl, ?_⟩) (by assumption) ?_
          rotate_left 1
          · intro wx hSw
            go_simp <;> with_reducible rfl
          simp only [Act.put, List.getElem_toArray, List.getElem_cons_zero, List.getElem_cons_succ, List.setIfInBounds_toArray, List.set_cons_zero, List.set_cons_succ]
          refine Go.wpAnyH_take (i := 13) (oi := _) (v := ?_) rfl (by kernel_rfl) (by kernel_rfl) (by kernel_rfl) (fun _ _ _ h => h) (Or.inl ⟨by rfl, ?_⟩) (by assumption) ?_
          rotate_left 1
          · intro wx hSw
            go_simp <;> with_reducible rfl
          simp only [Act.put, List.getElem_toArray, List.getElem_cons_zero, List.getElem_cons_succ, List.setIfInBounds_toArray, List.set_cons_zero, List.set_cons_succ]
          refine Go.wpAnyH_take (i := 14) (oi := _) (v := ?_) rfl (by kernel_rfl) (by kernel_rfl) (by kernel_rfl) (fun _ _ _ h => h) (Or.inl ⟨by rfl, ?_⟩) (by assumption) ?_
          rotate_left 1
          · intro wx hSw
            go_simp <;> with_reducible rfl
          simp only [Act.put, List.getElem_toArray, List.getElem_cons_zero, List.getElem_cons_succ, List.setIfInBounds_toArray, List.set_cons_zero, List.set_cons_succ]
          refine Go.wpAnyH_take (i := 16) (oi := _) (v := ?_) rfl (by kernel_rfl) (by kernel_rfl) (by kernel_rfl) (fun _ _ _ h => h) (Or.inl ⟨by rfl, ?_⟩) (by assumption) ?_
          rotate_left 1
          · intro wx hSw
            go_simp <;> with_reducible rfl
          simp only [Act.put, List.getElem_toArray, List.getElem_cons_zero, List.getElem_cons_succ, List.setIfInBounds_toArray, List.set_cons_zero, List.set_cons_succ]
          refine Go.wpAnyH_ready (rs := [15]) (by kernel_rfl) (by simp) ?_
          refine Go.AllReadyH.cons rfl (fun K hK => ?_) Go.AllReadyH.nil
          rw [if_pos (by rfl)]
          go_simp
          refine (kna.out _ hHeld.1.out).mono ?_
          rintro e v6_15 ⟨rfl, g6_15⟩
          refine hK.out _ _ (seen.out _ g6_15) (fun hHeld => ?_)
          clear hK K
          refine Go.wpAnyH_ready (rs := [17]) (by kernel_rfl) (by simp) ?_
          refine Go.AllReadyH.cons rfl (fun K hK => ?_) Go.AllReadyH.nil
          rw [if_pos (by rfl)]
          go_simp
          refine (knb.out _ hHeld.1.out).mono ?_
          rintro e v6_17 ⟨rfl, g6_17⟩
          refine hK.out _ _ (seen.out _ g6_17) (fun hHeld => ?_)
          clear hK K
          refine Go.wpAnyH_take (i := 18) (oi := _) (v := ?_) rfl (by kernel_rfl) (by kernel_rfl) (by kernel_rfl) (fun _ _ _ h => h) (Or.inl ⟨by rfl, ?_⟩) (by assumption) ?_
          rotate_left 1
          · intro wx hSw
            go_simp <;> with_reducible rfl
          simp only [Act.put, List.getElem_toArray, List.getElem_cons_zero, List.getElem_cons_succ, List.setIfInBounds_toArray, List.set_cons_zero, List.set_cons_succ]
          refine Go.wpAnyH_take (i := 19) (oi := _) (v := ?_) rfl (by kernel_rfl) (by kernel_rfl) (by kernel_rfl) (fun _ _ _ h => h) (Or.inl ⟨by rfl, ?_⟩) (by assumption) ?_
          rotate_left 1
          · intro wx hSw
            go_simp <;> with_reducible rfl
          simp only [Act.put, List.getElem_toArray, List.getElem_cons_zero, List.getElem_cons_succ, List.setIfInBounds_toArray, List.set_cons_zero, List.set_cons_succ]
          refine Go.wpAnyH_take (i := 20) (oi := _) (v := ?_) rfl (by kernel_rfl) (by kernel_rfl) (by kernel_rfl) (fun _ _ _ h => h) (Or.inl ⟨by rfl, ?_⟩) (by assumption) ?_
          rotate_left 1
          · intro wx hSw
            go_simp <;> with_reducible rfl
          simp only [Act.put, List.getElem_toArray, List.getElem_cons_zero, List.getElem_cons_succ, List.setIfInBounds_toArray, List.set_cons_zero, List.set_cons_succ]
          refine Go.wpAnyH_done (by kernel_rfl) ?_ _
          have H6 := Lib.hid hHeld.1.out
          obtain ⟨-, x0, x1, x2, x3, x4, x5, x6, x7, x8, x9, x10, x11, x12, x13, x14⟩ := hHeld
          go_wp2_with fail
          refine (cA.out _ (LQ.out _ H6.out)).mono ?_
          rintro e wz ⟨rfl, qz⟩
          clear x0 x1 x2 x3 x4 x5 x6 x7 x8 x9 x10 x11 x12 x13 x14
          go_wp2_with fail
          go_ret
          exact ⟨rfl, (LQ.out _ H6.out).trans qz⟩

end Go.Proofs.YtjmchjphdfbhiaaGreatDoor.val
