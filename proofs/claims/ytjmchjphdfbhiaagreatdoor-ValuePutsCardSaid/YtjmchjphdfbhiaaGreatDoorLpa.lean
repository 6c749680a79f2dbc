/- The law ValuePuts. -/
import Derived.Test.YtjmchjphdfbhiaaGreatDoorVal
import Derived.Test.YtjmchjphdfbhiaaGreatDoorVpx
import Derived.Test.YtjmchjphdfbhiaaGreatDoorWgt
import Derived.Test.YtjmchjphdfbhiaaGreatDoorWcm
namespace Go.Proofs.YtjmchjphdfbhiaaGreatDoor.val
open Go.RowKit
open Go.Proofs.YtjmchjphdfbhiaaGreatDoor
open Go.Proofs.YtjmchjphdfbhiaaGreatDoor.lit (Fx)
open Go.Proofs.YtjmchjphdfbhiaaGreatDoor.val.cp (Fit FitL Fit_iff FitL_mem set5 set5_block set5_world set5_at)
theorem get_mem (key : ByteArray) (x : V) : ∀ m : List (ByteArray × V), getP m key = some x → ∃ k, (k, x) ∈ m
  | [], h => by cases h
  | (a, v) :: t, h => by
    rw [getP] at h
    split at h
    · cases h
      exact ⟨a, List.mem_cons_self⟩
    · obtain ⟨k, hk⟩ := get_mem key x t h
      exact ⟨k, List.mem_cons_of_mem _ hk⟩
theorem getV_mem {v : V} {key : ByteArray} {x : V} (h : getV v key = some x) : x ∈ v.items := by
  unfold getV at h
  split at h
  · obtain ⟨k, hk⟩ := get_mem key x _ h
    exact (List.of_mem_zip hk).2
  · cases h
theorem wf_n : Wf vN := wf_leaf 0 0 (by decide) (by decide)
theorem saneL_in : ∀ (l : List V), saneL l → ∀ v ∈ l, sane v
  | [], _, v, hv => by cases hv
  | a :: t, h, v, hv => by
    rw [saneL] at h
    rcases List.mem_cons.1 hv with rfl | hv
    · exact h.1
    · exact saneL_in t h.2 v hv
theorem nodesL_in : ∀ (l : List V) (v : V), v ∈ l → nodes v ≤ nodesL l
  | [], v, hv => by cases hv
  | a :: t, v, hv => by
    rw [nodesL]
    rcases List.mem_cons.1 hv with rfl | hv
    · omega
    · have := nodesL_in t v hv
      omega
/-- An item's value. -/
def it (v : V) (k : ByteArray) : V := (getV v k).getD vN
theorem it_says (v : V) (k : ByteArray) (hs : sane v) (hw : Wf v) (hn : nodes v ≤ 400) : sane (it v k) ∧ Wf (it v k) ∧ nodes (it v k) ≤ 400 := by
  unfold it
  cases hg : getV v k with
  | none => exact ⟨by refine ⟨⟨fun h => absurd h (by decide), fun h => absurd h (by decide), fun _ => rfl⟩, trivial⟩, wf_n, by show nodes ⟨0, 0, ⟨#[]⟩, [], []⟩ ≤ 400; rw [nodes, nodesL]; omega⟩
  | some x =>
    have hm := getV_mem hg
    refine ⟨?_, (WfL_mem _).1 hw.items x hm, ?_⟩
    · cases v
      rw [sane] at hs
      exact saneL_in _ hs.2 x hm
    · have h1 := nodesL_in _ x hm
      have h2 : nodes v = 1 + nodesL v.items := by cases v; rw [nodes]; rfl
      show nodes x ≤ 400
      omega
/-- Get, with its cells. -/
theorem get_out (v : V) (k : ByteArray) (A3 : Option Addr) (k3 : Nat) (A4 : Option Addr) (k4 : Nat) (w : World) (h3 : Is (.slice A3 v.items.length k3) v.items w) (h4 : Ks (.slice A4 v.keys.length k4) v.keys w) (hs : srt v.keys) (hf : cp.Fit v) (hn : nodes v ≤ 200000) (Y : V) (O : Bool) (hY : it v k = Y) (hO : (getV v k).isSome = O) (hw : Wf Y) :
    Calls Tryz.prog 29 #[.agg #[.int .i64 v.kind, .int .i64 v.num, .string v.str, .slice A3 v.items.length k3, .slice A4 v.keys.length k4], .string k] w fun e w' => ∃ T3 t3 T4 t4, e = .returned (.tuple #[.agg #[.int .i64 Y.kind, .int .i64 Y.num, .string Y.str, .slice T3 Y.items.length t3, .slice T4 Y.keys.length t4], .bool O]) ∧ Va Y T3 t3 T4 t4 w' ∧ Q w w' := by
  refine (get_any v A3 A4 k3 k4 k w h3 h4 hs hf hn).mono ?_
  rintro e w' ⟨q', h⟩
  unfold it at hY
  cases hg : getV v k with
  | none =>
    rw [hg] at h hY hO
    subst hY
    subst hO
    exact ⟨none, 0, none, 0, h, ⟨Is.nil _ _ _, Ks.nil _ _ _, hw⟩, q'⟩
  | some x =>
    rw [hg] at h hY hO
    have hY : x = Y := hY
    subst hY
    subst hO
    obtain ⟨s3, s4, rfl, h3, h4⟩ := h
    obtain ⟨S3, c3, rfl, -⟩ := h3.shape
    obtain ⟨S4, c4, rfl, -⟩ := h4.shape
    exact ⟨S3, c3, S4, c4, rfl, ⟨h3, h4, hw⟩, q'⟩
/-- A value equals itself. -/
theorem equal_self (Y : V) (T3 : Option Addr) (t3 : Nat) (T4 : Option Addr) (t4 : Nat) (U3 : Option Addr) (u3 : Nat) (U4 : Option Addr) (u4 : Nat) (w : World) (h1 : Va Y T3 t3 T4 t4 w) (h2 : Va Y U3 u3 U4 u4 w) (hs : sane Y) (hn : nodes Y ≤ 400) :
    Calls Tryz.prog 34 #[.agg #[.int .i64 Y.kind, .int .i64 Y.num, .string Y.str, .slice T3 Y.items.length t3, .slice T4 Y.keys.length t4], .agg #[.int .i64 Y.kind, .int .i64 Y.num, .string Y.str, .slice U3 Y.items.length u3, .slice U4 Y.keys.length u4]] w fun e w' => e = .returned (.bool true) ∧ Q w w' := by
  have h := equal_any Y Y _ _ _ _ w w (Q.refl w) ⟨h1.1, h1.2.1, h1.2.2⟩ ⟨h2.1, h2.2.1, h2.2.2⟩ hs hs (by omega)
  rw [decide_eq_true ((cV_two.1 Y Y hs hs).1.2 rfl)] at h
  exact h
set_option maxRecDepth 100000 in
set_option maxHeartbeats 40000000 in
theorem puts_bad (a : V) (A3 : Option Addr) (k3 : Nat) (A4 : Option Addr) (k4 : Nat) (key : ByteArray) (b : V) (B3 : Option Addr) (l3 : Nat) (B4 : Option Addr) (l4 : Nat) (other : ByteArray) (w : World) (ha : Va a A3 k3 A4 k4 w) (hb : Va b B3 l3 B4 l4 w) (_hkey : key.size ≤ 281474976710656) (f : Fx w) (hno : ¬ ([a, b].all okV = true ∧ a.kind = 5)) :
    Calls Tryz.prog 9 #[vv a A3 k3 A4 k4, .agg #[.string key, .int .i64 b.kind, .int .i64 b.num, .string b.str, .slice B3 b.items.length l3, .slice B4 b.keys.length l4], .string other] w fun e w' => e = .returned (.bool true) ∧ Q w w' := by
  clear _hkey
  have cA := Lib.hid (fun w' (q : Q w w') => awake_any w' (q.fx f))
  have cVal : Hid (∀ w' D, Q w w' → Bk D #[.int .i64 a.kind, .int .i64 a.num, .string a.str, .slice A3 a.items.length k3, .slice A4 a.keys.length k4, .int .i64 b.kind, .int .i64 b.num, .string b.str, .slice B3 b.items.length l3, .slice B4 b.keys.length l4] 26 w' → Calls Tryz.prog 33 #[.slice (some ⟨D, 0, none⟩) 2 2] w' fun e w'' => e = .returned (.bool ([a, b].all okV)) ∧ Q w' w'') := Lib.hid (fun w' D q hD => valid_law [a, b] _ 2 2 w' ⟨_, 2, rfl, Nat.le_refl _, fun _ => ⟨D, 0, rfl, by
    rw [VL_cons, VL_cons]
    exact ⟨⟨_, _, _, _, _, hD.at 0 _ rfl, hD.at 1 _ rfl, hD.at 2 _ rfl, hD.at 3 _ rfl, hD.at 4 _ rfl, Vi.of (ha.1.stays q) (ha.2.1.stays q)⟩, ⟨_, _, _, _, _, hD.at 5 _ rfl, hD.at 6 _ rfl, hD.at 7 _ rfl, hD.at 8 _ rfl, hD.at 9 _ rfl, Vi.of (hb.1.stays q) (hb.2.1.stays q)⟩, VL_nil _ _ _⟩⟩⟩ ((WfL_cons _ _).2 ⟨ha.2.2, (WfL_cons _ _).2 ⟨hb.2.2, WfL_nil⟩⟩) (by decide))
  unfold vv
  by_cases hall : [a, b].all okV = true
  rotate_left 1
  · rw [Bool.not_eq_true] at hall
    rw [hall] at cVal
    clear hall
    obtain ⟨ak, eak⟩ : ∃ x, a.kind = x := ⟨_, rfl⟩
    obtain ⟨an, ean⟩ : ∃ x, a.num = x := ⟨_, rfl⟩
    obtain ⟨as', eas_⟩ : ∃ x, a.str = x := ⟨_, rfl⟩
    obtain ⟨an3, ean3⟩ : ∃ x, a.items.length = x := ⟨_, rfl⟩
    obtain ⟨an4, ean4⟩ : ∃ x, a.keys.length = x := ⟨_, rfl⟩
    obtain ⟨bk, ebk⟩ : ∃ x, b.kind = x := ⟨_, rfl⟩
    obtain ⟨bn, ebn⟩ : ∃ x, b.num = x := ⟨_, rfl⟩
    obtain ⟨bs, ebs⟩ : ∃ x, b.str = x := ⟨_, rfl⟩
    obtain ⟨bn3, ebn3⟩ : ∃ x, b.items.length = x := ⟨_, rfl⟩
    obtain ⟨bn4, ebn4⟩ : ∃ x, b.keys.length = x := ⟨_, rfl⟩
    rw [eak, ean, eas_, ean3, ean4] at cVal
    rw [eak, ean, eas_, ean3, ean4] at ⊢
    rw [ebk, ebn, ebs, ebn3, ebn4] at cVal
    rw [ebk, ebn, ebs, ebn3, ebn4] at ⊢
    clear ha hb
    obtain ⟨P1, hP1⟩ : ∃ x, w.heap.size = x := ⟨_, rfl⟩
    obtain ⟨wb1, hwb1⟩ : ∃ x, w.alloc (.cells #[.int .i64 ak, .int .i64 an, .string as', .slice A3 an3 k3, .slice A4 an4 k4] 26) = x := ⟨_, rfl⟩
    obtain ⟨P2, hP2⟩ : ∃ x, wb1.heap.size = x := ⟨_, rfl⟩
    obtain ⟨wb2, hwb2⟩ : ∃ x, wb1.alloc (.cells #[.string key, .int .i64 bk, .int .i64 bn, .string bs, .slice B3 bn3 l3, .slice B4 bn4 l4] 41) = x := ⟨_, rfl⟩
    have bA : Bk P1 #[.int .i64 ak, .int .i64 an, .string as', .slice A3 an3 k3, .slice A4 an4 k4] 26 wb1 := by rw [← hwb1, ← hP1]; exact Bk.new _ _ _
    have qb1 : Q w wb1 := by rw [← hwb1]; exact Q.box _ _
    have qb2 : Q wb1 wb2 := by rw [← hwb2]; exact Q.box _ _
    have bE : Bk P2 #[.string key, .int .i64 bk, .int .i64 bn, .string bs, .slice B3 bn3 l3, .slice B4 bn4 l4] 41 wb2 := by rw [← hwb2, ← hP2]; exact Bk.new _ _ _
    obtain ⟨P3, hP3⟩ : ∃ x, wb2.heap.size = x := ⟨_, rfl⟩
    obtain ⟨wb3, hwb3⟩ : ∃ x, (wb2.alloc (.cells #[.int .i64 0, .int .i64 0, .string ⟨#[]⟩, .slice none 0 0, .slice none 0 0] 26)).drew = x := ⟨_, rfl⟩
    have qE : Q wb2 wb3 := by rw [← hwb3]; exact Q.boxed wb2 _ 1
    have bZ : Bk P3 #[.int .i64 0, .int .i64 0, .string ⟨#[]⟩, .slice none 0 0, .slice none 0 0] 26 wb3 := by
      rw [← hwb3, ← hP3]
      exact (Bk.new _ _ _).stays (Q.drewN _ 1)
    have bE3 := bE.stays qE
    have v0 : wb2.drew.cell? ⟨P2, 0, none⟩ = _ := bE.at 0 _ rfl
    have v1 : wb2.drew.cell? ⟨P2, 1, none⟩ = _ := bE.at 1 _ rfl
    have v2 : wb2.drew.cell? ⟨P2, 2, none⟩ = _ := bE.at 2 _ rfl
    have v3 : wb2.drew.cell? ⟨P2, 3, none⟩ = _ := bE.at 3 _ rfl
    have v4 : wb2.drew.cell? ⟨P2, 4, none⟩ = _ := bE.at 4 _ rfl
    have v5 : wb2.drew.cell? ⟨P2, 5, none⟩ = _ := bE.at 5 _ rfl
    have u0 := bE3.at 0 _ rfl
    have u1 := bE3.at 1 _ rfl
    have u2 := bE3.at 2 _ rfl
    have u3 := bE3.at 3 _ rfl
    have u4 := bE3.at 4 _ rfl
    have u5 := bE3.at 5 _ rfl
    have z0 := bZ.at 0 _ rfl
    have z1 := bZ.at 1 _ rfl
    have z2 := bZ.at 2 _ rfl
    have z3 := bZ.at 3 _ rfl
    have z4 := bZ.at 4 _ rfl
    have f0 := bZ.frozen 0
    have f1 := bZ.frozen 1
    have f2 := bZ.frozen 2
    have f3 := bZ.frozen 3
    have f4 := bZ.frozen 4
    obtain ⟨bf, qf⟩ := store5 (k := bk) (n := bn) (s := bs) (s3 := .slice B3 bn3 l3) (s4 := .slice B4 bn4 l4) hP3.symm bZ qE
    obtain ⟨w4, hw4⟩ : ∃ x, set5 wb3 P3 0 (.int .i64 bk) (.int .i64 bn) (.string bs) (.slice B3 bn3 l3) (.slice B4 bn4 l4) = x := ⟨_, rfl⟩
    rw [hw4] at bf qf
    obtain ⟨D, hD⟩ : ∃ x, w4.heap.size = x := ⟨_, rfl⟩
    obtain ⟨w5, hw5⟩ : ∃ x, w4.alloc (.cells #[.int .i64 ak, .int .i64 an, .string as', .slice A3 an3 k3, .slice A4 an4 k4, .int .i64 bk, .int .i64 bn, .string bs, .slice B3 bn3 l3, .slice B4 bn4 l4] 26) = x := ⟨_, rfl⟩
    have q5 : Q w4 w5 := by rw [← hw5]; exact Q.box _ _
    obtain ⟨L, hL⟩ : ∃ L : World → Prop, L = fun w' => Q w w' ∧ Bk P1 #[.int .i64 ak, .int .i64 an, .string as', .slice A3 an3 k3, .slice A4 an4 k4] 26 w' ∧ Bk P3 #[.int .i64 bk, .int .i64 bn, .string bs, .slice B3 bn3 l3, .slice B4 bn4 l4] 26 w' := ⟨_, rfl⟩
    have q45 := ((qb1.trans qb2).trans qf).trans q5
    have L0 : Hid (L w5) := Lib.hid (by rw [hL]; exact ⟨q45, bA.stays ((qb2.trans qf).trans q5), bf.stays q5⟩)
    have Lst : Hid (∀ w' w'', L w' → Q w' w'' → L w'') := Lib.hid (fun w' w'' h q => by rw [hL] at h ⊢; exact ⟨h.1.trans q, h.2.1.stays q, h.2.2.stays q⟩)
    have LQ : Hid (∀ w', L w' → Q w w') := Lib.hid (fun w' h => by rw [hL] at h; exact h.1)
    have Lsee : Hid (∀ w', L w' → w'.cell? ⟨P1, 0, none⟩ = some (.int .i64 ak) ∧ w'.cell? ⟨P1, 1, none⟩ = some (.int .i64 an) ∧ w'.cell? ⟨P1, 2, none⟩ = some (.string as') ∧ w'.cell? ⟨P1, 3, none⟩ = some (.slice A3 an3 k3) ∧ w'.cell? ⟨P1, 4, none⟩ = some (.slice A4 an4 k4) ∧ w'.cell? ⟨P3, 0, none⟩ = some (.int .i64 bk) ∧ w'.cell? ⟨P3, 1, none⟩ = some (.int .i64 bn) ∧ w'.cell? ⟨P3, 2, none⟩ = some (.string bs) ∧ w'.cell? ⟨P3, 3, none⟩ = some (.slice B3 bn3 l3) ∧ w'.cell? ⟨P3, 4, none⟩ = some (.slice B4 bn4 l4)) := Lib.hid (fun w' h => by rw [hL] at h; exact ⟨h.2.1.at 0 _ rfl, h.2.1.at 1 _ rfl, h.2.1.at 2 _ rfl, h.2.1.at 3 _ rfl, h.2.1.at 4 _ rfl, h.2.2.at 0 _ rfl, h.2.2.at 1 _ rfl, h.2.2.at 2 _ rfl, h.2.2.at 3 _ rfl, h.2.2.at 4 _ rfl⟩)
    have cVd := Lib.hid (cVal.out w5 D q45 (by rw [← hw5, ← hD]; exact Bk.new _ _ _))
    have q04 : Hid (Q w w4) := Lib.hid ((qb1.trans qb2).trans qf)
    have L4 : Hid (L w4) := Lib.hid (by rw [hL]; exact ⟨q04.out, bA.stays (qb2.trans qf), bf⟩)
    clear hL q45 q5 bA qb1 qb2 bf qf qE bZ bE bE3 cVal
    unfold set5 at hw4
    simp only [Nat.zero_add] at hw4
    go_enter Tryz.func9, Tryz.ntmps9
    go_wp2_with fail
    go_region
    try rw [hw4]
    clear hw4 v0 v1 v2 v3 v4 v5 u0 u1 u2 u3 u4 u5 z0 z1 z2 z3 z4 f0 f1 f2 f3 f4
    obtain ⟨x0, x1, x2, x3, x4, x5, x6, x7, x8, x9⟩ := Lsee.out _ L4.out
    go_wp2_with fail
    refine (cVd.out).mono ?_
    rintro e w6 ⟨rfl, q6⟩
    have L6 := Lib.hid (Lst.out _ _ L0.out q6)
    clear q6 hw5 hD x0 x1 x2 x3 x4 x5 x6 x7 x8 x9
    obtain ⟨x0, x1, x2, x3, x4, x5, x6, x7, x8, x9⟩ := Lsee.out _ L6.out
    go_wp2_with fail
    refine (cA.out _ (LQ.out _ L6.out)).mono ?_
    rintro e wz ⟨rfl, qz⟩
    clear x0 x1 x2 x3 x4 x5 x6 x7 x8 x9
    go_wp2_with fail
    go_ret
    exact ⟨rfl, (LQ.out _ L6.out).trans qz⟩
  have h5 : ¬ a.kind = 5 := fun h => hno ⟨hall, h⟩
  rw [hall] at cVal
  simp only [List.all_cons, List.all_nil, Bool.and_true, Bool.and_eq_true] at hall
  obtain ⟨oa, ob⟩ := hall
  obtain ⟨na, ca, sa⟩ := okV_says oa
  obtain ⟨nb, cb, sb⟩ := okV_says ob
  clear oa ob
  clear na ca sa nb cb sb
  obtain ⟨ak, eak⟩ : ∃ x, a.kind = x := ⟨_, rfl⟩
  obtain ⟨an, ean⟩ : ∃ x, a.num = x := ⟨_, rfl⟩
  obtain ⟨as', eas_⟩ : ∃ x, a.str = x := ⟨_, rfl⟩
  obtain ⟨an3, ean3⟩ : ∃ x, a.items.length = x := ⟨_, rfl⟩
  obtain ⟨an4, ean4⟩ : ∃ x, a.keys.length = x := ⟨_, rfl⟩
  obtain ⟨bk, ebk⟩ : ∃ x, b.kind = x := ⟨_, rfl⟩
  obtain ⟨bn, ebn⟩ : ∃ x, b.num = x := ⟨_, rfl⟩
  obtain ⟨bs, ebs⟩ : ∃ x, b.str = x := ⟨_, rfl⟩
  obtain ⟨bn3, ebn3⟩ : ∃ x, b.items.length = x := ⟨_, rfl⟩
  obtain ⟨bn4, ebn4⟩ : ∃ x, b.keys.length = x := ⟨_, rfl⟩
  rw [eak, ean, eas_, ean3, ean4] at cVal
  rw [eak] at h5
  rw [eak, ean, eas_, ean3, ean4] at ⊢
  rw [ebk, ebn, ebs, ebn3, ebn4] at cVal
  rw [ebk, ebn, ebs, ebn3, ebn4] at ⊢
  have h5n : (ak != (5 : Int)) = true := bne_iff_ne.2 h5
  clear ha hb h5
  obtain ⟨P1, hP1⟩ : ∃ x, w.heap.size = x := ⟨_, rfl⟩
  obtain ⟨wb1, hwb1⟩ : ∃ x, w.alloc (.cells #[.int .i64 ak, .int .i64 an, .string as', .slice A3 an3 k3, .slice A4 an4 k4] 26) = x := ⟨_, rfl⟩
  obtain ⟨P2, hP2⟩ : ∃ x, wb1.heap.size = x := ⟨_, rfl⟩
  obtain ⟨wb2, hwb2⟩ : ∃ x, wb1.alloc (.cells #[.string key, .int .i64 bk, .int .i64 bn, .string bs, .slice B3 bn3 l3, .slice B4 bn4 l4] 41) = x := ⟨_, rfl⟩
  have bA : Bk P1 #[.int .i64 ak, .int .i64 an, .string as', .slice A3 an3 k3, .slice A4 an4 k4] 26 wb1 := by rw [← hwb1, ← hP1]; exact Bk.new _ _ _
  have qb1 : Q w wb1 := by rw [← hwb1]; exact Q.box _ _
  have qb2 : Q wb1 wb2 := by rw [← hwb2]; exact Q.box _ _
  have bE : Bk P2 #[.string key, .int .i64 bk, .int .i64 bn, .string bs, .slice B3 bn3 l3, .slice B4 bn4 l4] 41 wb2 := by rw [← hwb2, ← hP2]; exact Bk.new _ _ _
  obtain ⟨P3, hP3⟩ : ∃ x, wb2.heap.size = x := ⟨_, rfl⟩
  obtain ⟨wb3, hwb3⟩ : ∃ x, (wb2.alloc (.cells #[.int .i64 0, .int .i64 0, .string ⟨#[]⟩, .slice none 0 0, .slice none 0 0] 26)).drew = x := ⟨_, rfl⟩
  have qE : Q wb2 wb3 := by rw [← hwb3]; exact Q.boxed wb2 _ 1
  have bZ : Bk P3 #[.int .i64 0, .int .i64 0, .string ⟨#[]⟩, .slice none 0 0, .slice none 0 0] 26 wb3 := by
    rw [← hwb3, ← hP3]
    exact (Bk.new _ _ _).stays (Q.drewN _ 1)
  have bE3 := bE.stays qE
  have v0 : wb2.drew.cell? ⟨P2, 0, none⟩ = _ := bE.at 0 _ rfl
  have v1 : wb2.drew.cell? ⟨P2, 1, none⟩ = _ := bE.at 1 _ rfl
  have v2 : wb2.drew.cell? ⟨P2, 2, none⟩ = _ := bE.at 2 _ rfl
  have v3 : wb2.drew.cell? ⟨P2, 3, none⟩ = _ := bE.at 3 _ rfl
  have v4 : wb2.drew.cell? ⟨P2, 4, none⟩ = _ := bE.at 4 _ rfl
  have v5 : wb2.drew.cell? ⟨P2, 5, none⟩ = _ := bE.at 5 _ rfl
  have u0 := bE3.at 0 _ rfl
  have u1 := bE3.at 1 _ rfl
  have u2 := bE3.at 2 _ rfl
  have u3 := bE3.at 3 _ rfl
  have u4 := bE3.at 4 _ rfl
  have u5 := bE3.at 5 _ rfl
  have z0 := bZ.at 0 _ rfl
  have z1 := bZ.at 1 _ rfl
  have z2 := bZ.at 2 _ rfl
  have z3 := bZ.at 3 _ rfl
  have z4 := bZ.at 4 _ rfl
  have f0 := bZ.frozen 0
  have f1 := bZ.frozen 1
  have f2 := bZ.frozen 2
  have f3 := bZ.frozen 3
  have f4 := bZ.frozen 4
  obtain ⟨bf, qf⟩ := store5 (k := bk) (n := bn) (s := bs) (s3 := .slice B3 bn3 l3) (s4 := .slice B4 bn4 l4) hP3.symm bZ qE
  obtain ⟨w4, hw4⟩ : ∃ x, set5 wb3 P3 0 (.int .i64 bk) (.int .i64 bn) (.string bs) (.slice B3 bn3 l3) (.slice B4 bn4 l4) = x := ⟨_, rfl⟩
  rw [hw4] at bf qf
  obtain ⟨D, hD⟩ : ∃ x, w4.heap.size = x := ⟨_, rfl⟩
  obtain ⟨w5, hw5⟩ : ∃ x, w4.alloc (.cells #[.int .i64 ak, .int .i64 an, .string as', .slice A3 an3 k3, .slice A4 an4 k4, .int .i64 bk, .int .i64 bn, .string bs, .slice B3 bn3 l3, .slice B4 bn4 l4] 26) = x := ⟨_, rfl⟩
  have q5 : Q w4 w5 := by rw [← hw5]; exact Q.box _ _
  obtain ⟨L, hL⟩ : ∃ L : World → Prop, L = fun w' => Q w w' ∧ Bk P1 #[.int .i64 ak, .int .i64 an, .string as', .slice A3 an3 k3, .slice A4 an4 k4] 26 w' ∧ Bk P3 #[.int .i64 bk, .int .i64 bn, .string bs, .slice B3 bn3 l3, .slice B4 bn4 l4] 26 w' := ⟨_, rfl⟩
  have q45 := ((qb1.trans qb2).trans qf).trans q5
  have L0 : Hid (L w5) := Lib.hid (by rw [hL]; exact ⟨q45, bA.stays ((qb2.trans qf).trans q5), bf.stays q5⟩)
  have Lst : Hid (∀ w' w'', L w' → Q w' w'' → L w'') := Lib.hid (fun w' w'' h q => by rw [hL] at h ⊢; exact ⟨h.1.trans q, h.2.1.stays q, h.2.2.stays q⟩)
  have LQ : Hid (∀ w', L w' → Q w w') := Lib.hid (fun w' h => by rw [hL] at h; exact h.1)
  have Lsee : Hid (∀ w', L w' → w'.cell? ⟨P1, 0, none⟩ = some (.int .i64 ak) ∧ w'.cell? ⟨P1, 1, none⟩ = some (.int .i64 an) ∧ w'.cell? ⟨P1, 2, none⟩ = some (.string as') ∧ w'.cell? ⟨P1, 3, none⟩ = some (.slice A3 an3 k3) ∧ w'.cell? ⟨P1, 4, none⟩ = some (.slice A4 an4 k4) ∧ w'.cell? ⟨P3, 0, none⟩ = some (.int .i64 bk) ∧ w'.cell? ⟨P3, 1, none⟩ = some (.int .i64 bn) ∧ w'.cell? ⟨P3, 2, none⟩ = some (.string bs) ∧ w'.cell? ⟨P3, 3, none⟩ = some (.slice B3 bn3 l3) ∧ w'.cell? ⟨P3, 4, none⟩ = some (.slice B4 bn4 l4)) := Lib.hid (fun w' h => by rw [hL] at h; exact ⟨h.2.1.at 0 _ rfl, h.2.1.at 1 _ rfl, h.2.1.at 2 _ rfl, h.2.1.at 3 _ rfl, h.2.1.at 4 _ rfl, h.2.2.at 0 _ rfl, h.2.2.at 1 _ rfl, h.2.2.at 2 _ rfl, h.2.2.at 3 _ rfl, h.2.2.at 4 _ rfl⟩)
  have cVd := Lib.hid (cVal.out w5 D q45 (by rw [← hw5, ← hD]; exact Bk.new _ _ _))
  have q04 : Hid (Q w w4) := Lib.hid ((qb1.trans qb2).trans qf)
  have L4 : Hid (L w4) := Lib.hid (by rw [hL]; exact ⟨q04.out, bA.stays (qb2.trans qf), bf⟩)
  clear hL q45 q5 bA qb1 qb2 bf qf qE bZ bE bE3 cVal
  unfold set5 at hw4
  simp only [Nat.zero_add] at hw4
  go_enter Tryz.func9, Tryz.ntmps9
  go_wp2_with fail
  go_region
  try rw [hw4]
  clear hw4 v0 v1 v2 v3 v4 v5 u0 u1 u2 u3 u4 u5 z0 z1 z2 z3 z4 f0 f1 f2 f3 f4
  obtain ⟨x0, x1, x2, x3, x4, x5, x6, x7, x8, x9⟩ := Lsee.out _ L4.out
  go_wp2_with fail
  refine (cVd.out).mono ?_
  rintro e w6 ⟨rfl, q6⟩
  have L6 := Lib.hid (Lst.out _ _ L0.out q6)
  clear q6 hw5 hD x0 x1 x2 x3 x4 x5 x6 x7 x8 x9
  obtain ⟨x0, x1, x2, x3, x4, x5, x6, x7, x8, x9⟩ := Lsee.out _ L6.out
  go_wp2_with fail
  refine (cA.out _ (LQ.out _ L6.out)).mono ?_
  rintro e wz ⟨rfl, qz⟩
  clear x0 x1 x2 x3 x4 x5 x6 x7 x8 x9
  go_wp2_with fail
  go_ret
  exact ⟨rfl, (LQ.out _ L6.out).trans qz⟩

end Go.Proofs.YtjmchjphdfbhiaaGreatDoor.val
