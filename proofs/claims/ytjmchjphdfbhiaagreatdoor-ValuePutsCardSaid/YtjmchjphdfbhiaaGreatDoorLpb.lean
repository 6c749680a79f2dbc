/- ValuePuts: the same key. -/
import Derived.Test.YtjmchjphdfbhiaaGreatDoorLpa
namespace Go.Proofs.YtjmchjphdfbhiaaGreatDoor.val
open Go.RowKit
open Go.Proofs.YtjmchjphdfbhiaaGreatDoor
open Go.Proofs.YtjmchjphdfbhiaaGreatDoor.lit (Fx)
open Go.Proofs.YtjmchjphdfbhiaaGreatDoor.val.cp (Fit FitL Fit_iff FitL_mem set5 set5_block set5_world set5_at)
set_option maxRecDepth 100000 in
set_option maxHeartbeats 40000000 in
theorem puts_eq0 (a : V) (A3 : Option Addr) (k3 : Nat) (A4 : Option Addr) (k4 : Nat) (key : ByteArray) (b : V) (B3 : Option Addr) (l3 : Nat) (B4 : Option Addr) (l4 : Nat) (other : ByteArray) (w : World) (ha : Va a A3 k3 A4 k4 w) (hb : Va b B3 l3 B4 l4 w) (hkey : key.size ≤ 281474976710656) (f : Fx w) (hall : [a, b].all okV = true) (h5 : a.kind = 5) (ho : other = key) (hold : (getV a key).isSome = false) :
    Calls Tryz.prog 9 #[vv a A3 k3 A4 k4, .agg #[.string key, .int .i64 b.kind, .int .i64 b.num, .string b.str, .slice B3 b.items.length l3, .slice B4 b.keys.length l4], .string other] w fun e w' => e = .returned (.bool true) ∧ Q w w' := by
  have cA := Lib.hid (fun w' (q : Q w w') => awake_any w' (q.fx f))
  have cVal : Hid (∀ w' D, Q w w' → Bk D #[.int .i64 a.kind, .int .i64 a.num, .string a.str, .slice A3 a.items.length k3, .slice A4 a.keys.length k4, .int .i64 b.kind, .int .i64 b.num, .string b.str, .slice B3 b.items.length l3, .slice B4 b.keys.length l4] 26 w' → Calls Tryz.prog 33 #[.slice (some ⟨D, 0, none⟩) 2 2] w' fun e w'' => e = .returned (.bool ([a, b].all okV)) ∧ Q w' w'') := Lib.hid (fun w' D q hD => valid_law [a, b] _ 2 2 w' ⟨_, 2, rfl, Nat.le_refl _, fun _ => ⟨D, 0, rfl, by
    rw [VL_cons, VL_cons]
    exact ⟨⟨_, _, _, _, _, hD.at 0 _ rfl, hD.at 1 _ rfl, hD.at 2 _ rfl, hD.at 3 _ rfl, hD.at 4 _ rfl, Vi.of (ha.1.stays q) (ha.2.1.stays q)⟩, ⟨_, _, _, _, _, hD.at 5 _ rfl, hD.at 6 _ rfl, hD.at 7 _ rfl, hD.at 8 _ rfl, hD.at 9 _ rfl, Vi.of (hb.1.stays q) (hb.2.1.stays q)⟩, VL_nil _ _ _⟩⟩⟩ ((WfL_cons _ _).2 ⟨ha.2.2, (WfL_cons _ _).2 ⟨hb.2.2, WfL_nil⟩⟩) (by decide))
  unfold vv
  rw [hall] at cVal
  simp only [List.all_cons, List.all_nil, Bool.and_true, Bool.and_eq_true] at hall
  obtain ⟨oa, ob⟩ := hall
  obtain ⟨na, ca, sa⟩ := okV_says oa
  obtain ⟨nb, cb, sb⟩ := okV_says ob
  clear oa ob
  have hl : a.keys.length = a.items.length := (valid_shape ca).2.1 h5
  have fa := valid_fit ca
  have fb := valid_fit cb
  have sr := valid_srt ca
  have han := len_nodesL a.items
  have han2 : nodes a = 1 + nodesL a.items := by cases a; rw [nodes]; rfl
  obtain ⟨p, hp⟩ : ∃ p, putV a key b = p := ⟨_, rfl⟩
  have e4 : p.keys.length = p.items.length := by rw [← hp]; exact putV_len _ _ _
  have sp : srt p.keys := by rw [← hp]; exact putV_srt a key b sr
  have fp : cp.Fit p := by rw [← hp]; exact putV_fit a key b fa fb hkey (by omega) hl
  have np : nodes p ≤ 200000 := by have := putV_nodes a key b hl; rw [hp] at this; omega
  have lp := putV_keys a key b sr h5 hl
  have gs := getV_put_same a key b
  rw [hp] at lp gs
  have pu : Hid (∀ w', Q w w' → Calls Tryz.prog 31 #[.agg #[.int .i64 a.kind, .int .i64 a.num, .string a.str, .slice A3 a.items.length k3, .slice A4 a.keys.length k4], .string key, .agg #[.int .i64 b.kind, .int .i64 b.num, .string b.str, .slice B3 b.items.length l3, .slice B4 b.keys.length l4]] w' fun e w'' => ∃ S3 s3 S4 s4, e = .returned (.agg #[.int .i64 5, .int .i64 0, .string ⟨#[]⟩, .slice S3 p.items.length s3, .slice S4 p.items.length s4]) ∧ Is (.slice S3 p.items.length s3) p.items w'' ∧ Ks (.slice S4 p.items.length s4) p.keys w'' ∧ Q w' w'') := Lib.hid (fun w' q => by
    have h := putV_any a A3 k3 A4 k4 b B3 l3 B4 l4 key w' (ha.1.stays q) (ha.2.1.stays q) (hb.1.stays q) (hb.2.1.stays q) hkey ca cb na nb h5
    rw [hp] at h
    exact h)
  have gp : Hid (∀ (k : ByteArray) (Y : V) (O : Bool), it p k = Y → (getV p k).isSome = O → Wf Y → ∀ (S3 : Option Addr) (s3 : Nat) (S4 : Option Addr) (s4 : Nat) (w' : World), Is (.slice S3 p.items.length s3) p.items w' → Ks (.slice S4 p.items.length s4) p.keys w' → Calls Tryz.prog 29 #[.agg #[.int .i64 5, .int .i64 0, .string ⟨#[]⟩, .slice S3 p.items.length s3, .slice S4 p.items.length s4], .string k] w' fun e w'' => ∃ T3 t3 T4 t4, e = .returned (.tuple #[.agg #[.int .i64 Y.kind, .int .i64 Y.num, .string Y.str, .slice T3 Y.items.length t3, .slice T4 Y.keys.length t4], .bool O]) ∧ Va Y T3 t3 T4 t4 w'' ∧ Q w' w'') := Lib.hid (fun k Y O hY hO hw S3 s3 S4 s4 w' g3 g4 => by
    rw [← e4] at g4
    have h := get_out p k S3 s3 S4 s4 w' g3 g4 sp fp np Y O hY hO hw
    rw [e4] at h
    have ek : p.kind = 5 := by rw [← hp]; rfl
    have en : p.num = 0 := by rw [← hp]; rfl
    have es : p.str = ⟨#[]⟩ := by rw [← hp]; rfl
    rw [ek, en, es] at h
    exact h)
  have gm : Hid (∀ (k : ByteArray) (Y : V) (O : Bool), it a k = Y → (getV a k).isSome = O → Wf Y → ∀ w', Q w w' → Calls Tryz.prog 29 #[.agg #[.int .i64 a.kind, .int .i64 a.num, .string a.str, .slice A3 a.items.length k3, .slice A4 a.keys.length k4], .string k] w' fun e w'' => ∃ T3 t3 T4 t4, e = .returned (.tuple #[.agg #[.int .i64 Y.kind, .int .i64 Y.num, .string Y.str, .slice T3 Y.items.length t3, .slice T4 Y.keys.length t4], .bool O]) ∧ Va Y T3 t3 T4 t4 w'' ∧ Q w' w'') := Lib.hid (fun k Y O hY hO hw w' q => get_out a k A3 k3 A4 k4 w' (ha.1.stays q) (ha.2.1.stays q) sr fa (by omega) Y O hY hO hw)
  obtain ⟨Z, hZ⟩ : ∃ Z, it a key = Z := ⟨_, rfl⟩
  obtain ⟨sZ, wZ, nZ⟩ := it_says a key sa ha.2.2 na
  rw [hZ] at sZ wZ nZ
  obtain ⟨OLD, hOLD⟩ : ∃ O, (getV a key).isSome = O := ⟨_, rfl⟩
  have gmk := Lib.hid (gm.out key Z OLD hZ hOLD wZ)
  have gpk := Lib.hid (gp.out key b true (by unfold it; rw [gs]; rfl) (by rw [gs]; rfl) hb.2.2)
  have eqb := Lib.hid (fun T3 t3 T4 t4 U3 u3 U4 u4 w' (h1 : Va b T3 t3 T4 t4 w') (h2 : Va b U3 u3 U4 u4 w') => equal_self b T3 t3 T4 t4 U3 u3 U4 u4 w' h1 h2 sb nb)
  rw [hOLD] at lp
  obtain rfl : OLD = false := by rw [← hOLD]; exact hold
  rw [e4] at lp
  have la : a.keys.length ≤ 400 := by omega
  clear sZ nZ wZ hZ hOLD fa fb sr han han2 e4 sp fp np ca cb sb nb hkey
  clear sa na
  obtain rfl : key = other := ho.symm
  have gmo := gmk
  have gpo := gpk
  clear gp gm gs ho
  obtain ⟨ak, eak⟩ : ∃ x, a.kind = x := ⟨_, rfl⟩
  obtain ⟨an, ean⟩ : ∃ x, a.num = x := ⟨_, rfl⟩
  obtain ⟨as', eas_⟩ : ∃ x, a.str = x := ⟨_, rfl⟩
  obtain ⟨an3, ean3⟩ : ∃ x, a.items.length = x := ⟨_, rfl⟩
  obtain ⟨an4, ean4⟩ : ∃ x, a.keys.length = x := ⟨_, rfl⟩
  obtain ⟨bk, ebk⟩ : ∃ x, b.kind = x := ⟨_, rfl⟩
  obtain ⟨bn, ebn⟩ : ∃ x, b.num = x := ⟨_, rfl⟩
  obtain ⟨bs, ebs⟩ : ∃ x, b.str = x := ⟨_, rfl⟩
  obtain ⟨bn3, ebn3⟩ : ∃ x, b.items.length = x := ⟨_, rfl⟩
  obtain ⟨bn4, ebn4⟩ : ∃ x, b.keys.length = x := ⟨_, rfl⟩
  obtain ⟨zk, ezk⟩ : ∃ x, Z.kind = x := ⟨_, rfl⟩
  obtain ⟨zn, ezn⟩ : ∃ x, Z.num = x := ⟨_, rfl⟩
  obtain ⟨zs, ezs⟩ : ∃ x, Z.str = x := ⟨_, rfl⟩
  obtain ⟨zn3, ezn3⟩ : ∃ x, Z.items.length = x := ⟨_, rfl⟩
  obtain ⟨zn4, ezn4⟩ : ∃ x, Z.keys.length = x := ⟨_, rfl⟩
  obtain ⟨pn, epn⟩ : ∃ x, p.items.length = x := ⟨_, rfl⟩
  try rw [eak] at cVal
  try rw [ean] at cVal
  try rw [eas_] at cVal
  try rw [ean3] at cVal
  try rw [ean4] at cVal
  try rw [ebk] at cVal
  try rw [ebn] at cVal
  try rw [ebs] at cVal
  try rw [ebn3] at cVal
  try rw [ebn4] at cVal
  try rw [ezk] at cVal
  try rw [ezn] at cVal
  try rw [ezs] at cVal
  try rw [ezn3] at cVal
  try rw [ezn4] at cVal
  try rw [epn] at cVal
  try rw [eak] at h5
  try rw [ean] at h5
  try rw [eas_] at h5
  try rw [ean3] at h5
  try rw [ean4] at h5
  try rw [ebk] at h5
  try rw [ebn] at h5
  try rw [ebs] at h5
  try rw [ebn3] at h5
  try rw [ebn4] at h5
  try rw [ezk] at h5
  try rw [ezn] at h5
  try rw [ezs] at h5
  try rw [ezn3] at h5
  try rw [ezn4] at h5
  try rw [epn] at h5
  try rw [eak] at pu
  try rw [ean] at pu
  try rw [eas_] at pu
  try rw [ean3] at pu
  try rw [ean4] at pu
  try rw [ebk] at pu
  try rw [ebn] at pu
  try rw [ebs] at pu
  try rw [ebn3] at pu
  try rw [ebn4] at pu
  try rw [ezk] at pu
  try rw [ezn] at pu
  try rw [ezs] at pu
  try rw [ezn3] at pu
  try rw [ezn4] at pu
  try rw [epn] at pu
  try rw [eak] at gmk
  try rw [ean] at gmk
  try rw [eas_] at gmk
  try rw [ean3] at gmk
  try rw [ean4] at gmk
  try rw [ebk] at gmk
  try rw [ebn] at gmk
  try rw [ebs] at gmk
  try rw [ebn3] at gmk
  try rw [ebn4] at gmk
  try rw [ezk] at gmk
  try rw [ezn] at gmk
  try rw [ezs] at gmk
  try rw [ezn3] at gmk
  try rw [ezn4] at gmk
  try rw [epn] at gmk
  try rw [eak] at gpk
  try rw [ean] at gpk
  try rw [eas_] at gpk
  try rw [ean3] at gpk
  try rw [ean4] at gpk
  try rw [ebk] at gpk
  try rw [ebn] at gpk
  try rw [ebs] at gpk
  try rw [ebn3] at gpk
  try rw [ebn4] at gpk
  try rw [ezk] at gpk
  try rw [ezn] at gpk
  try rw [ezs] at gpk
  try rw [ezn3] at gpk
  try rw [ezn4] at gpk
  try rw [epn] at gpk
  try rw [eak] at gmo
  try rw [ean] at gmo
  try rw [eas_] at gmo
  try rw [ean3] at gmo
  try rw [ean4] at gmo
  try rw [ebk] at gmo
  try rw [ebn] at gmo
  try rw [ebs] at gmo
  try rw [ebn3] at gmo
  try rw [ebn4] at gmo
  try rw [ezk] at gmo
  try rw [ezn] at gmo
  try rw [ezs] at gmo
  try rw [ezn3] at gmo
  try rw [ezn4] at gmo
  try rw [epn] at gmo
  try rw [eak] at gpo
  try rw [ean] at gpo
  try rw [eas_] at gpo
  try rw [ean3] at gpo
  try rw [ean4] at gpo
  try rw [ebk] at gpo
  try rw [ebn] at gpo
  try rw [ebs] at gpo
  try rw [ebn3] at gpo
  try rw [ebn4] at gpo
  try rw [ezk] at gpo
  try rw [ezn] at gpo
  try rw [ezs] at gpo
  try rw [ezn3] at gpo
  try rw [ezn4] at gpo
  try rw [epn] at gpo
  try rw [eak] at eqb
  try rw [ean] at eqb
  try rw [eas_] at eqb
  try rw [ean3] at eqb
  try rw [ean4] at eqb
  try rw [ebk] at eqb
  try rw [ebn] at eqb
  try rw [ebs] at eqb
  try rw [ebn3] at eqb
  try rw [ebn4] at eqb
  try rw [ezk] at eqb
  try rw [ezn] at eqb
  try rw [ezs] at eqb
  try rw [ezn3] at eqb
  try rw [ezn4] at eqb
  try rw [epn] at eqb
  try rw [eak] at lp
  try rw [ean] at lp
  try rw [eas_] at lp
  try rw [ean3] at lp
  try rw [ean4] at lp
  try rw [ebk] at lp
  try rw [ebn] at lp
  try rw [ebs] at lp
  try rw [ebn3] at lp
  try rw [ebn4] at lp
  try rw [ezk] at lp
  try rw [ezn] at lp
  try rw [ezs] at lp
  try rw [ezn3] at lp
  try rw [ezn4] at lp
  try rw [epn] at lp
  try rw [eak] at la
  try rw [ean] at la
  try rw [eas_] at la
  try rw [ean3] at la
  try rw [ean4] at la
  try rw [ebk] at la
  try rw [ebn] at la
  try rw [ebs] at la
  try rw [ebn3] at la
  try rw [ebn4] at la
  try rw [ezk] at la
  try rw [ezn] at la
  try rw [ezs] at la
  try rw [ezn3] at la
  try rw [ezn4] at la
  try rw [epn] at la
  try rw [eak] at ⊢
  try rw [ean] at ⊢
  try rw [eas_] at ⊢
  try rw [ean3] at ⊢
  try rw [ean4] at ⊢
  try rw [ebk] at ⊢
  try rw [ebn] at ⊢
  try rw [ebs] at ⊢
  try rw [ebn3] at ⊢
  try rw [ebn4] at ⊢
  try rw [ezk] at ⊢
  try rw [ezn] at ⊢
  try rw [ezs] at ⊢
  try rw [ezn3] at ⊢
  try rw [ezn4] at ⊢
  try rw [epn] at ⊢
  clear eak ean eas_ ean3 ean4 ebk ebn ebs ebn3 ebn4 ezk ezn ezs ezn3 ezn4 epn
  have hn1 : (key.toList == key.toList) = true := by rw [same_cT]; exact decide_eq_true ((tot_cT.zero _ _).2 rfl)
  have hn2 : (key.toList != key.toList) = false := by rw [bne, hn1]; rfl
  have h5n : (ak != (5 : Int)) = false := by rw [h5]; rfl
  have HB := Lib.hid hb
  have lpi : (pn : Int) = (an4 : Int) + 1 := by simp at lp; omega
  have lai : (an4 : Int) ≤ 400 := by omega
  clear h5 ha hb lp la hl
  obtain ⟨P1, hP1⟩ : ∃ x, w.heap.size = x := ⟨_, rfl⟩
  obtain ⟨wb1, hwb1⟩ : ∃ x, w.alloc (.cells #[.int .i64 ak, .int .i64 an, .string as', .slice A3 an3 k3, .slice A4 an4 k4] 26) = x := ⟨_, rfl⟩
  obtain ⟨P2, hP2⟩ : ∃ x, wb1.heap.size = x := ⟨_, rfl⟩
  obtain ⟨wb2, hwb2⟩ : ∃ x, wb1.alloc (.cells #[.string key, .int .i64 bk, .int .i64 bn, .string bs, .slice B3 bn3 l3, .slice B4 bn4 l4] 41) = x := ⟨_, rfl⟩
  have bA : Bk P1 #[.int .i64 ak, .int .i64 an, .string as', .slice A3 an3 k3, .slice A4 an4 k4] 26 wb1 := by rw [← hwb1, ← hP1]; exact Bk.new _ _ _
  have qb1 : Q w wb1 := by rw [← hwb1]; exact Q.box _ _
  have qb2 : Q wb1 wb2 := by rw [← hwb2]; exact Q.box _ _
  have bE : Bk P2 #[.string key, .int .i64 bk, .int .i64 bn, .string bs, .slice B3 bn3 l3, .slice B4 bn4 l4] 41 wb2 := by rw [← hwb2, ← hP2]; exact Bk.new _ _ _
  obtain ⟨P3, hP3⟩ : ∃ x, wb2.heap.size = x := ⟨_, rfl⟩
  obtain ⟨wb3, hwb3⟩ : ∃ x, (wb2.alloc (.cells #[.int .i64 0, .int .i64 0, .string ⟨#[]⟩, .slice none 0 0, .slice none 0 0] 26)).drew = x := ⟨_, rfl⟩
  have qE : Q wb2 wb3 := by rw [← hwb3]; exact Q.boxed wb2 _ 1
  have bZ : Bk P3 #[.int .i64 0, .int .i64 0, .string ⟨#[]⟩, .slice none 0 0, .slice none 0 0] 26 wb3 := by
    rw [← hwb3, ← hP3]
    exact (Bk.new _ _ _).stays (Q.drewN _ 1)
  have bE3 := bE.stays qE
  have v0 : wb2.drew.cell? ⟨P2, 0, none⟩ = _ := bE.at 0 _ rfl
  have v1 : wb2.drew.cell? ⟨P2, 1, none⟩ = _ := bE.at 1 _ rfl
  have v2 : wb2.drew.cell? ⟨P2, 2, none⟩ = _ := bE.at 2 _ rfl
  have v3 : wb2.drew.cell? ⟨P2, 3, none⟩ = _ := bE.at 3 _ rfl
  have v4 : wb2.drew.cell? ⟨P2, 4, none⟩ = _ := bE.at 4 _ rfl
  have v5 : wb2.drew.cell? ⟨P2, 5, none⟩ = _ := bE.at 5 _ rfl
  have u0 := bE3.at 0 _ rfl
  have u1 := bE3.at 1 _ rfl
  have u2 := bE3.at 2 _ rfl
  have u3 := bE3.at 3 _ rfl
  have u4 := bE3.at 4 _ rfl
  have u5 := bE3.at 5 _ rfl
  have z0 := bZ.at 0 _ rfl
  have z1 := bZ.at 1 _ rfl
  have z2 := bZ.at 2 _ rfl
  have z3 := bZ.at 3 _ rfl
  have z4 := bZ.at 4 _ rfl
  have f0 := bZ.frozen 0
  have f1 := bZ.frozen 1
  have f2 := bZ.frozen 2
  have f3 := bZ.frozen 3
  have f4 := bZ.frozen 4
  obtain ⟨bf, qf⟩ := store5 (k := bk) (n := bn) (s := bs) (s3 := .slice B3 bn3 l3) (s4 := .slice B4 bn4 l4) hP3.symm bZ qE
  obtain ⟨w4, hw4⟩ : ∃ x, set5 wb3 P3 0 (.int .i64 bk) (.int .i64 bn) (.string bs) (.slice B3 bn3 l3) (.slice B4 bn4 l4) = x := ⟨_, rfl⟩
  rw [hw4] at bf qf
  obtain ⟨D, hD⟩ : ∃ x, w4.heap.size = x := ⟨_, rfl⟩
  obtain ⟨w5, hw5⟩ : ∃ x, w4.alloc (.cells #[.int .i64 ak, .int .i64 an, .string as', .slice A3 an3 k3, .slice A4 an4 k4, .int .i64 bk, .int .i64 bn, .string bs, .slice B3 bn3 l3, .slice B4 bn4 l4] 26) = x := ⟨_, rfl⟩
  have q5 : Q w4 w5 := by rw [← hw5]; exact Q.box _ _
  obtain ⟨L, hL⟩ : ∃ L : World → Prop, L = fun w' => Q w w' ∧ Bk P1 #[.int .i64 ak, .int .i64 an, .string as', .slice A3 an3 k3, .slice A4 an4 k4] 26 w' ∧ Bk P3 #[.int .i64 bk, .int .i64 bn, .string bs, .slice B3 bn3 l3, .slice B4 bn4 l4] 26 w' := ⟨_, rfl⟩
  have q45 := ((qb1.trans qb2).trans qf).trans q5
  have L0 : Hid (L w5) := Lib.hid (by rw [hL]; exact ⟨q45, bA.stays ((qb2.trans qf).trans q5), bf.stays q5⟩)
  have Lst : Hid (∀ w' w'', L w' → Q w' w'' → L w'') := Lib.hid (fun w' w'' h q => by rw [hL] at h ⊢; exact ⟨h.1.trans q, h.2.1.stays q, h.2.2.stays q⟩)
  have LQ : Hid (∀ w', L w' → Q w w') := Lib.hid (fun w' h => by rw [hL] at h; exact h.1)
  have Lsee : Hid (∀ w', L w' → w'.cell? ⟨P1, 0, none⟩ = some (.int .i64 ak) ∧ w'.cell? ⟨P1, 1, none⟩ = some (.int .i64 an) ∧ w'.cell? ⟨P1, 2, none⟩ = some (.string as') ∧ w'.cell? ⟨P1, 3, none⟩ = some (.slice A3 an3 k3) ∧ w'.cell? ⟨P1, 4, none⟩ = some (.slice A4 an4 k4) ∧ w'.cell? ⟨P3, 0, none⟩ = some (.int .i64 bk) ∧ w'.cell? ⟨P3, 1, none⟩ = some (.int .i64 bn) ∧ w'.cell? ⟨P3, 2, none⟩ = some (.string bs) ∧ w'.cell? ⟨P3, 3, none⟩ = some (.slice B3 bn3 l3) ∧ w'.cell? ⟨P3, 4, none⟩ = some (.slice B4 bn4 l4)) := Lib.hid (fun w' h => by rw [hL] at h; exact ⟨h.2.1.at 0 _ rfl, h.2.1.at 1 _ rfl, h.2.1.at 2 _ rfl, h.2.1.at 3 _ rfl, h.2.1.at 4 _ rfl, h.2.2.at 0 _ rfl, h.2.2.at 1 _ rfl, h.2.2.at 2 _ rfl, h.2.2.at 3 _ rfl, h.2.2.at 4 _ rfl⟩)
  have cVd := Lib.hid (cVal.out w5 D q45 (by rw [← hw5, ← hD]; exact Bk.new _ _ _))
  have q04 : Hid (Q w w4) := Lib.hid ((qb1.trans qb2).trans qf)
  have L4 : Hid (L w4) := Lib.hid (by rw [hL]; exact ⟨q04.out, bA.stays (qb2.trans qf), bf⟩)
  clear hL q45 q5 bA qb1 qb2 bf qf qE bZ bE bE3 cVal
  unfold set5 at hw4
  simp only [Nat.zero_add] at hw4
  go_enter Tryz.func9, Tryz.ntmps9
  go_wp2_with fail
  go_region
  try rw [hw4]
  clear hw4 v0 v1 v2 v3 v4 v5 u0 u1 u2 u3 u4 u5 z0 z1 z2 z3 z4 f0 f1 f2 f3 f4
  obtain ⟨x0, x1, x2, x3, x4, x5, x6, x7, x8, x9⟩ := Lsee.out _ L4.out
  go_wp2_with fail
  refine (cVd.out).mono ?_
  rintro e w6 ⟨rfl, q6⟩
  have L6 := Lib.hid (Lst.out _ _ L0.out q6)
  clear q6 hw5 hD x0 x1 x2 x3 x4 x5 x6 x7 x8 x9
  obtain ⟨x0, x1, x2, x3, x4, x5, x6, x7, x8, x9⟩ := Lsee.out _ L6.out
  go_wp2_with fail
  refine (pu.out _ (LQ.out _ L6.out)).mono ?_
  rintro e wc1 ⟨S3, s3, S4, s4, rfl, hI, hK, qc1⟩
  obtain ⟨R1, hR1⟩ : ∃ x, wc1.heap.size = x := ⟨_, rfl⟩
  obtain ⟨wd1, hwd1⟩ : ∃ x, wc1.alloc (.cells #[.int .i64 5, .int .i64 0, .string ⟨#[]⟩, .slice S3 pn s3, .slice S4 pn s4] 26) = x := ⟨_, rfl⟩
  have qd1 : Q wc1 wd1 := by rw [← hwd1]; exact Q.box _ _
  have bd1 : Bk R1 #[.int .i64 5, .int .i64 0, .string ⟨#[]⟩, .slice S3 pn s3, .slice S4 pn s4] 26 wd1 := by rw [← hwd1, ← hR1]; exact Bk.new _ _ _
  obtain ⟨M1, hM1⟩ : ∃ M : World → Prop, M = fun w' => L w' ∧ Bk R1 #[.int .i64 5, .int .i64 0, .string ⟨#[]⟩, .slice S3 pn s3, .slice S4 pn s4] 26 w' ∧ Is (.slice S3 pn s3) p.items w' ∧ Ks (.slice S4 pn s4) p.keys w' := ⟨_, rfl⟩
  have H1 : Hid (M1 wd1) := Lib.hid (by rw [hM1]; exact ⟨Lst.out _ _ L6.out (qc1.trans qd1), bd1, hI.stays qd1, hK.stays qd1⟩)
  have M1st : Hid (∀ w' w'', M1 w' → Q w' w'' → M1 w'') := Lib.hid (fun w' w'' h q => by rw [hM1] at h ⊢; exact ⟨Lst.out _ _ h.1 q, (h.2.1).stays q, (h.2.2.1).stays q, (h.2.2.2).stays q⟩)
  have M1Q : Hid (∀ w', M1 w' → Q w w') := Lib.hid (fun w' h => by rw [hM1] at h; exact LQ.out _ h.1)
  have M1x : Hid (∀ w', M1 w' → L w' ∧ Bk R1 #[.int .i64 5, .int .i64 0, .string ⟨#[]⟩, .slice S3 pn s3, .slice S4 pn s4] 26 w' ∧ Is (.slice S3 pn s3) p.items w' ∧ Ks (.slice S4 pn s4) p.keys w') := Lib.hid (fun w' h => by rw [hM1] at h; exact h)
  have M1see : Hid (∀ w', M1 w' → w'.cell? ⟨P1, 0, none⟩ = some (.int .i64 ak) ∧ w'.cell? ⟨P1, 1, none⟩ = some (.int .i64 an) ∧ w'.cell? ⟨P1, 2, none⟩ = some (.string as') ∧ w'.cell? ⟨P1, 3, none⟩ = some (.slice A3 an3 k3) ∧ w'.cell? ⟨P1, 4, none⟩ = some (.slice A4 an4 k4) ∧ w'.cell? ⟨P3, 0, none⟩ = some (.int .i64 bk) ∧ w'.cell? ⟨P3, 1, none⟩ = some (.int .i64 bn) ∧ w'.cell? ⟨P3, 2, none⟩ = some (.string bs) ∧ w'.cell? ⟨P3, 3, none⟩ = some (.slice B3 bn3 l3) ∧ w'.cell? ⟨P3, 4, none⟩ = some (.slice B4 bn4 l4) ∧ w'.cell? ⟨R1, 0, none⟩ = some (.int .i64 5) ∧ w'.cell? ⟨R1, 1, none⟩ = some (.int .i64 0) ∧ w'.cell? ⟨R1, 2, none⟩ = some (.string ⟨#[]⟩) ∧ w'.cell? ⟨R1, 3, none⟩ = some (.slice S3 pn s3) ∧ w'.cell? ⟨R1, 4, none⟩ = some (.slice S4 pn s4)) := Lib.hid (fun w' h => by
    rw [hM1] at h
    have g := Lsee.out _ h.1
    exact ⟨g.1, g.2.1, g.2.2.1, g.2.2.2.1, g.2.2.2.2.1, g.2.2.2.2.2.1, g.2.2.2.2.2.2.1, g.2.2.2.2.2.2.2.1, g.2.2.2.2.2.2.2.2.1, g.2.2.2.2.2.2.2.2.2, (h.2.1).at 0 _ rfl, (h.2.1).at 1 _ rfl, (h.2.1).at 2 _ rfl, (h.2.1).at 3 _ rfl, (h.2.1).at 4 _ rfl⟩)
  clear hM1 qc1 qd1 bd1 hI hK x0 x1 x2 x3 x4 x5 x6 x7 x8 x9
  obtain ⟨x0, x1, x2, x3, x4, x5, x6, x7, x8, x9, x10, x11, x12, x13, x14⟩ := M1see.out _ H1.out
  go_wp2_with fail
  refine (gpk.out _ _ _ _ _ (M1x.out _ H1.out).2.2.1 (M1x.out _ H1.out).2.2.2).mono ?_
  rintro e wc2 ⟨T3, t3, T4, t4, rfl, hV, qc2⟩
  obtain ⟨R2, hR2⟩ : ∃ x, wc2.heap.size = x := ⟨_, rfl⟩
  obtain ⟨wd2, hwd2⟩ : ∃ x, wc2.alloc (.cells #[.int .i64 bk, .int .i64 bn, .string bs, .slice T3 bn3 t3, .slice T4 bn4 t4] 26) = x := ⟨_, rfl⟩
  have qd2 : Q wc2 wd2 := by rw [← hwd2]; exact Q.box _ _
  have bd2 : Bk R2 #[.int .i64 bk, .int .i64 bn, .string bs, .slice T3 bn3 t3, .slice T4 bn4 t4] 26 wd2 := by rw [← hwd2, ← hR2]; exact Bk.new _ _ _
  obtain ⟨M2, hM2⟩ : ∃ M : World → Prop, M = fun w' => M1 w' ∧ Bk R2 #[.int .i64 bk, .int .i64 bn, .string bs, .slice T3 bn3 t3, .slice T4 bn4 t4] 26 w' ∧ Va b T3 t3 T4 t4 w' := ⟨_, rfl⟩
  have H2 : Hid (M2 wd2) := Lib.hid (by rw [hM2]; exact ⟨M1st.out _ _ H1.out (qc2.trans qd2), bd2, hV.stays qd2⟩)
  have M2st : Hid (∀ w' w'', M2 w' → Q w' w'' → M2 w'') := Lib.hid (fun w' w'' h q => by rw [hM2] at h ⊢; exact ⟨M1st.out _ _ h.1 q, (h.2.1).stays q, (h.2.2).stays q⟩)
  have M2Q : Hid (∀ w', M2 w' → Q w w') := Lib.hid (fun w' h => by rw [hM2] at h; exact M1Q.out _ h.1)
  have M2x : Hid (∀ w', M2 w' → M1 w' ∧ Bk R2 #[.int .i64 bk, .int .i64 bn, .string bs, .slice T3 bn3 t3, .slice T4 bn4 t4] 26 w' ∧ Va b T3 t3 T4 t4 w') := Lib.hid (fun w' h => by rw [hM2] at h; exact h)
  have M2see : Hid (∀ w', M2 w' → w'.cell? ⟨P1, 0, none⟩ = some (.int .i64 ak) ∧ w'.cell? ⟨P1, 1, none⟩ = some (.int .i64 an) ∧ w'.cell? ⟨P1, 2, none⟩ = some (.string as') ∧ w'.cell? ⟨P1, 3, none⟩ = some (.slice A3 an3 k3) ∧ w'.cell? ⟨P1, 4, none⟩ = some (.slice A4 an4 k4) ∧ w'.cell? ⟨P3, 0, none⟩ = some (.int .i64 bk) ∧ w'.cell? ⟨P3, 1, none⟩ = some (.int .i64 bn) ∧ w'.cell? ⟨P3, 2, none⟩ = some (.string bs) ∧ w'.cell? ⟨P3, 3, none⟩ = some (.slice B3 bn3 l3) ∧ w'.cell? ⟨P3, 4, none⟩ = some (.slice B4 bn4 l4) ∧ w'.cell? ⟨R1, 0, none⟩ = some (.int .i64 5) ∧ w'.cell? ⟨R1, 1, none⟩ = some (.int .i64 0) ∧ w'.cell? ⟨R1, 2, none⟩ = some (.string ⟨#[]⟩) ∧ w'.cell? ⟨R1, 3, none⟩ = some (.slice S3 pn s3) ∧ w'.cell? ⟨R1, 4, none⟩ = some (.slice S4 pn s4) ∧ w'.cell? ⟨R2, 0, none⟩ = some (.int .i64 bk) ∧ w'.cell? ⟨R2, 1, none⟩ = some (.int .i64 bn) ∧ w'.cell? ⟨R2, 2, none⟩ = some (.string bs) ∧ w'.cell? ⟨R2, 3, none⟩ = some (.slice T3 bn3 t3) ∧ w'.cell? ⟨R2, 4, none⟩ = some (.slice T4 bn4 t4)) := Lib.hid (fun w' h => by
    rw [hM2] at h
    have g := M1see.out _ h.1
    exact ⟨g.1, g.2.1, g.2.2.1, g.2.2.2.1, g.2.2.2.2.1, g.2.2.2.2.2.1, g.2.2.2.2.2.2.1, g.2.2.2.2.2.2.2.1, g.2.2.2.2.2.2.2.2.1, g.2.2.2.2.2.2.2.2.2.1, g.2.2.2.2.2.2.2.2.2.2.1, g.2.2.2.2.2.2.2.2.2.2.2.1, g.2.2.2.2.2.2.2.2.2.2.2.2.1, g.2.2.2.2.2.2.2.2.2.2.2.2.2.1, g.2.2.2.2.2.2.2.2.2.2.2.2.2.2, (h.2.1).at 0 _ rfl, (h.2.1).at 1 _ rfl, (h.2.1).at 2 _ rfl, (h.2.1).at 3 _ rfl, (h.2.1).at 4 _ rfl⟩)
  clear hM2 qc2 qd2 bd2 hV x0 x1 x2 x3 x4 x5 x6 x7 x8 x9 x10 x11 x12 x13 x14
  obtain ⟨x0, x1, x2, x3, x4, x5, x6, x7, x8, x9, x10, x11, x12, x13, x14, x15, x16, x17, x18, x19⟩ := M2see.out _ H2.out
  go_wp2_with fail
  refine (eqb.out _ _ _ _ _ _ _ _ _ (M2x.out _ H2.out).2.2 (HB.out.stays (M2Q.out _ H2.out))).mono ?_
  rintro e wc3 ⟨rfl, qc3⟩
  have H3 := Lib.hid (M2st.out _ _ H2.out qc3)
  clear qc3 x0 x1 x2 x3 x4 x5 x6 x7 x8 x9 x10 x11 x12 x13 x14 x15 x16 x17 x18 x19
  obtain ⟨x0, x1, x2, x3, x4, x5, x6, x7, x8, x9, x10, x11, x12, x13, x14, x15, x16, x17, x18, x19⟩ := M2see.out _ H3.out
  go_wp2_with fail
  refine (gmo.out _ (M2Q.out _ H3.out)).mono ?_
  rintro e wc4 ⟨U3, u3, U4, u4, rfl, hV, qc4⟩
  obtain ⟨R4, hR4⟩ : ∃ x, wc4.heap.size = x := ⟨_, rfl⟩
  obtain ⟨wd4, hwd4⟩ : ∃ x, wc4.alloc (.cells #[.int .i64 zk, .int .i64 zn, .string zs, .slice U3 zn3 u3, .slice U4 zn4 u4] 26) = x := ⟨_, rfl⟩
  have qd4 : Q wc4 wd4 := by rw [← hwd4]; exact Q.box _ _
  have bd4 : Bk R4 #[.int .i64 zk, .int .i64 zn, .string zs, .slice U3 zn3 u3, .slice U4 zn4 u4] 26 wd4 := by rw [← hwd4, ← hR4]; exact Bk.new _ _ _
  obtain ⟨M4, hM4⟩ : ∃ M : World → Prop, M = fun w' => M2 w' ∧ Bk R4 #[.int .i64 zk, .int .i64 zn, .string zs, .slice U3 zn3 u3, .slice U4 zn4 u4] 26 w' ∧ Va Z U3 u3 U4 u4 w' := ⟨_, rfl⟩
  have H4 : Hid (M4 wd4) := Lib.hid (by rw [hM4]; exact ⟨M2st.out _ _ H3.out (qc4.trans qd4), bd4, hV.stays qd4⟩)
  have M4st : Hid (∀ w' w'', M4 w' → Q w' w'' → M4 w'') := Lib.hid (fun w' w'' h q => by rw [hM4] at h ⊢; exact ⟨M2st.out _ _ h.1 q, (h.2.1).stays q, (h.2.2).stays q⟩)
  have M4Q : Hid (∀ w', M4 w' → Q w w') := Lib.hid (fun w' h => by rw [hM4] at h; exact M2Q.out _ h.1)
  have M4x : Hid (∀ w', M4 w' → M2 w' ∧ Bk R4 #[.int .i64 zk, .int .i64 zn, .string zs, .slice U3 zn3 u3, .slice U4 zn4 u4] 26 w' ∧ Va Z U3 u3 U4 u4 w') := Lib.hid (fun w' h => by rw [hM4] at h; exact h)
  have M4see : Hid (∀ w', M4 w' → w'.cell? ⟨P1, 0, none⟩ = some (.int .i64 ak) ∧ w'.cell? ⟨P1, 1, none⟩ = some (.int .i64 an) ∧ w'.cell? ⟨P1, 2, none⟩ = some (.string as') ∧ w'.cell? ⟨P1, 3, none⟩ = some (.slice A3 an3 k3) ∧ w'.cell? ⟨P1, 4, none⟩ = some (.slice A4 an4 k4) ∧ w'.cell? ⟨P3, 0, none⟩ = some (.int .i64 bk) ∧ w'.cell? ⟨P3, 1, none⟩ = some (.int .i64 bn) ∧ w'.cell? ⟨P3, 2, none⟩ = some (.string bs) ∧ w'.cell? ⟨P3, 3, none⟩ = some (.slice B3 bn3 l3) ∧ w'.cell? ⟨P3, 4, none⟩ = some (.slice B4 bn4 l4) ∧ w'.cell? ⟨R1, 0, none⟩ = some (.int .i64 5) ∧ w'.cell? ⟨R1, 1, none⟩ = some (.int .i64 0) ∧ w'.cell? ⟨R1, 2, none⟩ = some (.string ⟨#[]⟩) ∧ w'.cell? ⟨R1, 3, none⟩ = some (.slice S3 pn s3) ∧ w'.cell? ⟨R1, 4, none⟩ = some (.slice S4 pn s4) ∧ w'.cell? ⟨R2, 0, none⟩ = some (.int .i64 bk) ∧ w'.cell? ⟨R2, 1, none⟩ = some (.int .i64 bn) ∧ w'.cell? ⟨R2, 2, none⟩ = some (.string bs) ∧ w'.cell? ⟨R2, 3, none⟩ = some (.slice T3 bn3 t3) ∧ w'.cell? ⟨R2, 4, none⟩ = some (.slice T4 bn4 t4) ∧ w'.cell? ⟨R4, 0, none⟩ = some (.int .i64 zk) ∧ w'.cell? ⟨R4, 1, none⟩ = some (.int .i64 zn) ∧ w'.cell? ⟨R4, 2, none⟩ = some (.string zs) ∧ w'.cell? ⟨R4, 3, none⟩ = some (.slice U3 zn3 u3) ∧ w'.cell? ⟨R4, 4, none⟩ = some (.slice U4 zn4 u4)) := Lib.hid (fun w' h => by
    rw [hM4] at h
    have g := M2see.out _ h.1
    exact ⟨g.1, g.2.1, g.2.2.1, g.2.2.2.1, g.2.2.2.2.1, g.2.2.2.2.2.1, g.2.2.2.2.2.2.1, g.2.2.2.2.2.2.2.1, g.2.2.2.2.2.2.2.2.1, g.2.2.2.2.2.2.2.2.2.1, g.2.2.2.2.2.2.2.2.2.2.1, g.2.2.2.2.2.2.2.2.2.2.2.1, g.2.2.2.2.2.2.2.2.2.2.2.2.1, g.2.2.2.2.2.2.2.2.2.2.2.2.2.1, g.2.2.2.2.2.2.2.2.2.2.2.2.2.2.1, g.2.2.2.2.2.2.2.2.2.2.2.2.2.2.2.1, g.2.2.2.2.2.2.2.2.2.2.2.2.2.2.2.2.1, g.2.2.2.2.2.2.2.2.2.2.2.2.2.2.2.2.2.1, g.2.2.2.2.2.2.2.2.2.2.2.2.2.2.2.2.2.2.1, g.2.2.2.2.2.2.2.2.2.2.2.2.2.2.2.2.2.2.2, (h.2.1).at 0 _ rfl, (h.2.1).at 1 _ rfl, (h.2.1).at 2 _ rfl, (h.2.1).at 3 _ rfl, (h.2.1).at 4 _ rfl⟩)
  clear hM4 qc4 qd4 bd4 hV x0 x1 x2 x3 x4 x5 x6 x7 x8 x9 x10 x11 x12 x13 x14 x15 x16 x17 x18 x19
  obtain ⟨x0, x1, x2, x3, x4, x5, x6, x7, x8, x9, x10, x11, x12, x13, x14, x15, x16, x17, x18, x19, x20, x21, x22, x23, x24⟩ := M4see.out _ H4.out
  go_wp2_with fail
  refine (gpo.out _ _ _ _ _ (M1x.out _ (M2x.out _ (M4x.out _ H4.out).1).1).2.2.1 (M1x.out _ (M2x.out _ (M4x.out _ H4.out).1).1).2.2.2).mono ?_
  rintro e wc5 ⟨W3, w3', W4, w4', rfl, hV, qc5⟩
  obtain ⟨R5, hR5⟩ : ∃ x, wc5.heap.size = x := ⟨_, rfl⟩
  obtain ⟨wd5, hwd5⟩ : ∃ x, wc5.alloc (.cells #[.int .i64 bk, .int .i64 bn, .string bs, .slice W3 bn3 w3', .slice W4 bn4 w4'] 26) = x := ⟨_, rfl⟩
  have qd5 : Q wc5 wd5 := by rw [← hwd5]; exact Q.box _ _
  have bd5 : Bk R5 #[.int .i64 bk, .int .i64 bn, .string bs, .slice W3 bn3 w3', .slice W4 bn4 w4'] 26 wd5 := by rw [← hwd5, ← hR5]; exact Bk.new _ _ _
  obtain ⟨M5, hM5⟩ : ∃ M : World → Prop, M = fun w' => M4 w' ∧ Bk R5 #[.int .i64 bk, .int .i64 bn, .string bs, .slice W3 bn3 w3', .slice W4 bn4 w4'] 26 w' ∧ Va b W3 w3' W4 w4' w' := ⟨_, rfl⟩
  have H5 : Hid (M5 wd5) := Lib.hid (by rw [hM5]; exact ⟨M4st.out _ _ H4.out (qc5.trans qd5), bd5, hV.stays qd5⟩)
  have M5st : Hid (∀ w' w'', M5 w' → Q w' w'' → M5 w'') := Lib.hid (fun w' w'' h q => by rw [hM5] at h ⊢; exact ⟨M4st.out _ _ h.1 q, (h.2.1).stays q, (h.2.2).stays q⟩)
  have M5Q : Hid (∀ w', M5 w' → Q w w') := Lib.hid (fun w' h => by rw [hM5] at h; exact M4Q.out _ h.1)
  have M5x : Hid (∀ w', M5 w' → M4 w' ∧ Bk R5 #[.int .i64 bk, .int .i64 bn, .string bs, .slice W3 bn3 w3', .slice W4 bn4 w4'] 26 w' ∧ Va b W3 w3' W4 w4' w') := Lib.hid (fun w' h => by rw [hM5] at h; exact h)
  have M5see : Hid (∀ w', M5 w' → w'.cell? ⟨P1, 0, none⟩ = some (.int .i64 ak) ∧ w'.cell? ⟨P1, 1, none⟩ = some (.int .i64 an) ∧ w'.cell? ⟨P1, 2, none⟩ = some (.string as') ∧ w'.cell? ⟨P1, 3, none⟩ = some (.slice A3 an3 k3) ∧ w'.cell? ⟨P1, 4, none⟩ = some (.slice A4 an4 k4) ∧ w'.cell? ⟨P3, 0, none⟩ = some (.int .i64 bk) ∧ w'.cell? ⟨P3, 1, none⟩ = some (.int .i64 bn) ∧ w'.cell? ⟨P3, 2, none⟩ = some (.string bs) ∧ w'.cell? ⟨P3, 3, none⟩ = some (.slice B3 bn3 l3) ∧ w'.cell? ⟨P3, 4, none⟩ = some (.slice B4 bn4 l4) ∧ w'.cell? ⟨R1, 0, none⟩ = some (.int .i64 5) ∧ w'.cell? ⟨R1, 1, none⟩ = some (.int .i64 0) ∧ w'.cell? ⟨R1, 2, none⟩ = some (.string ⟨#[]⟩) ∧ w'.cell? ⟨R1, 3, none⟩ = some (.slice S3 pn s3) ∧ w'.cell? ⟨R1, 4, none⟩ = some (.slice S4 pn s4) ∧ w'.cell? ⟨R2, 0, none⟩ = some (.int .i64 bk) ∧ w'.cell? ⟨R2, 1, none⟩ = some (.int .i64 bn) ∧ w'.cell? ⟨R2, 2, none⟩ = some (.string bs) ∧ w'.cell? ⟨R2, 3, none⟩ = some (.slice T3 bn3 t3) ∧ w'.cell? ⟨R2, 4, none⟩ = some (.slice T4 bn4 t4) ∧ w'.cell? ⟨R4, 0, none⟩ = some (.int .i64 zk) ∧ w'.cell? ⟨R4, 1, none⟩ = some (.int .i64 zn) ∧ w'.cell? ⟨R4, 2, none⟩ = some (.string zs) ∧ w'.cell? ⟨R4, 3, none⟩ = some (.slice U3 zn3 u3) ∧ w'.cell? ⟨R4, 4, none⟩ = some (.slice U4 zn4 u4) ∧ w'.cell? ⟨R5, 0, none⟩ = some (.int .i64 bk) ∧ w'.cell? ⟨R5, 1, none⟩ = some (.int .i64 bn) ∧ w'.cell? ⟨R5, 2, none⟩ = some (.string bs) ∧ w'.cell? ⟨R5, 3, none⟩ = some (.slice W3 bn3 w3') ∧ w'.cell? ⟨R5, 4, none⟩ = some (.slice W4 bn4 w4')) := Lib.hid (fun w' h => by
    rw [hM5] at h
    have g := M4see.out _ h.1
    exact ⟨g.1, g.2.1, g.2.2.1, g.2.2.2.1, g.2.2.2.2.1, g.2.2.2.2.2.1, g.2.2.2.2.2.2.1, g.2.2.2.2.2.2.2.1, g.2.2.2.2.2.2.2.2.1, g.2.2.2.2.2.2.2.2.2.1, g.2.2.2.2.2.2.2.2.2.2.1, g.2.2.2.2.2.2.2.2.2.2.2.1, g.2.2.2.2.2.2.2.2.2.2.2.2.1, g.2.2.2.2.2.2.2.2.2.2.2.2.2.1, g.2.2.2.2.2.2.2.2.2.2.2.2.2.2.1, g.2.2.2.2.2.2.2.2.2.2.2.2.2.2.2.1, g.2.2.2.2.2.2.2.2.2.2.2.2.2.2.2.2.1, g.2.2.2.2.2.2.2.2.2.2.2.2.2.2.2.2.2.1, g.2.2.2.2.2.2.2.2.2.2.2.2.2.2.2.2.2.2.1, g.2.2.2.2.2.2.2.2.2.2.2.2.2.2.2.2.2.2.2.1, g.2.2.2.2.2.2.2.2.2.2.2.2.2.2.2.2.2.2.2.2.1, g.2.2.2.2.2.2.2.2.2.2.2.2.2.2.2.2.2.2.2.2.2.1, g.2.2.2.2.2.2.2.2.2.2.2.2.2.2.2.2.2.2.2.2.2.2.1, g.2.2.2.2.2.2.2.2.2.2.2.2.2.2.2.2.2.2.2.2.2.2.2.1, g.2.2.2.2.2.2.2.2.2.2.2.2.2.2.2.2.2.2.2.2.2.2.2.2, (h.2.1).at 0 _ rfl, (h.2.1).at 1 _ rfl, (h.2.1).at 2 _ rfl, (h.2.1).at 3 _ rfl, (h.2.1).at 4 _ rfl⟩)
  clear hM5 qc5 qd5 bd5 hV x0 x1 x2 x3 x4 x5 x6 x7 x8 x9 x10 x11 x12 x13 x14 x15 x16 x17 x18 x19 x20 x21 x22 x23 x24
  obtain ⟨x0, x1, x2, x3, x4, x5, x6, x7, x8, x9, x10, x11, x12, x13, x14, x15, x16, x17, x18, x19, x20, x21, x22, x23, x24, x25, x26, x27, x28, x29⟩ := M5see.out _ H5.out
  go_wp2_with fail
  refine (gmk.out _ (M5Q.out _ H5.out)).mono ?_
  rintro e wc7 ⟨X3, x3', X4, x4', rfl, -, qc7⟩
  obtain ⟨R7, hR7⟩ : ∃ x, wc7.heap.size = x := ⟨_, rfl⟩
  obtain ⟨wd7, hwd7⟩ : ∃ x, wc7.alloc (.cells #[.int .i64 zk, .int .i64 zn, .string zs, .slice X3 zn3 x3', .slice X4 zn4 x4'] 26) = x := ⟨_, rfl⟩
  have qd7 : Q wc7 wd7 := by rw [← hwd7]; exact Q.box _ _
  have bd7 : Bk R7 #[.int .i64 zk, .int .i64 zn, .string zs, .slice X3 zn3 x3', .slice X4 zn4 x4'] 26 wd7 := by rw [← hwd7, ← hR7]; exact Bk.new _ _ _
  obtain ⟨M7, hM7⟩ : ∃ M : World → Prop, M = fun w' => M5 w' ∧ Bk R7 #[.int .i64 zk, .int .i64 zn, .string zs, .slice X3 zn3 x3', .slice X4 zn4 x4'] 26 w' := ⟨_, rfl⟩
  have H7 : Hid (M7 wd7) := Lib.hid (by rw [hM7]; exact ⟨M5st.out _ _ H5.out (qc7.trans qd7), bd7⟩)
  have M7st : Hid (∀ w' w'', M7 w' → Q w' w'' → M7 w'') := Lib.hid (fun w' w'' h q => by rw [hM7] at h ⊢; exact ⟨M5st.out _ _ h.1 q, (h.2).stays q⟩)
  have M7Q : Hid (∀ w', M7 w' → Q w w') := Lib.hid (fun w' h => by rw [hM7] at h; exact M5Q.out _ h.1)
  have M7x : Hid (∀ w', M7 w' → M5 w' ∧ Bk R7 #[.int .i64 zk, .int .i64 zn, .string zs, .slice X3 zn3 x3', .slice X4 zn4 x4'] 26 w') := Lib.hid (fun w' h => by rw [hM7] at h; exact h)
  have M7see : Hid (∀ w', M7 w' → w'.cell? ⟨P1, 0, none⟩ = some (.int .i64 ak) ∧ w'.cell? ⟨P1, 1, none⟩ = some (.int .i64 an) ∧ w'.cell? ⟨P1, 2, none⟩ = some (.string as') ∧ w'.cell? ⟨P1, 3, none⟩ = some (.slice A3 an3 k3) ∧ w'.cell? ⟨P1, 4, none⟩ = some (.slice A4 an4 k4) ∧ w'.cell? ⟨P3, 0, none⟩ = some (.int .i64 bk) ∧ w'.cell? ⟨P3, 1, none⟩ = some (.int .i64 bn) ∧ w'.cell? ⟨P3, 2, none⟩ = some (.string bs) ∧ w'.cell? ⟨P3, 3, none⟩ = some (.slice B3 bn3 l3) ∧ w'.cell? ⟨P3, 4, none⟩ = some (.slice B4 bn4 l4) ∧ w'.cell? ⟨R1, 0, none⟩ = some (.int .i64 5) ∧ w'.cell? ⟨R1, 1, none⟩ = some (.int .i64 0) ∧ w'.cell? ⟨R1, 2, none⟩ = some (.string ⟨#[]⟩) ∧ w'.cell? ⟨R1, 3, none⟩ = some (.slice S3 pn s3) ∧ w'.cell? ⟨R1, 4, none⟩ = some (.slice S4 pn s4) ∧ w'.cell? ⟨R2, 0, none⟩ = some (.int .i64 bk) ∧ w'.cell? ⟨R2, 1, none⟩ = some (.int .i64 bn) ∧ w'.cell? ⟨R2, 2, none⟩ = some (.string bs) ∧ w'.cell? ⟨R2, 3, none⟩ = some (.slice T3 bn3 t3) ∧ w'.cell? ⟨R2, 4, none⟩ = some (.slice T4 bn4 t4) ∧ w'.cell? ⟨R4, 0, none⟩ = some (.int .i64 zk) ∧ w'.cell? ⟨R4, 1, none⟩ = some (.int .i64 zn) ∧ w'.cell? ⟨R4, 2, none⟩ = some (.string zs) ∧ w'.cell? ⟨R4, 3, none⟩ = some (.slice U3 zn3 u3) ∧ w'.cell? ⟨R4, 4, none⟩ = some (.slice U4 zn4 u4) ∧ w'.cell? ⟨R5, 0, none⟩ = some (.int .i64 bk) ∧ w'.cell? ⟨R5, 1, none⟩ = some (.int .i64 bn) ∧ w'.cell? ⟨R5, 2, none⟩ = some (.string bs) ∧ w'.cell? ⟨R5, 3, none⟩ = some (.slice W3 bn3 w3') ∧ w'.cell? ⟨R5, 4, none⟩ = some (.slice W4 bn4 w4') ∧ w'.cell? ⟨R7, 0, none⟩ = some (.int .i64 zk) ∧ w'.cell? ⟨R7, 1, none⟩ = some (.int .i64 zn) ∧ w'.cell? ⟨R7, 2, none⟩ = some (.string zs) ∧ w'.cell? ⟨R7, 3, none⟩ = some (.slice X3 zn3 x3') ∧ w'.cell? ⟨R7, 4, none⟩ = some (.slice X4 zn4 x4')) := Lib.hid (fun w' h => by
    rw [hM7] at h
    have g := M5see.out _ h.1
    exact ⟨g.1, g.2.1, g.2.2.1, g.2.2.2.1, g.2.2.2.2.1, g.2.2.2.2.2.1, g.2.2.2.2.2.2.1, g.2.2.2.2.2.2.2.1, g.2.2.2.2.2.2.2.2.1, g.2.2.2.2.2.2.2.2.2.1, g.2.2.2.2.2.2.2.2.2.2.1, g.2.2.2.2.2.2.2.2.2.2.2.1, g.2.2.2.2.2.2.2.2.2.2.2.2.1, g.2.2.2.2.2.2.2.2.2.2.2.2.2.1, g.2.2.2.2.2.2.2.2.2.2.2.2.2.2.1, g.2.2.2.2.2.2.2.2.2.2.2.2.2.2.2.1, g.2.2.2.2.2.2.2.2.2.2.2.2.2.2.2.2.1, g.2.2.2.2.2.2.2.2.2.2.2.2.2.2.2.2.2.1, g.2.2.2.2.2.2.2.2.2.2.2.2.2.2.2.2.2.2.1, g.2.2.2.2.2.2.2.2.2.2.2.2.2.2.2.2.2.2.2.1, g.2.2.2.2.2.2.2.2.2.2.2.2.2.2.2.2.2.2.2.2.1, g.2.2.2.2.2.2.2.2.2.2.2.2.2.2.2.2.2.2.2.2.2.1, g.2.2.2.2.2.2.2.2.2.2.2.2.2.2.2.2.2.2.2.2.2.2.1, g.2.2.2.2.2.2.2.2.2.2.2.2.2.2.2.2.2.2.2.2.2.2.2.1, g.2.2.2.2.2.2.2.2.2.2.2.2.2.2.2.2.2.2.2.2.2.2.2.2.1, g.2.2.2.2.2.2.2.2.2.2.2.2.2.2.2.2.2.2.2.2.2.2.2.2.2.1, g.2.2.2.2.2.2.2.2.2.2.2.2.2.2.2.2.2.2.2.2.2.2.2.2.2.2.1, g.2.2.2.2.2.2.2.2.2.2.2.2.2.2.2.2.2.2.2.2.2.2.2.2.2.2.2.1, g.2.2.2.2.2.2.2.2.2.2.2.2.2.2.2.2.2.2.2.2.2.2.2.2.2.2.2.2.1, g.2.2.2.2.2.2.2.2.2.2.2.2.2.2.2.2.2.2.2.2.2.2.2.2.2.2.2.2.2, (h.2).at 0 _ rfl, (h.2).at 1 _ rfl, (h.2).at 2 _ rfl, (h.2).at 3 _ rfl, (h.2).at 4 _ rfl⟩)
  clear hM7 qc7 qd7 bd7  x0 x1 x2 x3 x4 x5 x6 x7 x8 x9 x10 x11 x12 x13 x14 x15 x16 x17 x18 x19 x20 x21 x22 x23 x24 x25 x26 x27 x28 x29
  obtain ⟨x0, x1, x2, x3, x4, x5, x6, x7, x8, x9, x10, x11, x12, x13, x14, x15, x16, x17, x18, x19, x20, x21, x22, x23, x24, x25, x26, x27, x28, x29, x30, x31, x32, x33, x34⟩ := M7see.out _ H7.out
  go_wp2_with fail
  refine (cA.out _ (M7Q.out _ H7.out)).mono ?_
  rintro e wz ⟨rfl, qz⟩
  clear x0 x1 x2 x3 x4 x5 x6 x7 x8 x9 x10 x11 x12 x13 x14 x15 x16 x17 x18 x19 x20 x21 x22 x23 x24 x25 x26 x27 x28 x29 x30 x31 x32 x33 x34
  go_wp2_with fail
  go_ret
  exact ⟨rfl, (M7Q.out _ H7.out).trans qz⟩
set_option maxRecDepth 100000 in
set_option maxHeartbeats 40000000 in
theorem puts_eq1 (a : V) (A3 : Option Addr) (k3 : Nat) (A4 : Option Addr) (k4 : Nat) (key : ByteArray) (b : V) (B3 : Option Addr) (l3 : Nat) (B4 : Option Addr) (l4 : Nat) (other : ByteArray) (w : World) (ha : Va a A3 k3 A4 k4 w) (hb : Va b B3 l3 B4 l4 w) (hkey : key.size ≤ 281474976710656) (f : Fx w) (hall : [a, b].all okV = true) (h5 : a.kind = 5) (ho : other = key) (hold : (getV a key).isSome = true) :
    Calls Tryz.prog 9 #[vv a A3 k3 A4 k4, .agg #[.string key, .int .i64 b.kind, .int .i64 b.num, .string b.str, .slice B3 b.items.length l3, .slice B4 b.keys.length l4], .string other] w fun e w' => e = .returned (.bool true) ∧ Q w w' := by
  have cA := Lib.hid (fun w' (q : Q w w') => awake_any w' (q.fx f))
  have cVal : Hid (∀ w' D, Q w w' → Bk D #[.int .i64 a.kind, .int .i64 a.num, .string a.str, .slice A3 a.items.length k3, .slice A4 a.keys.length k4, .int .i64 b.kind, .int .i64 b.num, .string b.str, .slice B3 b.items.length l3, .slice B4 b.keys.length l4] 26 w' → Calls Tryz.prog 33 #[.slice (some ⟨D, 0, none⟩) 2 2] w' fun e w'' => e = .returned (.bool ([a, b].all okV)) ∧ Q w' w'') := Lib.hid (fun w' D q hD => valid_law [a, b] _ 2 2 w' ⟨_, 2, rfl, Nat.le_refl _, fun _ => ⟨D, 0, rfl, by
    rw [VL_cons, VL_cons]
    exact ⟨⟨_, _, _, _, _, hD.at 0 _ rfl, hD.at 1 _ rfl, hD.at 2 _ rfl, hD.at 3 _ rfl, hD.at 4 _ rfl, Vi.of (ha.1.stays q) (ha.2.1.stays q)⟩, ⟨_, _, _, _, _, hD.at 5 _ rfl, hD.at 6 _ rfl, hD.at 7 _ rfl, hD.at 8 _ rfl, hD.at 9 _ rfl, Vi.of (hb.1.stays q) (hb.2.1.stays q)⟩, VL_nil _ _ _⟩⟩⟩ ((WfL_cons _ _).2 ⟨ha.2.2, (WfL_cons _ _).2 ⟨hb.2.2, WfL_nil⟩⟩) (by decide))
  unfold vv
  rw [hall] at cVal
  simp only [List.all_cons, List.all_nil, Bool.and_true, Bool.and_eq_true] at hall
  obtain ⟨oa, ob⟩ := hall
  obtain ⟨na, ca, sa⟩ := okV_says oa
  obtain ⟨nb, cb, sb⟩ := okV_says ob
  clear oa ob
  have hl : a.keys.length = a.items.length := (valid_shape ca).2.1 h5
  have fa := valid_fit ca
  have fb := valid_fit cb
  have sr := valid_srt ca
  have han := len_nodesL a.items
  have han2 : nodes a = 1 + nodesL a.items := by cases a; rw [nodes]; rfl
  obtain ⟨p, hp⟩ : ∃ p, putV a key b = p := ⟨_, rfl⟩
  have e4 : p.keys.length = p.items.length := by rw [← hp]; exact putV_len _ _ _
  have sp : srt p.keys := by rw [← hp]; exact putV_srt a key b sr
  have fp : cp.Fit p := by rw [← hp]; exact putV_fit a key b fa fb hkey (by omega) hl
  have np : nodes p ≤ 200000 := by have := putV_nodes a key b hl; rw [hp] at this; omega
  have lp := putV_keys a key b sr h5 hl
  have gs := getV_put_same a key b
  rw [hp] at lp gs
  have pu : Hid (∀ w', Q w w' → Calls Tryz.prog 31 #[.agg #[.int .i64 a.kind, .int .i64 a.num, .string a.str, .slice A3 a.items.length k3, .slice A4 a.keys.length k4], .string key, .agg #[.int .i64 b.kind, .int .i64 b.num, .string b.str, .slice B3 b.items.length l3, .slice B4 b.keys.length l4]] w' fun e w'' => ∃ S3 s3 S4 s4, e = .returned (.agg #[.int .i64 5, .int .i64 0, .string ⟨#[]⟩, .slice S3 p.items.length s3, .slice S4 p.items.length s4]) ∧ Is (.slice S3 p.items.length s3) p.items w'' ∧ Ks (.slice S4 p.items.length s4) p.keys w'' ∧ Q w' w'') := Lib.hid (fun w' q => by
    have h := putV_any a A3 k3 A4 k4 b B3 l3 B4 l4 key w' (ha.1.stays q) (ha.2.1.stays q) (hb.1.stays q) (hb.2.1.stays q) hkey ca cb na nb h5
    rw [hp] at h
    exact h)
  have gp : Hid (∀ (k : ByteArray) (Y : V) (O : Bool), it p k = Y → (getV p k).isSome = O → Wf Y → ∀ (S3 : Option Addr) (s3 : Nat) (S4 : Option Addr) (s4 : Nat) (w' : World), Is (.slice S3 p.items.length s3) p.items w' → Ks (.slice S4 p.items.length s4) p.keys w' → Calls Tryz.prog 29 #[.agg #[.int .i64 5, .int .i64 0, .string ⟨#[]⟩, .slice S3 p.items.length s3, .slice S4 p.items.length s4], .string k] w' fun e w'' => ∃ T3 t3 T4 t4, e = .returned (.tuple #[.agg #[.int .i64 Y.kind, .int .i64 Y.num, .string Y.str, .slice T3 Y.items.length t3, .slice T4 Y.keys.length t4], .bool O]) ∧ Va Y T3 t3 T4 t4 w'' ∧ Q w' w'') := Lib.hid (fun k Y O hY hO hw S3 s3 S4 s4 w' g3 g4 => by
    rw [← e4] at g4
    have h := get_out p k S3 s3 S4 s4 w' g3 g4 sp fp np Y O hY hO hw
    rw [e4] at h
    have ek : p.kind = 5 := by rw [← hp]; rfl
    have en : p.num = 0 := by rw [← hp]; rfl
    have es : p.str = ⟨#[]⟩ := by rw [← hp]; rfl
    rw [ek, en, es] at h
    exact h)
  have gm : Hid (∀ (k : ByteArray) (Y : V) (O : Bool), it a k = Y → (getV a k).isSome = O → Wf Y → ∀ w', Q w w' → Calls Tryz.prog 29 #[.agg #[.int .i64 a.kind, .int .i64 a.num, .string a.str, .slice A3 a.items.length k3, .slice A4 a.keys.length k4], .string k] w' fun e w'' => ∃ T3 t3 T4 t4, e = .returned (.tuple #[.agg #[.int .i64 Y.kind, .int .i64 Y.num, .string Y.str, .slice T3 Y.items.length t3, .slice T4 Y.keys.length t4], .bool O]) ∧ Va Y T3 t3 T4 t4 w'' ∧ Q w' w'') := Lib.hid (fun k Y O hY hO hw w' q => get_out a k A3 k3 A4 k4 w' (ha.1.stays q) (ha.2.1.stays q) sr fa (by omega) Y O hY hO hw)
  obtain ⟨Z, hZ⟩ : ∃ Z, it a key = Z := ⟨_, rfl⟩
  obtain ⟨sZ, wZ, nZ⟩ := it_says a key sa ha.2.2 na
  rw [hZ] at sZ wZ nZ
  obtain ⟨OLD, hOLD⟩ : ∃ O, (getV a key).isSome = O := ⟨_, rfl⟩
  have gmk := Lib.hid (gm.out key Z OLD hZ hOLD wZ)
  have gpk := Lib.hid (gp.out key b true (by unfold it; rw [gs]; rfl) (by rw [gs]; rfl) hb.2.2)
  have eqb := Lib.hid (fun T3 t3 T4 t4 U3 u3 U4 u4 w' (h1 : Va b T3 t3 T4 t4 w') (h2 : Va b U3 u3 U4 u4 w') => equal_self b T3 t3 T4 t4 U3 u3 U4 u4 w' h1 h2 sb nb)
  rw [hOLD] at lp
  obtain rfl : OLD = true := by rw [← hOLD]; exact hold
  rw [e4] at lp
  have la : a.keys.length ≤ 400 := by omega
  clear sZ nZ wZ hZ hOLD fa fb sr han han2 e4 sp fp np ca cb sb nb hkey
  clear sa na
  obtain rfl : key = other := ho.symm
  have gmo := gmk
  have gpo := gpk
  clear gp gm gs ho
  obtain ⟨ak, eak⟩ : ∃ x, a.kind = x := ⟨_, rfl⟩
  obtain ⟨an, ean⟩ : ∃ x, a.num = x := ⟨_, rfl⟩
  obtain ⟨as', eas_⟩ : ∃ x, a.str = x := ⟨_, rfl⟩
  obtain ⟨an3, ean3⟩ : ∃ x, a.items.length = x := ⟨_, rfl⟩
  obtain ⟨an4, ean4⟩ : ∃ x, a.keys.length = x := ⟨_, rfl⟩
  obtain ⟨bk, ebk⟩ : ∃ x, b.kind = x := ⟨_, rfl⟩
  obtain ⟨bn, ebn⟩ : ∃ x, b.num = x := ⟨_, rfl⟩
  obtain ⟨bs, ebs⟩ : ∃ x, b.str = x := ⟨_, rfl⟩
  obtain ⟨bn3, ebn3⟩ : ∃ x, b.items.length = x := ⟨_, rfl⟩
  obtain ⟨bn4, ebn4⟩ : ∃ x, b.keys.length = x := ⟨_, rfl⟩
  obtain ⟨zk, ezk⟩ : ∃ x, Z.kind = x := ⟨_, rfl⟩
  obtain ⟨zn, ezn⟩ : ∃ x, Z.num = x := ⟨_, rfl⟩
  obtain ⟨zs, ezs⟩ : ∃ x, Z.str = x := ⟨_, rfl⟩
  obtain ⟨zn3, ezn3⟩ : ∃ x, Z.items.length = x := ⟨_, rfl⟩
  obtain ⟨zn4, ezn4⟩ : ∃ x, Z.keys.length = x := ⟨_, rfl⟩
  obtain ⟨pn, epn⟩ : ∃ x, p.items.length = x := ⟨_, rfl⟩
  try rw [eak] at cVal
  try rw [ean] at cVal
  try rw [eas_] at cVal
  try rw [ean3] at cVal
  try rw [ean4] at cVal
  try rw [ebk] at cVal
  try rw [ebn] at cVal
  try rw [ebs] at cVal
  try rw [ebn3] at cVal
  try rw [ebn4] at cVal
  try rw [ezk] at cVal
  try rw [ezn] at cVal
  try rw [ezs] at cVal
  try rw [ezn3] at cVal
  try rw [ezn4] at cVal
  try rw [epn] at cVal
  try rw [eak] at h5
  try rw [ean] at h5
  try rw [eas_] at h5
  try rw [ean3] at h5
  try rw [ean4] at h5
  try rw [ebk] at h5
  try rw [ebn] at h5
  try rw [ebs] at h5
  try rw [ebn3] at h5
  try rw [ebn4] at h5
  try rw [ezk] at h5
  try rw [ezn] at h5
  try rw [ezs] at h5
  try rw [ezn3] at h5
  try rw [ezn4] at h5
  try rw [epn] at h5
  try rw [eak] at pu
  try rw [ean] at pu
  try rw [eas_] at pu
  try rw [ean3] at pu
  try rw [ean4] at pu
  try rw [ebk] at pu
  try rw [ebn] at pu
  try rw [ebs] at pu
  try rw [ebn3] at pu
  try rw [ebn4] at pu
  try rw [ezk] at pu
  try rw [ezn] at pu
  try rw [ezs] at pu
  try rw [ezn3] at pu
  try rw [ezn4] at pu
  try rw [epn] at pu
  try rw [eak] at gmk
  try rw [ean] at gmk
  try rw [eas_] at gmk
  try rw [ean3] at gmk
  try rw [ean4] at gmk
  try rw [ebk] at gmk
  try rw [ebn] at gmk
  try rw [ebs] at gmk
  try rw [ebn3] at gmk
  try rw [ebn4] at gmk
  try rw [ezk] at gmk
  try rw [ezn] at gmk
  try rw [ezs] at gmk
  try rw [ezn3] at gmk
  try rw [ezn4] at gmk
  try rw [epn] at gmk
  try rw [eak] at gpk
  try rw [ean] at gpk
  try rw [eas_] at gpk
  try rw [ean3] at gpk
  try rw [ean4] at gpk
  try rw [ebk] at gpk
  try rw [ebn] at gpk
  try rw [ebs] at gpk
  try rw [ebn3] at gpk
  try rw [ebn4] at gpk
  try rw [ezk] at gpk
  try rw [ezn] at gpk
  try rw [ezs] at gpk
  try rw [ezn3] at gpk
  try rw [ezn4] at gpk
  try rw [epn] at gpk
  try rw [eak] at gmo
  try rw [ean] at gmo
  try rw [eas_] at gmo
  try rw [ean3] at gmo
  try rw [ean4] at gmo
  try rw [ebk] at gmo
  try rw [ebn] at gmo
  try rw [ebs] at gmo
  try rw [ebn3] at gmo
  try rw [ebn4] at gmo
  try rw [ezk] at gmo
  try rw [ezn] at gmo
  try rw [ezs] at gmo
  try rw [ezn3] at gmo
  try rw [ezn4] at gmo
  try rw [epn] at gmo
  try rw [eak] at gpo
  try rw [ean] at gpo
  try rw [eas_] at gpo
  try rw [ean3] at gpo
  try rw [ean4] at gpo
  try rw [ebk] at gpo
  try rw [ebn] at gpo
  try rw [ebs] at gpo
  try rw [ebn3] at gpo
  try rw [ebn4] at gpo
  try rw [ezk] at gpo
  try rw [ezn] at gpo
  try rw [ezs] at gpo
  try rw [ezn3] at gpo
  try rw [ezn4] at gpo
  try rw [epn] at gpo
  try rw [eak] at eqb
  try rw [ean] at eqb
  try rw [eas_] at eqb
  try rw [ean3] at eqb
  try rw [ean4] at eqb
  try rw [ebk] at eqb
  try rw [ebn] at eqb
  try rw [ebs] at eqb
  try rw [ebn3] at eqb
  try rw [ebn4] at eqb
  try rw [ezk] at eqb
  try rw [ezn] at eqb
  try rw [ezs] at eqb
  try rw [ezn3] at eqb
  try rw [ezn4] at eqb
  try rw [epn] at eqb
  try rw [eak] at lp
  try rw [ean] at lp
  try rw [eas_] at lp
  try rw [ean3] at lp
  try rw [ean4] at lp
  try rw [ebk] at lp
  try rw [ebn] at lp
  try rw [ebs] at lp
  try rw [ebn3] at lp
  try rw [ebn4] at lp
  try rw [ezk] at lp
  try rw [ezn] at lp
  try rw [ezs] at lp
  try rw [ezn3] at lp
  try rw [ezn4] at lp
  try rw [epn] at lp
  try rw [eak] at la
  try rw [ean] at la
  try rw [eas_] at la
  try rw [ean3] at la
  try rw [ean4] at la
  try rw [ebk] at la
  try rw [ebn] at la
  try rw [ebs] at la
  try rw [ebn3] at la
  try rw [ebn4] at la
  try rw [ezk] at la
  try rw [ezn] at la
  try rw [ezs] at la
  try rw [ezn3] at la
  try rw [ezn4] at la
  try rw [epn] at la
  try rw [eak] at ⊢
  try rw [ean] at ⊢
  try rw [eas_] at ⊢
  try rw [ean3] at ⊢
  try rw [ean4] at ⊢
  try rw [ebk] at ⊢
  try rw [ebn] at ⊢
  try rw [ebs] at ⊢
  try rw [ebn3] at ⊢
  try rw [ebn4] at ⊢
  try rw [ezk] at ⊢
  try rw [ezn] at ⊢
  try rw [ezs] at ⊢
  try rw [ezn3] at ⊢
  try rw [ezn4] at ⊢
  try rw [epn] at ⊢
  clear eak ean eas_ ean3 ean4 ebk ebn ebs ebn3 ebn4 ezk ezn ezs ezn3 ezn4 epn
  have hn1 : (key.toList == key.toList) = true := by rw [same_cT]; exact decide_eq_true ((tot_cT.zero _ _).2 rfl)
  have hn2 : (key.toList != key.toList) = false := by rw [bne, hn1]; rfl
  have h5n : (ak != (5 : Int)) = false := by rw [h5]; rfl
  have HB := Lib.hid hb
  have lpi : (pn : Int) = (an4 : Int) + 0 := by simp at lp; omega
  have lai : (an4 : Int) ≤ 400 := by omega
  clear h5 ha hb lp la hl
  obtain ⟨P1, hP1⟩ : ∃ x, w.heap.size = x := ⟨_, rfl⟩
  obtain ⟨wb1, hwb1⟩ : ∃ x, w.alloc (.cells #[.int .i64 ak, .int .i64 an, .string as', .slice A3 an3 k3, .slice A4 an4 k4] 26) = x := ⟨_, rfl⟩
  obtain ⟨P2, hP2⟩ : ∃ x, wb1.heap.size = x := ⟨_, rfl⟩
  obtain ⟨wb2, hwb2⟩ : ∃ x, wb1.alloc (.cells #[.string key, .int .i64 bk, .int .i64 bn, .string bs, .slice B3 bn3 l3, .slice B4 bn4 l4] 41) = x := ⟨_, rfl⟩
  have bA : Bk P1 #[.int .i64 ak, .int .i64 an, .string as', .slice A3 an3 k3, .slice A4 an4 k4] 26 wb1 := by rw [← hwb1, ← hP1]; exact Bk.new _ _ _
  have qb1 : Q w wb1 := by rw [← hwb1]; exact Q.box _ _
  have qb2 : Q wb1 wb2 := by rw [← hwb2]; exact Q.box _ _
  have bE : Bk P2 #[.string key, .int .i64 bk, .int .i64 bn, .string bs, .slice B3 bn3 l3, .slice B4 bn4 l4] 41 wb2 := by rw [← hwb2, ← hP2]; exact Bk.new _ _ _
  obtain ⟨P3, hP3⟩ : ∃ x, wb2.heap.size = x := ⟨_, rfl⟩
  obtain ⟨wb3, hwb3⟩ : ∃ x, (wb2.alloc (.cells #[.int .i64 0, .int .i64 0, .string ⟨#[]⟩, .slice none 0 0, .slice none 0 0] 26)).drew = x := ⟨_, rfl⟩
  have qE : Q wb2 wb3 := by rw [← hwb3]; exact Q.boxed wb2 _ 1
  have bZ : Bk P3 #[.int .i64 0, .int .i64 0, .string ⟨#[]⟩, .slice none 0 0, .slice none 0 0] 26 wb3 := by
    rw [← hwb3, ← hP3]
    exact (Bk.new _ _ _).stays (Q.drewN _ 1)
  have bE3 := bE.stays qE
  have v0 : wb2.drew.cell? ⟨P2, 0, none⟩ = _ := bE.at 0 _ rfl
  have v1 : wb2.drew.cell? ⟨P2, 1, none⟩ = _ := bE.at 1 _ rfl
  have v2 : wb2.drew.cell? ⟨P2, 2, none⟩ = _ := bE.at 2 _ rfl
  have v3 : wb2.drew.cell? ⟨P2, 3, none⟩ = _ := bE.at 3 _ rfl
  have v4 : wb2.drew.cell? ⟨P2, 4, none⟩ = _ := bE.at 4 _ rfl
  have v5 : wb2.drew.cell? ⟨P2, 5, none⟩ = _ := bE.at 5 _ rfl
  have u0 := bE3.at 0 _ rfl
  have u1 := bE3.at 1 _ rfl
  have u2 := bE3.at 2 _ rfl
  have u3 := bE3.at 3 _ rfl
  have u4 := bE3.at 4 _ rfl
  have u5 := bE3.at 5 _ rfl
  have z0 := bZ.at 0 _ rfl
  have z1 := bZ.at 1 _ rfl
  have z2 := bZ.at 2 _ rfl
  have z3 := bZ.at 3 _ rfl
  have z4 := bZ.at 4 _ rfl
  have f0 := bZ.frozen 0
  have f1 := bZ.frozen 1
  have f2 := bZ.frozen 2
  have f3 := bZ.frozen 3
  have f4 := bZ.frozen 4
  obtain ⟨bf, qf⟩ := store5 (k := bk) (n := bn) (s := bs) (s3 := .slice B3 bn3 l3) (s4 := .slice B4 bn4 l4) hP3.symm bZ qE
  obtain ⟨w4, hw4⟩ : ∃ x, set5 wb3 P3 0 (.int .i64 bk) (.int .i64 bn) (.string bs) (.slice B3 bn3 l3) (.slice B4 bn4 l4) = x := ⟨_, rfl⟩
  rw [hw4] at bf qf
  obtain ⟨D, hD⟩ : ∃ x, w4.heap.size = x := ⟨_, rfl⟩
  obtain ⟨w5, hw5⟩ : ∃ x, w4.alloc (.cells #[.int .i64 ak, .int .i64 an, .string as', .slice A3 an3 k3, .slice A4 an4 k4, .int .i64 bk, .int .i64 bn, .string bs, .slice B3 bn3 l3, .slice B4 bn4 l4] 26) = x := ⟨_, rfl⟩
  have q5 : Q w4 w5 := by rw [← hw5]; exact Q.box _ _
  obtain ⟨L, hL⟩ : ∃ L : World → Prop, L = fun w' => Q w w' ∧ Bk P1 #[.int .i64 ak, .int .i64 an, .string as', .slice A3 an3 k3, .slice A4 an4 k4] 26 w' ∧ Bk P3 #[.int .i64 bk, .int .i64 bn, .string bs, .slice B3 bn3 l3, .slice B4 bn4 l4] 26 w' := ⟨_, rfl⟩
  have q45 := ((qb1.trans qb2).trans qf).trans q5
  have L0 : Hid (L w5) := Lib.hid (by rw [hL]; exact ⟨q45, bA.stays ((qb2.trans qf).trans q5), bf.stays q5⟩)
  have Lst : Hid (∀ w' w'', L w' → Q w' w'' → L w'') := Lib.hid (fun w' w'' h q => by rw [hL] at h ⊢; exact ⟨h.1.trans q, h.2.1.stays q, h.2.2.stays q⟩)
  have LQ : Hid (∀ w', L w' → Q w w') := Lib.hid (fun w' h => by rw [hL] at h; exact h.1)
  have Lsee : Hid (∀ w', L w' → w'.cell? ⟨P1, 0, none⟩ = some (.int .i64 ak) ∧ w'.cell? ⟨P1, 1, none⟩ = some (.int .i64 an) ∧ w'.cell? ⟨P1, 2, none⟩ = some (.string as') ∧ w'.cell? ⟨P1, 3, none⟩ = some (.slice A3 an3 k3) ∧ w'.cell? ⟨P1, 4, none⟩ = some (.slice A4 an4 k4) ∧ w'.cell? ⟨P3, 0, none⟩ = some (.int .i64 bk) ∧ w'.cell? ⟨P3, 1, none⟩ = some (.int .i64 bn) ∧ w'.cell? ⟨P3, 2, none⟩ = some (.string bs) ∧ w'.cell? ⟨P3, 3, none⟩ = some (.slice B3 bn3 l3) ∧ w'.cell? ⟨P3, 4, none⟩ = some (.slice B4 bn4 l4)) := Lib.hid (fun w' h => by rw [hL] at h; exact ⟨h.2.1.at 0 _ rfl, h.2.1.at 1 _ rfl, h.2.1.at 2 _ rfl, h.2.1.at 3 _ rfl, h.2.1.at 4 _ rfl, h.2.2.at 0 _ rfl, h.2.2.at 1 _ rfl, h.2.2.at 2 _ rfl, h.2.2.at 3 _ rfl, h.2.2.at 4 _ rfl⟩)
  have cVd := Lib.hid (cVal.out w5 D q45 (by rw [← hw5, ← hD]; exact Bk.new _ _ _))
  have q04 : Hid (Q w w4) := Lib.hid ((qb1.trans qb2).trans qf)
  have L4 : Hid (L w4) := Lib.hid (by rw [hL]; exact ⟨q04.out, bA.stays (qb2.trans qf), bf⟩)
  clear hL q45 q5 bA qb1 qb2 bf qf qE bZ bE bE3 cVal
  unfold set5 at hw4
  simp only [Nat.zero_add] at hw4
  go_enter Tryz.func9, Tryz.ntmps9
  go_wp2_with fail
  go_region
  try rw [hw4]
  clear hw4 v0 v1 v2 v3 v4 v5 u0 u1 u2 u3 u4 u5 z0 z1 z2 z3 z4 f0 f1 f2 f3 f4
  obtain ⟨x0, x1, x2, x3, x4, x5, x6, x7, x8, x9⟩ := Lsee.out _ L4.out
  go_wp2_with fail
  refine (cVd.out).mono ?_
  rintro e w6 ⟨rfl, q6⟩
  have L6 := Lib.hid (Lst.out _ _ L0.out q6)
  clear q6 hw5 hD x0 x1 x2 x3 x4 x5 x6 x7 x8 x9
  obtain ⟨x0, x1, x2, x3, x4, x5, x6, x7, x8, x9⟩ := Lsee.out _ L6.out
  go_wp2_with fail
  refine (pu.out _ (LQ.out _ L6.out)).mono ?_
  rintro e wc1 ⟨S3, s3, S4, s4, rfl, hI, hK, qc1⟩
  obtain ⟨R1, hR1⟩ : ∃ x, wc1.heap.size = x := ⟨_, rfl⟩
  obtain ⟨wd1, hwd1⟩ : ∃ x, wc1.alloc (.cells #[.int .i64 5, .int .i64 0, .string ⟨#[]⟩, .slice S3 pn s3, .slice S4 pn s4] 26) = x := ⟨_, rfl⟩
  have qd1 : Q wc1 wd1 := by rw [← hwd1]; exact Q.box _ _
  have bd1 : Bk R1 #[.int .i64 5, .int .i64 0, .string ⟨#[]⟩, .slice S3 pn s3, .slice S4 pn s4] 26 wd1 := by rw [← hwd1, ← hR1]; exact Bk.new _ _ _
  obtain ⟨M1, hM1⟩ : ∃ M : World → Prop, M = fun w' => L w' ∧ Bk R1 #[.int .i64 5, .int .i64 0, .string ⟨#[]⟩, .slice S3 pn s3, .slice S4 pn s4] 26 w' ∧ Is (.slice S3 pn s3) p.items w' ∧ Ks (.slice S4 pn s4) p.keys w' := ⟨_, rfl⟩
  have H1 : Hid (M1 wd1) := Lib.hid (by rw [hM1]; exact ⟨Lst.out _ _ L6.out (qc1.trans qd1), bd1, hI.stays qd1, hK.stays qd1⟩)
  have M1st : Hid (∀ w' w'', M1 w' → Q w' w'' → M1 w'') := Lib.hid (fun w' w'' h q => by rw [hM1] at h ⊢; exact ⟨Lst.out _ _ h.1 q, (h.2.1).stays q, (h.2.2.1).stays q, (h.2.2.2).stays q⟩)
  have M1Q : Hid (∀ w', M1 w' → Q w w') := Lib.hid (fun w' h => by rw [hM1] at h; exact LQ.out _ h.1)
  have M1x : Hid (∀ w', M1 w' → L w' ∧ Bk R1 #[.int .i64 5, .int .i64 0, .string ⟨#[]⟩, .slice S3 pn s3, .slice S4 pn s4] 26 w' ∧ Is (.slice S3 pn s3) p.items w' ∧ Ks (.slice S4 pn s4) p.keys w') := Lib.hid (fun w' h => by rw [hM1] at h; exact h)
  have M1see : Hid (∀ w', M1 w' → w'.cell? ⟨P1, 0, none⟩ = some (.int .i64 ak) ∧ w'.cell? ⟨P1, 1, none⟩ = some (.int .i64 an) ∧ w'.cell? ⟨P1, 2, none⟩ = some (.string as') ∧ w'.cell? ⟨P1, 3, none⟩ = some (.slice A3 an3 k3) ∧ w'.cell? ⟨P1, 4, none⟩ = some (.slice A4 an4 k4) ∧ w'.cell? ⟨P3, 0, none⟩ = some (.int .i64 bk) ∧ w'.cell? ⟨P3, 1, none⟩ = some (.int .i64 bn) ∧ w'.cell? ⟨P3, 2, none⟩ = some (.string bs) ∧ w'.cell? ⟨P3, 3, none⟩ = some (.slice B3 bn3 l3) ∧ w'.cell? ⟨P3, 4, none⟩ = some (.slice B4 bn4 l4) ∧ w'.cell? ⟨R1, 0, none⟩ = some (.int .i64 5) ∧ w'.cell? ⟨R1, 1, none⟩ = some (.int .i64 0) ∧ w'.cell? ⟨R1, 2, none⟩ = some (.string ⟨#[]⟩) ∧ w'.cell? ⟨R1, 3, none⟩ = some (.slice S3 pn s3) ∧ w'.cell? ⟨R1, 4, none⟩ = some (.slice S4 pn s4)) := Lib.hid (fun w' h => by
    rw [hM1] at h
    have g := Lsee.out _ h.1
    exact ⟨g.1, g.2.1, g.2.2.1, g.2.2.2.1, g.2.2.2.2.1, g.2.2.2.2.2.1, g.2.2.2.2.2.2.1, g.2.2.2.2.2.2.2.1, g.2.2.2.2.2.2.2.2.1, g.2.2.2.2.2.2.2.2.2, (h.2.1).at 0 _ rfl, (h.2.1).at 1 _ rfl, (h.2.1).at 2 _ rfl, (h.2.1).at 3 _ rfl, (h.2.1).at 4 _ rfl⟩)
  clear hM1 qc1 qd1 bd1 hI hK x0 x1 x2 x3 x4 x5 x6 x7 x8 x9
  obtain ⟨x0, x1, x2, x3, x4, x5, x6, x7, x8, x9, x10, x11, x12, x13, x14⟩ := M1see.out _ H1.out
  go_wp2_with fail
  refine (gpk.out _ _ _ _ _ (M1x.out _ H1.out).2.2.1 (M1x.out _ H1.out).2.2.2).mono ?_
  rintro e wc2 ⟨T3, t3, T4, t4, rfl, hV, qc2⟩
  obtain ⟨R2, hR2⟩ : ∃ x, wc2.heap.size = x := ⟨_, rfl⟩
  obtain ⟨wd2, hwd2⟩ : ∃ x, wc2.alloc (.cells #[.int .i64 bk, .int .i64 bn, .string bs, .slice T3 bn3 t3, .slice T4 bn4 t4] 26) = x := ⟨_, rfl⟩
  have qd2 : Q wc2 wd2 := by rw [← hwd2]; exact Q.box _ _
  have bd2 : Bk R2 #[.int .i64 bk, .int .i64 bn, .string bs, .slice T3 bn3 t3, .slice T4 bn4 t4] 26 wd2 := by rw [← hwd2, ← hR2]; exact Bk.new _ _ _
  obtain ⟨M2, hM2⟩ : ∃ M : World → Prop, M = fun w' => M1 w' ∧ Bk R2 #[.int .i64 bk, .int .i64 bn, .string bs, .slice T3 bn3 t3, .slice T4 bn4 t4] 26 w' ∧ Va b T3 t3 T4 t4 w' := ⟨_, rfl⟩
  have H2 : Hid (M2 wd2) := Lib.hid (by rw [hM2]; exact ⟨M1st.out _ _ H1.out (qc2.trans qd2), bd2, hV.stays qd2⟩)
  have M2st : Hid (∀ w' w'', M2 w' → Q w' w'' → M2 w'') := Lib.hid (fun w' w'' h q => by rw [hM2] at h ⊢; exact ⟨M1st.out _ _ h.1 q, (h.2.1).stays q, (h.2.2).stays q⟩)
  have M2Q : Hid (∀ w', M2 w' → Q w w') := Lib.hid (fun w' h => by rw [hM2] at h; exact M1Q.out _ h.1)
  have M2x : Hid (∀ w', M2 w' → M1 w' ∧ Bk R2 #[.int .i64 bk, .int .i64 bn, .string bs, .slice T3 bn3 t3, .slice T4 bn4 t4] 26 w' ∧ Va b T3 t3 T4 t4 w') := Lib.hid (fun w' h => by rw [hM2] at h; exact h)
  have M2see : Hid (∀ w', M2 w' → w'.cell? ⟨P1, 0, none⟩ = some (.int .i64 ak) ∧ w'.cell? ⟨P1, 1, none⟩ = some (.int .i64 an) ∧ w'.cell? ⟨P1, 2, none⟩ = some (.string as') ∧ w'.cell? ⟨P1, 3, none⟩ = some (.slice A3 an3 k3) ∧ w'.cell? ⟨P1, 4, none⟩ = some (.slice A4 an4 k4) ∧ w'.cell? ⟨P3, 0, none⟩ = some (.int .i64 bk) ∧ w'.cell? ⟨P3, 1, none⟩ = some (.int .i64 bn) ∧ w'.cell? ⟨P3, 2, none⟩ = some (.string bs) ∧ w'.cell? ⟨P3, 3, none⟩ = some (.slice B3 bn3 l3) ∧ w'.cell? ⟨P3, 4, none⟩ = some (.slice B4 bn4 l4) ∧ w'.cell? ⟨R1, 0, none⟩ = some (.int .i64 5) ∧ w'.cell? ⟨R1, 1, none⟩ = some (.int .i64 0) ∧ w'.cell? ⟨R1, 2, none⟩ = some (.string ⟨#[]⟩) ∧ w'.cell? ⟨R1, 3, none⟩ = some (.slice S3 pn s3) ∧ w'.cell? ⟨R1, 4, none⟩ = some (.slice S4 pn s4) ∧ w'.cell? ⟨R2, 0, none⟩ = some (.int .i64 bk) ∧ w'.cell? ⟨R2, 1, none⟩ = some (.int .i64 bn) ∧ w'.cell? ⟨R2, 2, none⟩ = some (.string bs) ∧ w'.cell? ⟨R2, 3, none⟩ = some (.slice T3 bn3 t3) ∧ w'.cell? ⟨R2, 4, none⟩ = some (.slice T4 bn4 t4)) := Lib.hid (fun w' h => by
    rw [hM2] at h
    have g := M1see.out _ h.1
    exact ⟨g.1, g.2.1, g.2.2.1, g.2.2.2.1, g.2.2.2.2.1, g.2.2.2.2.2.1, g.2.2.2.2.2.2.1, g.2.2.2.2.2.2.2.1, g.2.2.2.2.2.2.2.2.1, g.2.2.2.2.2.2.2.2.2.1, g.2.2.2.2.2.2.2.2.2.2.1, g.2.2.2.2.2.2.2.2.2.2.2.1, g.2.2.2.2.2.2.2.2.2.2.2.2.1, g.2.2.2.2.2.2.2.2.2.2.2.2.2.1, g.2.2.2.2.2.2.2.2.2.2.2.2.2.2, (h.2.1).at 0 _ rfl, (h.2.1).at 1 _ rfl, (h.2.1).at 2 _ rfl, (h.2.1).at 3 _ rfl, (h.2.1).at 4 _ rfl⟩)
  clear hM2 qc2 qd2 bd2 hV x0 x1 x2 x3 x4 x5 x6 x7 x8 x9 x10 x11 x12 x13 x14
  obtain ⟨x0, x1, x2, x3, x4, x5, x6, x7, x8, x9, x10, x11, x12, x13, x14, x15, x16, x17, x18, x19⟩ := M2see.out _ H2.out
  go_wp2_with fail
  refine (eqb.out _ _ _ _ _ _ _ _ _ (M2x.out _ H2.out).2.2 (HB.out.stays (M2Q.out _ H2.out))).mono ?_
  rintro e wc3 ⟨rfl, qc3⟩
  have H3 := Lib.hid (M2st.out _ _ H2.out qc3)
  clear qc3 x0 x1 x2 x3 x4 x5 x6 x7 x8 x9 x10 x11 x12 x13 x14 x15 x16 x17 x18 x19
  obtain ⟨x0, x1, x2, x3, x4, x5, x6, x7, x8, x9, x10, x11, x12, x13, x14, x15, x16, x17, x18, x19⟩ := M2see.out _ H3.out
  go_wp2_with fail
  refine (gmo.out _ (M2Q.out _ H3.out)).mono ?_
  rintro e wc4 ⟨U3, u3, U4, u4, rfl, hV, qc4⟩
  obtain ⟨R4, hR4⟩ : ∃ x, wc4.heap.size = x := ⟨_, rfl⟩
  obtain ⟨wd4, hwd4⟩ : ∃ x, wc4.alloc (.cells #[.int .i64 zk, .int .i64 zn, .string zs, .slice U3 zn3 u3, .slice U4 zn4 u4] 26) = x := ⟨_, rfl⟩
  have qd4 : Q wc4 wd4 := by rw [← hwd4]; exact Q.box _ _
  have bd4 : Bk R4 #[.int .i64 zk, .int .i64 zn, .string zs, .slice U3 zn3 u3, .slice U4 zn4 u4] 26 wd4 := by rw [← hwd4, ← hR4]; exact Bk.new _ _ _
  obtain ⟨M4, hM4⟩ : ∃ M : World → Prop, M = fun w' => M2 w' ∧ Bk R4 #[.int .i64 zk, .int .i64 zn, .string zs, .slice U3 zn3 u3, .slice U4 zn4 u4] 26 w' ∧ Va Z U3 u3 U4 u4 w' := ⟨_, rfl⟩
  have H4 : Hid (M4 wd4) := Lib.hid (by rw [hM4]; exact ⟨M2st.out _ _ H3.out (qc4.trans qd4), bd4, hV.stays qd4⟩)
  have M4st : Hid (∀ w' w'', M4 w' → Q w' w'' → M4 w'') := Lib.hid (fun w' w'' h q => by rw [hM4] at h ⊢; exact ⟨M2st.out _ _ h.1 q, (h.2.1).stays q, (h.2.2).stays q⟩)
  have M4Q : Hid (∀ w', M4 w' → Q w w') := Lib.hid (fun w' h => by rw [hM4] at h; exact M2Q.out _ h.1)
  have M4x : Hid (∀ w', M4 w' → M2 w' ∧ Bk R4 #[.int .i64 zk, .int .i64 zn, .string zs, .slice U3 zn3 u3, .slice U4 zn4 u4] 26 w' ∧ Va Z U3 u3 U4 u4 w') := Lib.hid (fun w' h => by rw [hM4] at h; exact h)
  have M4see : Hid (∀ w', M4 w' → w'.cell? ⟨P1, 0, none⟩ = some (.int .i64 ak) ∧ w'.cell? ⟨P1, 1, none⟩ = some (.int .i64 an) ∧ w'.cell? ⟨P1, 2, none⟩ = some (.string as') ∧ w'.cell? ⟨P1, 3, none⟩ = some (.slice A3 an3 k3) ∧ w'.cell? ⟨P1, 4, none⟩ = some (.slice A4 an4 k4) ∧ w'.cell? ⟨P3, 0, none⟩ = some (.int .i64 bk) ∧ w'.cell? ⟨P3, 1, none⟩ = some (.int .i64 bn) ∧ w'.cell? ⟨P3, 2, none⟩ = some (.string bs) ∧ w'.cell? ⟨P3, 3, none⟩ = some (.slice B3 bn3 l3) ∧ w'.cell? ⟨P3, 4, none⟩ = some (.slice B4 bn4 l4) ∧ w'.cell? ⟨R1, 0, none⟩ = some (.int .i64 5) ∧ w'.cell? ⟨R1, 1, none⟩ = some (.int .i64 0) ∧ w'.cell? ⟨R1, 2, none⟩ = some (.string ⟨#[]⟩) ∧ w'.cell? ⟨R1, 3, none⟩ = some (.slice S3 pn s3) ∧ w'.cell? ⟨R1, 4, none⟩ = some (.slice S4 pn s4) ∧ w'.cell? ⟨R2, 0, none⟩ = some (.int .i64 bk) ∧ w'.cell? ⟨R2, 1, none⟩ = some (.int .i64 bn) ∧ w'.cell? ⟨R2, 2, none⟩ = some (.string bs) ∧ w'.cell? ⟨R2, 3, none⟩ = some (.slice T3 bn3 t3) ∧ w'.cell? ⟨R2, 4, none⟩ = some (.slice T4 bn4 t4) ∧ w'.cell? ⟨R4, 0, none⟩ = some (.int .i64 zk) ∧ w'.cell? ⟨R4, 1, none⟩ = some (.int .i64 zn) ∧ w'.cell? ⟨R4, 2, none⟩ = some (.string zs) ∧ w'.cell? ⟨R4, 3, none⟩ = some (.slice U3 zn3 u3) ∧ w'.cell? ⟨R4, 4, none⟩ = some (.slice U4 zn4 u4)) := Lib.hid (fun w' h => by
    rw [hM4] at h
    have g := M2see.out _ h.1
    exact ⟨g.1, g.2.1, g.2.2.1, g.2.2.2.1, g.2.2.2.2.1, g.2.2.2.2.2.1, g.2.2.2.2.2.2.1, g.2.2.2.2.2.2.2.1, g.2.2.2.2.2.2.2.2.1, g.2.2.2.2.2.2.2.2.2.1, g.2.2.2.2.2.2.2.2.2.2.1, g.2.2.2.2.2.2.2.2.2.2.2.1, g.2.2.2.2.2.2.2.2.2.2.2.2.1, g.2.2.2.2.2.2.2.2.2.2.2.2.2.1, g.2.2.2.2.2.2.2.2.2.2.2.2.2.2.1, g.2.2.2.2.2.2.2.2.2.2.2.2.2.2.2.1, g.2.2.2.2.2.2.2.2.2.2.2.2.2.2.2.2.1, g.2.2.2.2.2.2.2.2.2.2.2.2.2.2.2.2.2.1, g.2.2.2.2.2.2.2.2.2.2.2.2.2.2.2.2.2.2.1, g.2.2.2.2.2.2.2.2.2.2.2.2.2.2.2.2.2.2.2, (h.2.1).at 0 _ rfl, (h.2.1).at 1 _ rfl, (h.2.1).at 2 _ rfl, (h.2.1).at 3 _ rfl, (h.2.1).at 4 _ rfl⟩)
  clear hM4 qc4 qd4 bd4 hV x0 x1 x2 x3 x4 x5 x6 x7 x8 x9 x10 x11 x12 x13 x14 x15 x16 x17 x18 x19
  obtain ⟨x0, x1, x2, x3, x4, x5, x6, x7, x8, x9, x10, x11, x12, x13, x14, x15, x16, x17, x18, x19, x20, x21, x22, x23, x24⟩ := M4see.out _ H4.out
  go_wp2_with fail
  refine (gpo.out _ _ _ _ _ (M1x.out _ (M2x.out _ (M4x.out _ H4.out).1).1).2.2.1 (M1x.out _ (M2x.out _ (M4x.out _ H4.out).1).1).2.2.2).mono ?_
  rintro e wc5 ⟨W3, w3', W4, w4', rfl, hV, qc5⟩
  obtain ⟨R5, hR5⟩ : ∃ x, wc5.heap.size = x := ⟨_, rfl⟩
  obtain ⟨wd5, hwd5⟩ : ∃ x, wc5.alloc (.cells #[.int .i64 bk, .int .i64 bn, .string bs, .slice W3 bn3 w3', .slice W4 bn4 w4'] 26) = x := ⟨_, rfl⟩
  have qd5 : Q wc5 wd5 := by rw [← hwd5]; exact Q.box _ _
  have bd5 : Bk R5 #[.int .i64 bk, .int .i64 bn, .string bs, .slice W3 bn3 w3', .slice W4 bn4 w4'] 26 wd5 := by rw [← hwd5, ← hR5]; exact Bk.new _ _ _
  obtain ⟨M5, hM5⟩ : ∃ M : World → Prop, M = fun w' => M4 w' ∧ Bk R5 #[.int .i64 bk, .int .i64 bn, .string bs, .slice W3 bn3 w3', .slice W4 bn4 w4'] 26 w' ∧ Va b W3 w3' W4 w4' w' := ⟨_, rfl⟩
  have H5 : Hid (M5 wd5) := Lib.hid (by rw [hM5]; exact ⟨M4st.out _ _ H4.out (qc5.trans qd5), bd5, hV.stays qd5⟩)
  have M5st : Hid (∀ w' w'', M5 w' → Q w' w'' → M5 w'') := Lib.hid (fun w' w'' h q => by rw [hM5] at h ⊢; exact ⟨M4st.out _ _ h.1 q, (h.2.1).stays q, (h.2.2).stays q⟩)
  have M5Q : Hid (∀ w', M5 w' → Q w w') := Lib.hid (fun w' h => by rw [hM5] at h; exact M4Q.out _ h.1)
  have M5x : Hid (∀ w', M5 w' → M4 w' ∧ Bk R5 #[.int .i64 bk, .int .i64 bn, .string bs, .slice W3 bn3 w3', .slice W4 bn4 w4'] 26 w' ∧ Va b W3 w3' W4 w4' w') := Lib.hid (fun w' h => by rw [hM5] at h; exact h)
  have M5see : Hid (∀ w', M5 w' → w'.cell? ⟨P1, 0, none⟩ = some (.int .i64 ak) ∧ w'.cell? ⟨P1, 1, none⟩ = some (.int .i64 an) ∧ w'.cell? ⟨P1, 2, none⟩ = some (.string as') ∧ w'.cell? ⟨P1, 3, none⟩ = some (.slice A3 an3 k3) ∧ w'.cell? ⟨P1, 4, none⟩ = some (.slice A4 an4 k4) ∧ w'.cell? ⟨P3, 0, none⟩ = some (.int .i64 bk) ∧ w'.cell? ⟨P3, 1, none⟩ = some (.int .i64 bn) ∧ w'.cell? ⟨P3, 2, none⟩ = some (.string bs) ∧ w'.cell? ⟨P3, 3, none⟩ = some (.slice B3 bn3 l3) ∧ w'.cell? ⟨P3, 4, none⟩ = some (.slice B4 bn4 l4) ∧ w'.cell? ⟨R1, 0, none⟩ = some (.int .i64 5) ∧ w'.cell? ⟨R1, 1, none⟩ = some (.int .i64 0) ∧ w'.cell? ⟨R1, 2, none⟩ = some (.string ⟨#[]⟩) ∧ w'.cell? ⟨R1, 3, none⟩ = some (.slice S3 pn s3) ∧ w'.cell? ⟨R1, 4, none⟩ = some (.slice S4 pn s4) ∧ w'.cell? ⟨R2, 0, none⟩ = some (.int .i64 bk) ∧ w'.cell? ⟨R2, 1, none⟩ = some (.int .i64 bn) ∧ w'.cell? ⟨R2, 2, none⟩ = some (.string bs) ∧ w'.cell? ⟨R2, 3, none⟩ = some (.slice T3 bn3 t3) ∧ w'.cell? ⟨R2, 4, none⟩ = some (.slice T4 bn4 t4) ∧ w'.cell? ⟨R4, 0, none⟩ = some (.int .i64 zk) ∧ w'.cell? ⟨R4, 1, none⟩ = some (.int .i64 zn) ∧ w'.cell? ⟨R4, 2, none⟩ = some (.string zs) ∧ w'.cell? ⟨R4, 3, none⟩ = some (.slice U3 zn3 u3) ∧ w'.cell? ⟨R4, 4, none⟩ = some (.slice U4 zn4 u4) ∧ w'.cell? ⟨R5, 0, none⟩ = some (.int .i64 bk) ∧ w'.cell? ⟨R5, 1, none⟩ = some (.int .i64 bn) ∧ w'.cell? ⟨R5, 2, none⟩ = some (.string bs) ∧ w'.cell? ⟨R5, 3, none⟩ = some (.slice W3 bn3 w3') ∧ w'.cell? ⟨R5, 4, none⟩ = some (.slice W4 bn4 w4')) := Lib.hid (fun w' h => by
    rw [hM5] at h
    have g := M4see.out _ h.1
    exact ⟨g.1, g.2.1, g.2.2.1, g.2.2.2.1, g.2.2.2.2.1, g.2.2.2.2.2.1, g.2.2.2.2.2.2.1, g.2.2.2.2.2.2.2.1, g.2.2.2.2.2.2.2.2.1, g.2.2.2.2.2.2.2.2.2.1, g.2.2.2.2.2.2.2.2.2.2.1, g.2.2.2.2.2.2.2.2.2.2.2.1, g.2.2.2.2.2.2.2.2.2.2.2.2.1, g.2.2.2.2.2.2.2.2.2.2.2.2.2.1, g.2.2.2.2.2.2.2.2.2.2.2.2.2.2.1, g.2.2.2.2.2.2.2.2.2.2.2.2.2.2.2.1, g.2.2.2.2.2.2.2.2.2.2.2.2.2.2.2.2.1, g.2.2.2.2.2.2.2.2.2.2.2.2.2.2.2.2.2.1, g.2.2.2.2.2.2.2.2.2.2.2.2.2.2.2.2.2.2.1, g.2.2.2.2.2.2.2.2.2.2.2.2.2.2.2.2.2.2.2.1, g.2.2.2.2.2.2.2.2.2.2.2.2.2.2.2.2.2.2.2.2.1, g.2.2.2.2.2.2.2.2.2.2.2.2.2.2.2.2.2.2.2.2.2.1, g.2.2.2.2.2.2.2.2.2.2.2.2.2.2.2.2.2.2.2.2.2.2.1, g.2.2.2.2.2.2.2.2.2.2.2.2.2.2.2.2.2.2.2.2.2.2.2.1, g.2.2.2.2.2.2.2.2.2.2.2.2.2.2.2.2.2.2.2.2.2.2.2.2, (h.2.1).at 0 _ rfl, (h.2.1).at 1 _ rfl, (h.2.1).at 2 _ rfl, (h.2.1).at 3 _ rfl, (h.2.1).at 4 _ rfl⟩)
  clear hM5 qc5 qd5 bd5 hV x0 x1 x2 x3 x4 x5 x6 x7 x8 x9 x10 x11 x12 x13 x14 x15 x16 x17 x18 x19 x20 x21 x22 x23 x24
  obtain ⟨x0, x1, x2, x3, x4, x5, x6, x7, x8, x9, x10, x11, x12, x13, x14, x15, x16, x17, x18, x19, x20, x21, x22, x23, x24, x25, x26, x27, x28, x29⟩ := M5see.out _ H5.out
  go_wp2_with fail
  refine (gmk.out _ (M5Q.out _ H5.out)).mono ?_
  rintro e wc7 ⟨X3, x3', X4, x4', rfl, -, qc7⟩
  obtain ⟨R7, hR7⟩ : ∃ x, wc7.heap.size = x := ⟨_, rfl⟩
  obtain ⟨wd7, hwd7⟩ : ∃ x, wc7.alloc (.cells #[.int .i64 zk, .int .i64 zn, .string zs, .slice X3 zn3 x3', .slice X4 zn4 x4'] 26) = x := ⟨_, rfl⟩
  have qd7 : Q wc7 wd7 := by rw [← hwd7]; exact Q.box _ _
  have bd7 : Bk R7 #[.int .i64 zk, .int .i64 zn, .string zs, .slice X3 zn3 x3', .slice X4 zn4 x4'] 26 wd7 := by rw [← hwd7, ← hR7]; exact Bk.new _ _ _
  obtain ⟨M7, hM7⟩ : ∃ M : World → Prop, M = fun w' => M5 w' ∧ Bk R7 #[.int .i64 zk, .int .i64 zn, .string zs, .slice X3 zn3 x3', .slice X4 zn4 x4'] 26 w' := ⟨_, rfl⟩
  have H7 : Hid (M7 wd7) := Lib.hid (by rw [hM7]; exact ⟨M5st.out _ _ H5.out (qc7.trans qd7), bd7⟩)
  have M7st : Hid (∀ w' w'', M7 w' → Q w' w'' → M7 w'') := Lib.hid (fun w' w'' h q => by rw [hM7] at h ⊢; exact ⟨M5st.out _ _ h.1 q, (h.2).stays q⟩)
  have M7Q : Hid (∀ w', M7 w' → Q w w') := Lib.hid (fun w' h => by rw [hM7] at h; exact M5Q.out _ h.1)
  have M7x : Hid (∀ w', M7 w' → M5 w' ∧ Bk R7 #[.int .i64 zk, .int .i64 zn, .string zs, .slice X3 zn3 x3', .slice X4 zn4 x4'] 26 w') := Lib.hid (fun w' h => by rw [hM7] at h; exact h)
  have M7see : Hid (∀ w', M7 w' → w'.cell? ⟨P1, 0, none⟩ = some (.int .i64 ak) ∧ w'.cell? ⟨P1, 1, none⟩ = some (.int .i64 an) ∧ w'.cell? ⟨P1, 2, none⟩ = some (.string as') ∧ w'.cell? ⟨P1, 3, none⟩ = some (.slice A3 an3 k3) ∧ w'.cell? ⟨P1, 4, none⟩ = some (.slice A4 an4 k4) ∧ w'.cell? ⟨P3, 0, none⟩ = some (.int .i64 bk) ∧ w'.cell? ⟨P3, 1, none⟩ = some (.int .i64 bn) ∧ w'.cell? ⟨P3, 2, none⟩ = some (.string bs) ∧ w'.cell? ⟨P3, 3, none⟩ = some (.slice B3 bn3 l3) ∧ w'.cell? ⟨P3, 4, none⟩ = some (.slice B4 bn4 l4) ∧ w'.cell? ⟨R1, 0, none⟩ = some (.int .i64 5) ∧ w'.cell? ⟨R1, 1, none⟩ = some (.int .i64 0) ∧ w'.cell? ⟨R1, 2, none⟩ = some (.string ⟨#[]⟩) ∧ w'.cell? ⟨R1, 3, none⟩ = some (.slice S3 pn s3) ∧ w'.cell? ⟨R1, 4, none⟩ = some (.slice S4 pn s4) ∧ w'.cell? ⟨R2, 0, none⟩ = some (.int .i64 bk) ∧ w'.cell? ⟨R2, 1, none⟩ = some (.int .i64 bn) ∧ w'.cell? ⟨R2, 2, none⟩ = some (.string bs) ∧ w'.cell? ⟨R2, 3, none⟩ = some (.slice T3 bn3 t3) ∧ w'.cell? ⟨R2, 4, none⟩ = some (.slice T4 bn4 t4) ∧ w'.cell? ⟨R4, 0, none⟩ = some (.int .i64 zk) ∧ w'.cell? ⟨R4, 1, none⟩ = some (.int .i64 zn) ∧ w'.cell? ⟨R4, 2, none⟩ = some (.string zs) ∧ w'.cell? ⟨R4, 3, none⟩ = some (.slice U3 zn3 u3) ∧ w'.cell? ⟨R4, 4, none⟩ = some (.slice U4 zn4 u4) ∧ w'.cell? ⟨R5, 0, none⟩ = some (.int .i64 bk) ∧ w'.cell? ⟨R5, 1, none⟩ = some (.int .i64 bn) ∧ w'.cell? ⟨R5, 2, none⟩ = some (.string bs) ∧ w'.cell? ⟨R5, 3, none⟩ = some (.slice W3 bn3 w3') ∧ w'.cell? ⟨R5, 4, none⟩ = some (.slice W4 bn4 w4') ∧ w'.cell? ⟨R7, 0, none⟩ = some (.int .i64 zk) ∧ w'.cell? ⟨R7, 1, none⟩ = some (.int .i64 zn) ∧ w'.cell? ⟨R7, 2, none⟩ = some (.string zs) ∧ w'.cell? ⟨R7, 3, none⟩ = some (.slice X3 zn3 x3') ∧ w'.cell? ⟨R7, 4, none⟩ = some (.slice X4 zn4 x4')) := Lib.hid (fun w' h => by
    rw [hM7] at h
    have g := M5see.out _ h.1
    exact ⟨g.1, g.2.1, g.2.2.1, g.2.2.2.1, g.2.2.2.2.1, g.2.2.2.2.2.1, g.2.2.2.2.2.2.1, g.2.2.2.2.2.2.2.1, g.2.2.2.2.2.2.2.2.1, g.2.2.2.2.2.2.2.2.2.1, g.2.2.2.2.2.2.2.2.2.2.1, g.2.2.2.2.2.2.2.2.2.2.2.1, g.2.2.2.2.2.2.2.2.2.2.2.2.1, g.2.2.2.2.2.2.2.2.2.2.2.2.2.1, g.2.2.2.2.2.2.2.2.2.2.2.2.2.2.1, g.2.2.2.2.2.2.2.2.2.2.2.2.2.2.2.1, g.2.2.2.2.2.2.2.2.2.2.2.2.2.2.2.2.1, g.2.2.2.2.2.2.2.2.2.2.2.2.2.2.2.2.2.1, g.2.2.2.2.2.2.2.2.2.2.2.2.2.2.2.2.2.2.1, g.2.2.2.2.2.2.2.2.2.2.2.2.2.2.2.2.2.2.2.1, g.2.2.2.2.2.2.2.2.2.2.2.2.2.2.2.2.2.2.2.2.1, g.2.2.2.2.2.2.2.2.2.2.2.2.2.2.2.2.2.2.2.2.2.1, g.2.2.2.2.2.2.2.2.2.2.2.2.2.2.2.2.2.2.2.2.2.2.1, g.2.2.2.2.2.2.2.2.2.2.2.2.2.2.2.2.2.2.2.2.2.2.2.1, g.2.2.2.2.2.2.2.2.2.2.2.2.2.2.2.2.2.2.2.2.2.2.2.2.1, g.2.2.2.2.2.2.2.2.2.2.2.2.2.2.2.2.2.2.2.2.2.2.2.2.2.1, g.2.2.2.2.2.2.2.2.2.2.2.2.2.2.2.2.2.2.2.2.2.2.2.2.2.2.1, g.2.2.2.2.2.2.2.2.2.2.2.2.2.2.2.2.2.2.2.2.2.2.2.2.2.2.2.1, g.2.2.2.2.2.2.2.2.2.2.2.2.2.2.2.2.2.2.2.2.2.2.2.2.2.2.2.2.1, g.2.2.2.2.2.2.2.2.2.2.2.2.2.2.2.2.2.2.2.2.2.2.2.2.2.2.2.2.2, (h.2).at 0 _ rfl, (h.2).at 1 _ rfl, (h.2).at 2 _ rfl, (h.2).at 3 _ rfl, (h.2).at 4 _ rfl⟩)
  clear hM7 qc7 qd7 bd7  x0 x1 x2 x3 x4 x5 x6 x7 x8 x9 x10 x11 x12 x13 x14 x15 x16 x17 x18 x19 x20 x21 x22 x23 x24 x25 x26 x27 x28 x29
  obtain ⟨x0, x1, x2, x3, x4, x5, x6, x7, x8, x9, x10, x11, x12, x13, x14, x15, x16, x17, x18, x19, x20, x21, x22, x23, x24, x25, x26, x27, x28, x29, x30, x31, x32, x33, x34⟩ := M7see.out _ H7.out
  go_wp2_with fail
  refine (cA.out _ (M7Q.out _ H7.out)).mono ?_
  rintro e wz ⟨rfl, qz⟩
  clear x0 x1 x2 x3 x4 x5 x6 x7 x8 x9 x10 x11 x12 x13 x14 x15 x16 x17 x18 x19 x20 x21 x22 x23 x24 x25 x26 x27 x28 x29 x30 x31 x32 x33 x34
  go_wp2_with fail
  go_ret
  exact ⟨rfl, (M7Q.out _ H7.out).trans qz⟩

end Go.Proofs.YtjmchjphdfbhiaaGreatDoor.val
