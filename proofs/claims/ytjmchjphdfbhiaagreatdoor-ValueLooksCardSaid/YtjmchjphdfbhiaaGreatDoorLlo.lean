/- The law ValueLooks. -/
import Derived.Test.YtjmchjphdfbhiaaGreatDoorVal
import Derived.Test.YtjmchjphdfbhiaaGreatDoorWva
import Derived.Test.YtjmchjphdfbhiaaGreatDoorWfx
import Derived.Test.YtjmchjphdfbhiaaGreatDoorWfi
import Derived.Test.YtjmchjphdfbhiaaGreatDoorWgt
import Derived.Test.YtjmchjphdfbhiaaGreatDoorWcm
import Derived.Test.YtjmchjphdfbhiaaGreatDoorWkn
namespace Go.Proofs.YtjmchjphdfbhiaaGreatDoor.val
open Go.RowKit
open Go.Proofs.YtjmchjphdfbhiaaGreatDoor
open Go.Proofs.YtjmchjphdfbhiaaGreatDoor.lit (Fx)
theorem get_mem (key : ByteArray) (x : V) : ∀ m : List (ByteArray × V), getP m key = some x → ∃ k, (k, x) ∈ m
  | [], h => by cases h
  | (a, v) :: t, h => by
    rw [getP] at h
    split at h
    · cases h
      exact ⟨a, List.mem_cons_self⟩
    · obtain ⟨k, hk⟩ := get_mem key x t h
      exact ⟨k, List.mem_cons_of_mem _ hk⟩
theorem getV_mem {v : V} {key : ByteArray} {x : V} (h : getV v key = some x) : x ∈ v.items := by
  unfold getV at h
  split at h
  · obtain ⟨k, hk⟩ := get_mem key x _ h
    exact (List.of_mem_zip hk).2
  · cases h
theorem wf_n : Wf vN := wf_leaf 0 0 (by decide) (by decide)
theorem same_self (v : V) : sameB false v v = true := (same_eq.1 v v).2 rfl
set_option maxRecDepth 100000 in
set_option maxHeartbeats 40000000 in
theorem looksLaw_any (a : V) (A3 : Option Addr) (k3 : Nat) (A4 : Option Addr) (k4 : Nat) (b : V) (B3 : Option Addr) (l3 : Nat) (B4 : Option Addr) (l4 : Nat) (key : ByteArray) (w : World) (ha : Va a A3 k3 A4 k4 w) (hb : Va b B3 l3 B4 l4 w) (_hkey : key.size ≤ maxLen) (f : Fx w) :
    Calls Tryz.prog 6 #[vv a A3 k3 A4 k4, vv b B3 l3 B4 l4, .string key] w fun e w' => e = .returned (.bool true) ∧ Q w w' := by
  clear _hkey
  have cA := Lib.hid (fun w' (q : Q w w') => awake_any w' (q.fx f))
  have cVal : Hid (∀ w' D, Q w w' → Bk D #[.int .i64 a.kind, .int .i64 a.num, .string a.str, .slice A3 a.items.length k3, .slice A4 a.keys.length k4, .int .i64 b.kind, .int .i64 b.num, .string b.str, .slice B3 b.items.length l3, .slice B4 b.keys.length l4] 26 w' → Calls Tryz.prog 33 #[.slice (some ⟨D, 0, none⟩) 2 2] w' fun e w'' => e = .returned (.bool ([a, b].all okV)) ∧ Q w' w'') := Lib.hid (fun w' D q hD => valid_law [a, b] _ 2 2 w' ⟨_, 2, rfl, Nat.le_refl _, fun _ => ⟨D, 0, rfl, by
    rw [VL_cons, VL_cons]
    exact ⟨⟨_, _, _, _, _, hD.at 0 _ rfl, hD.at 1 _ rfl, hD.at 2 _ rfl, hD.at 3 _ rfl, hD.at 4 _ rfl, Vi.of (ha.1.stays q) (ha.2.1.stays q)⟩, ⟨_, _, _, _, _, hD.at 5 _ rfl, hD.at 6 _ rfl, hD.at 7 _ rfl, hD.at 8 _ rfl, hD.at 9 _ rfl, Vi.of (hb.1.stays q) (hb.2.1.stays q)⟩, VL_nil _ _ _⟩⟩⟩ ((WfL_cons _ _).2 ⟨ha.2.2, (WfL_cons _ _).2 ⟨hb.2.2, WfL_nil⟩⟩) (by decide))
  unfold vv
  by_cases hall : [a, b].all okV = true
  rotate_left 1
  · rw [Bool.not_eq_true] at hall
    rw [hall] at cVal
    clear hall
    obtain ⟨ak, eak⟩ : ∃ x, a.kind = x := ⟨_, rfl⟩
    obtain ⟨an, ean⟩ : ∃ x, a.num = x := ⟨_, rfl⟩
    obtain ⟨as', eas_⟩ : ∃ x, a.str = x := ⟨_, rfl⟩
    obtain ⟨an3, ean3⟩ : ∃ x, a.items.length = x := ⟨_, rfl⟩
    obtain ⟨an4, ean4⟩ : ∃ x, a.keys.length = x := ⟨_, rfl⟩
    obtain ⟨bk, ebk⟩ : ∃ x, b.kind = x := ⟨_, rfl⟩
    obtain ⟨bn, ebn⟩ : ∃ x, b.num = x := ⟨_, rfl⟩
    obtain ⟨bs, ebs⟩ : ∃ x, b.str = x := ⟨_, rfl⟩
    obtain ⟨bn3, ebn3⟩ : ∃ x, b.items.length = x := ⟨_, rfl⟩
    obtain ⟨bn4, ebn4⟩ : ∃ x, b.keys.length = x := ⟨_, rfl⟩
    rw [eak, ean, eas_, ean3, ean4] at cVal
    rw [eak, ean, eas_, ean3, ean4] at ⊢
    rw [ebk, ebn, ebs, ebn3, ebn4] at cVal
    rw [ebk, ebn, ebs, ebn3, ebn4] at ⊢
    clear ha hb
    obtain ⟨P1, hP1⟩ : ∃ x, w.heap.size = x := ⟨_, rfl⟩
    obtain ⟨wb1, hwb1⟩ : ∃ x, w.alloc (.cells #[.int .i64 ak, .int .i64 an, .string as', .slice A3 an3 k3, .slice A4 an4 k4] 26) = x := ⟨_, rfl⟩
    have qb1 : Q w wb1 := by rw [← hwb1]; exact Q.box _ _
    have bb1 : Bk P1 #[.int .i64 ak, .int .i64 an, .string as', .slice A3 an3 k3, .slice A4 an4 k4] 26 wb1 := by rw [← hwb1, ← hP1]; exact Bk.new _ _ _
    obtain ⟨P2, hP2⟩ : ∃ x, wb1.heap.size = x := ⟨_, rfl⟩
    obtain ⟨wb2, hwb2⟩ : ∃ x, wb1.alloc (.cells #[.int .i64 bk, .int .i64 bn, .string bs, .slice B3 bn3 l3, .slice B4 bn4 l4] 26) = x := ⟨_, rfl⟩
    have qb2 : Q wb1 wb2 := by rw [← hwb2]; exact Q.box _ _
    have bb2 : Bk P2 #[.int .i64 bk, .int .i64 bn, .string bs, .slice B3 bn3 l3, .slice B4 bn4 l4] 26 wb2 := by rw [← hwb2, ← hP2]; exact Bk.new _ _ _
    obtain ⟨L, hL⟩ : ∃ L : World → Prop, L = fun w' => Q w w' ∧ Bk P1 #[.int .i64 ak, .int .i64 an, .string as', .slice A3 an3 k3, .slice A4 an4 k4] 26 w' ∧ Bk P2 #[.int .i64 bk, .int .i64 bn, .string bs, .slice B3 bn3 l3, .slice B4 bn4 l4] 26 w' := ⟨_, rfl⟩
    have L0 : Hid (L wb2) := Lib.hid (by rw [hL]; exact ⟨(qb1).trans qb2, (bb1).stays qb2, bb2⟩)
    have stays : Hid (∀ w' w'', L w' → Q w' w'' → L w'') := Lib.hid (fun w' w'' h q => by rw [hL] at h ⊢; exact ⟨h.1.trans q, (h.2.1).stays q, (h.2.2).stays q⟩)
    have LQ : Hid (∀ w', L w' → Q w w') := Lib.hid (fun w' h => by rw [hL] at h; exact h.1)
    have seen : Hid (∀ w', L w' → Hid (L w') ∧ w'.cell? ⟨P1, 0, none⟩ = some (.int .i64 ak) ∧ w'.cell? ⟨P1, 1, none⟩ = some (.int .i64 an) ∧ w'.cell? ⟨P1, 2, none⟩ = some (.string as') ∧ w'.cell? ⟨P1, 3, none⟩ = some (.slice A3 an3 k3) ∧ w'.cell? ⟨P1, 4, none⟩ = some (.slice A4 an4 k4) ∧ w'.cell? ⟨P2, 0, none⟩ = some (.int .i64 bk) ∧ w'.cell? ⟨P2, 1, none⟩ = some (.int .i64 bn) ∧ w'.cell? ⟨P2, 2, none⟩ = some (.string bs) ∧ w'.cell? ⟨P2, 3, none⟩ = some (.slice B3 bn3 l3) ∧ w'.cell? ⟨P2, 4, none⟩ = some (.slice B4 bn4 l4)) := Lib.hid (fun w' h => ⟨Lib.hid h, by rw [hL] at h; exact ⟨(h.2.1).at 0 _ rfl, (h.2.1).at 1 _ rfl, (h.2.1).at 2 _ rfl, (h.2.1).at 3 _ rfl, (h.2.1).at 4 _ rfl, (h.2.2).at 0 _ rfl, (h.2.2).at 1 _ rfl, (h.2.2).at 2 _ rfl, (h.2.2).at 3 _ rfl, (h.2.2).at 4 _ rfl⟩⟩)
    clear hL qb1 bb1 qb2 bb2
    obtain ⟨-, x0, x1, x2, x3, x4, x5, x6, x7, x8, x9⟩ := seen.out _ L0.out
    obtain ⟨D, hD⟩ : ∃ x, wb2.heap.size = x := ⟨_, rfl⟩
    obtain ⟨wd, hwd⟩ : ∃ x, wb2.alloc (.cells #[.int .i64 ak, .int .i64 an, .string as', .slice A3 an3 k3, .slice A4 an4 k4, .int .i64 bk, .int .i64 bn, .string bs, .slice B3 bn3 l3, .slice B4 bn4 l4] 26) = x := ⟨_, rfl⟩
    have LD : Hid (L wd) := Lib.hid (by rw [← hwd]; exact stays.out _ _ L0.out (Q.box _ _))
    have cVd := Lib.hid (cVal.out wd D (LQ.out _ LD.out) (by rw [← hwd, ← hD]; exact Bk.new _ _ _))
    go_enter Tryz.func6, Tryz.ntmps6
    go_wp2_with fail
    refine (cVd.out).mono ?_
    rintro e w_1 ⟨rfl, q1⟩
    have H1 := Lib.hid (stays.out _ _ LD.out q1)
    clear x0 x1 x2 x3 x4 x5 x6 x7 x8 x9 q1 hwd hD
    obtain ⟨-, x0, x1, x2, x3, x4, x5, x6, x7, x8, x9⟩ := seen.out _ H1.out
    go_wp2_with fail
    refine (cA.out _ (LQ.out _ H1.out)).mono ?_
    rintro e wz ⟨rfl, qz⟩
    clear x0 x1 x2 x3 x4 x5 x6 x7 x8 x9
    go_wp2_with fail
    go_ret
    exact ⟨rfl, (LQ.out _ H1.out).trans qz⟩
  rw [hall] at cVal
  simp only [List.all_cons, List.all_nil, Bool.and_true, Bool.and_eq_true] at hall
  obtain ⟨oa, ob⟩ := hall
  obtain ⟨na, ca, sa⟩ := okV_says oa
  obtain ⟨nb, cb, sb⟩ := okV_says ob
  have p1 : Hid (∀ w', Q w w' → Calls Tryz.prog 34 #[.agg #[.int .i64 a.kind, .int .i64 a.num, .string a.str, .slice A3 a.items.length k3, .slice A4 a.keys.length k4], .agg #[.int .i64 b.kind, .int .i64 b.num, .string b.str, .slice B3 b.items.length l3, .slice B4 b.keys.length l4]] w' fun e w'' => e = .returned (.bool (decide (cV a b = 0))) ∧ Q w' w'') := Lib.hid (fun w' q => equal_any a b _ _ _ _ w' w q ⟨ha.1, ha.2.1, ha.2.2⟩ ⟨hb.1, hb.2.1, hb.2.2⟩ sa sb (by omega))
  have r1 : Hid (∀ w', Q w w' → Calls Tryz.prog 15 #[.agg #[.int .i64 a.kind, .int .i64 a.num, .string a.str, .slice A3 a.items.length k3, .slice A4 a.keys.length k4], .agg #[.int .i64 b.kind, .int .i64 b.num, .string b.str, .slice B3 b.items.length l3, .slice B4 b.keys.length l4]] w' fun e w'' => e = .returned (.bool (sameB false a b)) ∧ Q w' w'') := Lib.hid (fun w' q => requal_any a b _ _ _ _ _ _ _ _ w' (ha.stays q) (hb.stays q))
  have p2 : Hid (∀ w', Q w w' → Calls Tryz.prog 35 #[.agg #[.int .i64 a.kind, .int .i64 a.num, .string a.str, .slice A3 a.items.length k3, .slice A4 a.keys.length k4], .agg #[.int .i64 b.kind, .int .i64 b.num, .string b.str, .slice B3 b.items.length l3, .slice B4 b.keys.length l4]] w' fun e w'' => e = .returned (.int .i64 (cV a b)) ∧ Q w' w'') := Lib.hid (fun w' q => compare_any a b _ _ _ _ w' w q ⟨ha.1, ha.2.1, ha.2.2⟩ ⟨hb.1, hb.2.1, hb.2.2⟩ sa sb (by omega))
  have r2 : Hid (∀ w', Q w w' → Calls Tryz.prog 36 #[.agg #[.int .i64 a.kind, .int .i64 a.num, .string a.str, .slice A3 a.items.length k3, .slice A4 a.keys.length k4], .agg #[.int .i64 b.kind, .int .i64 b.num, .string b.str, .slice B3 b.items.length l3, .slice B4 b.keys.length l4]] w' fun e w'' => e = .returned (.int .i64 (cV a b)) ∧ Q w' w'') := Lib.hid (fun w' q => rcompare_any a b _ _ _ _ _ _ _ _ w' (ha.stays q) (hb.stays q))
  have p3 : Hid (∀ w', Q w w' → Calls Tryz.prog 37 #[.agg #[.int .i64 a.kind, .int .i64 a.num, .string a.str, .slice A3 a.items.length k3, .slice A4 a.keys.length k4]] w' fun e w'' => e = .returned (.bool (known a)) ∧ Q w' w'') := Lib.hid (fun w' q => known_any a _ _ w' w q ha.1 ha.2.1 ha.2.2 (by omega))
  have r3 : Hid (∀ w', Q w w' → Calls Tryz.prog 38 #[.agg #[.int .i64 a.kind, .int .i64 a.num, .string a.str, .slice A3 a.items.length k3, .slice A4 a.keys.length k4]] w' fun e w'' => e = .returned (.bool (known a)) ∧ Q w' w'') := Lib.hid (fun w' q => rknown_any a _ _ _ _ w' (ha.stays q))
  have p4 : Hid (∀ w', Q w w' → Calls Tryz.prog 39 #[.agg #[.int .i64 a.kind, .int .i64 a.num, .string a.str, .slice A3 a.items.length k3, .slice A4 a.keys.length k4], .agg #[.int .i64 b.kind, .int .i64 b.num, .string b.str, .slice B3 b.items.length l3, .slice B4 b.keys.length l4]] w' fun e w'' => e = .returned (.bool (refB a b)) ∧ Q w' w'') := Lib.hid (fun w' q => refines_any a b _ _ _ _ w' w q ⟨ha.1, ha.2.1, ha.2.2⟩ ⟨hb.1, hb.2.1, hb.2.2⟩ sa sb (by omega))
  have r4 : Hid (∀ w', Q w w' → Calls Tryz.prog 40 #[.agg #[.int .i64 a.kind, .int .i64 a.num, .string a.str, .slice A3 a.items.length k3, .slice A4 a.keys.length k4], .agg #[.int .i64 b.kind, .int .i64 b.num, .string b.str, .slice B3 b.items.length l3, .slice B4 b.keys.length l4]] w' fun e w'' => e = .returned (.bool (sameB true a b)) ∧ Q w' w'') := Lib.hid (fun w' q => rrefines_any a b _ _ _ _ _ _ _ _ w' (ha.stays q) (hb.stays q))
  have p5 : Hid (∀ w', Q w w' → Calls Tryz.prog 41 #[.agg #[.int .i64 a.kind, .int .i64 a.num, .string a.str, .slice A3 a.items.length k3, .slice A4 a.keys.length k4]] w' fun e w'' => e = .returned (.int .i64 (nodes a : Nat)) ∧ Q w' w'') := Lib.hid (fun w' q => nodes_any a _ _ w' w q ha.1 ha.2.1 ha.2.2 (by omega))
  have r5 : Hid (∀ w', Q w w' → Calls Tryz.prog 42 #[.agg #[.int .i64 a.kind, .int .i64 a.num, .string a.str, .slice A3 a.items.length k3, .slice A4 a.keys.length k4]] w' fun e w'' => e = .returned (.int .i64 (nodes a : Nat)) ∧ Q w' w'') := Lib.hid (fun w' q => rnodes_any a (by omega) _ _ _ _ w' (ha.stays q))
  have e1 : sameB false a b = decide (cV a b = 0) := by
    rw [Bool.eq_iff_iff, same_eq.1, decide_eq_true_eq]
    exact (cV_two.1 a b sa sb).1.symm
  rw [e1] at r1
  rw [same_ref.1 a b] at r4
  have hsh := valid_shape ca
  have hgr : getR a key = getV a key := by
    unfold getR getV
    by_cases h5 : a.kind = 5
    · rw [if_pos h5, if_pos ⟨h5, hsh.2.1 h5⟩]
    · rw [if_neg h5, if_neg (fun h => h5 h.1)]
  obtain ⟨X, hX⟩ : ∃ X, (getV a key).getD vN = X := ⟨_, rfl⟩
  obtain ⟨FD, hFD⟩ : ∃ x, (getV a key).isSome = x := ⟨_, rfl⟩
  have wX : Wf X := by
    rw [← hX]
    cases hg : getV a key with
    | none => exact wf_n
    | some x => exact (WfL_mem _).1 ha.2.2.items x (getV_mem hg)
  have gp : Hid (∀ w', Q w w' → Calls Tryz.prog 29 #[.agg #[.int .i64 a.kind, .int .i64 a.num, .string a.str, .slice A3 a.items.length k3, .slice A4 a.keys.length k4], .string key] w' fun e w'' => ∃ S3 s3 S4 s4, e = .returned (.tuple #[.agg #[.int .i64 X.kind, .int .i64 X.num, .string X.str, .slice S3 X.items.length s3, .slice S4 X.keys.length s4], .bool FD]) ∧ Va X S3 s3 S4 s4 w'' ∧ Q w' w'') := Lib.hid (fun w' q => by
    refine (get_any a _ _ _ _ key w' (ha.1.stays q) (ha.2.1.stays q) (valid_srt ca) (valid_fit ca) (by omega)).mono ?_
    rintro e w'' ⟨q', h⟩
    cases hg : getV a key with
    | none =>
      rw [hg] at h hX hFD
      subst hX
      subst hFD
      exact ⟨none, 0, none, 0, h, ⟨Is.nil _ _ _, Ks.nil _ _ _, wf_n⟩, q'⟩
    | some x =>
      rw [hg] at h hX hFD
      have hX : x = X := hX
      subst hX
      subst hFD
      obtain ⟨s3, s4, rfl, h3, h4⟩ := h
      obtain ⟨S3, c3, rfl, -⟩ := h3.shape
      obtain ⟨S4, c4, rfl, -⟩ := h4.shape
      exact ⟨S3, c3, S4, c4, rfl, ⟨h3, h4, wX⟩, q'⟩)
  have gr : Hid (∀ w', Q w w' → Calls Tryz.prog 30 #[.agg #[.int .i64 a.kind, .int .i64 a.num, .string a.str, .slice A3 a.items.length k3, .slice A4 a.keys.length k4], .string key] w' fun e w'' => ∃ S3 s3 S4 s4, e = .returned (.tuple #[.agg #[.int .i64 X.kind, .int .i64 X.num, .string X.str, .slice S3 X.items.length s3, .slice S4 X.keys.length s4], .bool FD]) ∧ Va X S3 s3 S4 s4 w'' ∧ Q w' w'') := Lib.hid (fun w' q => by
    refine (rget_any a _ _ _ _ key w' (ha.stays q)).mono ?_
    rw [hgr]
    rintro e w'' ⟨q', h⟩
    cases hg : getV a key with
    | none =>
      rw [hg] at h hX hFD
      subst hX
      subst hFD
      exact ⟨none, 0, none, 0, h, ⟨Is.nil _ _ _, Ks.nil _ _ _, wf_n⟩, q'⟩
    | some x =>
      rw [hg] at h hX hFD
      have hX : x = X := hX
      subst hX
      subst hFD
      obtain ⟨S3, c3, S4, c4, rfl, h3⟩ := h
      exact ⟨S3, c3, S4, c4, rfl, h3, q'⟩)
  have gx := Lib.hid (fun (S3 : Option Addr) (s3 : Nat) (S4 : Option Addr) (s4 : Nat) (T3 : Option Addr) (t3 : Nat) (T4 : Option Addr) (t4 : Nat) w' (h1 : Va X S3 s3 S4 s4 w') (h2 : Va X T3 t3 T4 t4 w') => by
    have h := requal_any X X S3 s3 S4 s4 T3 t3 T4 t4 w' h1 h2
    rw [same_self] at h
    exact h)
  unfold vv at gx
  clear e1 hsh hgr hX hFD wX oa ob na nb ca cb sa sb
  obtain ⟨ak, eak⟩ : ∃ x, a.kind = x := ⟨_, rfl⟩
  obtain ⟨an, ean⟩ : ∃ x, a.num = x := ⟨_, rfl⟩
  obtain ⟨as', eas_⟩ : ∃ x, a.str = x := ⟨_, rfl⟩
  obtain ⟨an3, ean3⟩ : ∃ x, a.items.length = x := ⟨_, rfl⟩
  obtain ⟨an4, ean4⟩ : ∃ x, a.keys.length = x := ⟨_, rfl⟩
  obtain ⟨bk, ebk⟩ : ∃ x, b.kind = x := ⟨_, rfl⟩
  obtain ⟨bn, ebn⟩ : ∃ x, b.num = x := ⟨_, rfl⟩
  obtain ⟨bs, ebs⟩ : ∃ x, b.str = x := ⟨_, rfl⟩
  obtain ⟨bn3, ebn3⟩ : ∃ x, b.items.length = x := ⟨_, rfl⟩
  obtain ⟨bn4, ebn4⟩ : ∃ x, b.keys.length = x := ⟨_, rfl⟩
  rw [eak, ean, eas_, ean3, ean4] at cVal
  rw [eak, ean, eas_, ean3, ean4] at p1
  rw [eak, ean, eas_, ean3, ean4] at r1
  rw [eak, ean, eas_, ean3, ean4] at p2
  rw [eak, ean, eas_, ean3, ean4] at r2
  rw [eak, ean, eas_, ean3, ean4] at p3
  rw [eak, ean, eas_, ean3, ean4] at r3
  rw [eak, ean, eas_, ean3, ean4] at p4
  rw [eak, ean, eas_, ean3, ean4] at r4
  rw [eak, ean, eas_, ean3, ean4] at p5
  rw [eak, ean, eas_, ean3, ean4] at r5
  rw [eak, ean, eas_, ean3, ean4] at gp
  rw [eak, ean, eas_, ean3, ean4] at gr
  rw [eak, ean, eas_, ean3, ean4] at ⊢
  rw [ebk, ebn, ebs, ebn3, ebn4] at cVal
  rw [ebk, ebn, ebs, ebn3, ebn4] at p1
  rw [ebk, ebn, ebs, ebn3, ebn4] at r1
  rw [ebk, ebn, ebs, ebn3, ebn4] at p2
  rw [ebk, ebn, ebs, ebn3, ebn4] at r2
  rw [ebk, ebn, ebs, ebn3, ebn4] at p4
  rw [ebk, ebn, ebs, ebn3, ebn4] at r4
  rw [ebk, ebn, ebs, ebn3, ebn4] at ⊢
  obtain ⟨E1, hE1⟩ : ∃ x, decide (cV a b = 0) = x := ⟨_, rfl⟩
  obtain ⟨E2, hE2⟩ : ∃ x, cV a b = x := ⟨_, rfl⟩
  obtain ⟨E3, hE3⟩ : ∃ x, known a = x := ⟨_, rfl⟩
  obtain ⟨E4, hE4⟩ : ∃ x, refB a b = x := ⟨_, rfl⟩
  obtain ⟨E5, hE5⟩ : ∃ x, nodes a = x := ⟨_, rfl⟩
  rw [hE1] at p1 r1
  rw [hE2] at p2 r2
  rw [hE3] at p3 r3
  rw [hE4] at p4 r4
  rw [hE5] at p5 r5
  clear hE1 hE2 hE3 hE4 hE5
  obtain ⟨xk, hxk⟩ : ∃ x, X.kind = x := ⟨_, rfl⟩
  obtain ⟨xn, hxn⟩ : ∃ x, X.num = x := ⟨_, rfl⟩
  obtain ⟨xs, hxs⟩ : ∃ x, X.str = x := ⟨_, rfl⟩
  obtain ⟨xn3, hxn3⟩ : ∃ x, X.items.length = x := ⟨_, rfl⟩
  obtain ⟨xn4, hxn4⟩ : ∃ x, X.keys.length = x := ⟨_, rfl⟩
  rw [hxk, hxn, hxs, hxn3, hxn4] at gp gr gx
  clear hxk hxn hxs hxn3 hxn4
  clear ha hb f
  obtain ⟨P1, hP1⟩ : ∃ x, w.heap.size = x := ⟨_, rfl⟩
  obtain ⟨wb1, hwb1⟩ : ∃ x, w.alloc (.cells #[.int .i64 ak, .int .i64 an, .string as', .slice A3 an3 k3, .slice A4 an4 k4] 26) = x := ⟨_, rfl⟩
  have qb1 : Q w wb1 := by rw [← hwb1]; exact Q.box _ _
  have bb1 : Bk P1 #[.int .i64 ak, .int .i64 an, .string as', .slice A3 an3 k3, .slice A4 an4 k4] 26 wb1 := by rw [← hwb1, ← hP1]; exact Bk.new _ _ _
  obtain ⟨P2, hP2⟩ : ∃ x, wb1.heap.size = x := ⟨_, rfl⟩
  obtain ⟨wb2, hwb2⟩ : ∃ x, wb1.alloc (.cells #[.int .i64 bk, .int .i64 bn, .string bs, .slice B3 bn3 l3, .slice B4 bn4 l4] 26) = x := ⟨_, rfl⟩
  have qb2 : Q wb1 wb2 := by rw [← hwb2]; exact Q.box _ _
  have bb2 : Bk P2 #[.int .i64 bk, .int .i64 bn, .string bs, .slice B3 bn3 l3, .slice B4 bn4 l4] 26 wb2 := by rw [← hwb2, ← hP2]; exact Bk.new _ _ _
  obtain ⟨L, hL⟩ : ∃ L : World → Prop, L = fun w' => Q w w' ∧ Bk P1 #[.int .i64 ak, .int .i64 an, .string as', .slice A3 an3 k3, .slice A4 an4 k4] 26 w' ∧ Bk P2 #[.int .i64 bk, .int .i64 bn, .string bs, .slice B3 bn3 l3, .slice B4 bn4 l4] 26 w' := ⟨_, rfl⟩
  have L0 : Hid (L wb2) := Lib.hid (by rw [hL]; exact ⟨(qb1).trans qb2, (bb1).stays qb2, bb2⟩)
  have stays : Hid (∀ w' w'', L w' → Q w' w'' → L w'') := Lib.hid (fun w' w'' h q => by rw [hL] at h ⊢; exact ⟨h.1.trans q, (h.2.1).stays q, (h.2.2).stays q⟩)
  have LQ : Hid (∀ w', L w' → Q w w') := Lib.hid (fun w' h => by rw [hL] at h; exact h.1)
  have seen : Hid (∀ w', L w' → Hid (L w') ∧ w'.cell? ⟨P1, 0, none⟩ = some (.int .i64 ak) ∧ w'.cell? ⟨P1, 1, none⟩ = some (.int .i64 an) ∧ w'.cell? ⟨P1, 2, none⟩ = some (.string as') ∧ w'.cell? ⟨P1, 3, none⟩ = some (.slice A3 an3 k3) ∧ w'.cell? ⟨P1, 4, none⟩ = some (.slice A4 an4 k4) ∧ w'.cell? ⟨P2, 0, none⟩ = some (.int .i64 bk) ∧ w'.cell? ⟨P2, 1, none⟩ = some (.int .i64 bn) ∧ w'.cell? ⟨P2, 2, none⟩ = some (.string bs) ∧ w'.cell? ⟨P2, 3, none⟩ = some (.slice B3 bn3 l3) ∧ w'.cell? ⟨P2, 4, none⟩ = some (.slice B4 bn4 l4)) := Lib.hid (fun w' h => ⟨Lib.hid h, by rw [hL] at h; exact ⟨(h.2.1).at 0 _ rfl, (h.2.1).at 1 _ rfl, (h.2.1).at 2 _ rfl, (h.2.1).at 3 _ rfl, (h.2.1).at 4 _ rfl, (h.2.2).at 0 _ rfl, (h.2.2).at 1 _ rfl, (h.2.2).at 2 _ rfl, (h.2.2).at 3 _ rfl, (h.2.2).at 4 _ rfl⟩⟩)
  clear hL qb1 bb1 qb2 bb2
  obtain ⟨-, x0, x1, x2, x3, x4, x5, x6, x7, x8, x9⟩ := seen.out _ L0.out
  obtain ⟨D, hD⟩ : ∃ x, wb2.heap.size = x := ⟨_, rfl⟩
  obtain ⟨wd, hwd⟩ : ∃ x, wb2.alloc (.cells #[.int .i64 ak, .int .i64 an, .string as', .slice A3 an3 k3, .slice A4 an4 k4, .int .i64 bk, .int .i64 bn, .string bs, .slice B3 bn3 l3, .slice B4 bn4 l4] 26) = x := ⟨_, rfl⟩
  have LD : Hid (L wd) := Lib.hid (by rw [← hwd]; exact stays.out _ _ L0.out (Q.box _ _))
  have cVd := Lib.hid (cVal.out wd D (LQ.out _ LD.out) (by rw [← hwd, ← hD]; exact Bk.new _ _ _))
  go_enter Tryz.func6, Tryz.ntmps6
  go_wp2_with fail
  refine (cVd.out).mono ?_
  rintro e w_1 ⟨rfl, q1⟩
  have H1 := Lib.hid (stays.out _ _ LD.out q1)
  clear x0 x1 x2 x3 x4 x5 x6 x7 x8 x9 q1 hwd hD
  obtain ⟨-, x0, x1, x2, x3, x4, x5, x6, x7, x8, x9⟩ := seen.out _ H1.out
  go_wp2_with fail
  refine (gp.out _ (LQ.out _ H1.out)).mono ?_
  rintro e wx ⟨S3, s3, S4, s4, rfl, vX, qx⟩
  obtain ⟨PX, hPX⟩ : ∃ x, wx.heap.size = x := ⟨_, rfl⟩
  obtain ⟨wxx, hwxx⟩ : ∃ x, wx.alloc (.cells #[.int .i64 xk, .int .i64 xn, .string xs, .slice S3 xn3 s3, .slice S4 xn4 s4] 26) = x := ⟨_, rfl⟩
  have qxx : Q wx wxx := by rw [← hwxx]; exact Q.box _ _
  have bX : Bk PX #[.int .i64 xk, .int .i64 xn, .string xs, .slice S3 xn3 s3, .slice S4 xn4 s4] 26 wxx := by rw [← hwxx, ← hPX]; exact Bk.new _ _ _
  have LX : Hid (L wxx) := Lib.hid (stays.out _ _ H1.out (qx.trans qxx))
  have VX := Lib.hid (vX.stays qxx)
  have BX := Lib.hid bX
  clear x0 x1 x2 x3 x4 x5 x6 x7 x8 x9 vX qx qxx bX
  obtain ⟨-, x0, x1, x2, x3, x4, x5, x6, x7, x8, x9⟩ := seen.out _ LX.out
  go_wp2_with fail
  refine (gr.out _ (LQ.out _ LX.out)).mono ?_
  rintro e wy ⟨T3, t3, T4, t4, rfl, vY, qy⟩
  obtain ⟨PY, hPY⟩ : ∃ x, wy.heap.size = x := ⟨_, rfl⟩
  obtain ⟨wyy, hwyy⟩ : ∃ x, wy.alloc (.cells #[.int .i64 xk, .int .i64 xn, .string xs, .slice T3 xn3 t3, .slice T4 xn4 t4] 26) = x := ⟨_, rfl⟩
  have qyy : Q wy wyy := by rw [← hwyy]; exact Q.box _ _
  have bY : Bk PY #[.int .i64 xk, .int .i64 xn, .string xs, .slice T3 xn3 t3, .slice T4 xn4 t4] 26 wyy := by rw [← hwyy, ← hPY]; exact Bk.new _ _ _
  obtain ⟨M, hM⟩ : ∃ M : World → Prop, M = fun w' => L w' ∧ Bk PX #[.int .i64 xk, .int .i64 xn, .string xs, .slice S3 xn3 s3, .slice S4 xn4 s4] 26 w' ∧ Bk PY #[.int .i64 xk, .int .i64 xn, .string xs, .slice T3 xn3 t3, .slice T4 xn4 t4] 26 w' ∧ Va X S3 s3 S4 s4 w' ∧ Va X T3 t3 T4 t4 w' := ⟨_, rfl⟩
  have M0 : Hid (M wyy) := Lib.hid (by rw [hM]; exact ⟨stays.out _ _ LX.out (qy.trans qyy), BX.out.stays (qy.trans qyy), bY, VX.out.stays (qy.trans qyy), vY.stays qyy⟩)
  have stay2 : Hid (∀ w' w'', M w' → Q w' w'' → M w'') := Lib.hid (fun w' w'' h q => by rw [hM] at h ⊢; exact ⟨stays.out _ _ h.1 q, h.2.1.stays q, h.2.2.1.stays q, h.2.2.2.1.stays q, h.2.2.2.2.stays q⟩)
  have MQ : Hid (∀ w', M w' → Q w w') := Lib.hid (fun w' h => by rw [hM] at h; exact LQ.out _ h.1)
  have see2 : Hid (∀ w', M w' → Hid (M w') ∧ w'.cell? ⟨P1, 0, none⟩ = some (.int .i64 ak) ∧ w'.cell? ⟨P1, 1, none⟩ = some (.int .i64 an) ∧ w'.cell? ⟨P1, 2, none⟩ = some (.string as') ∧ w'.cell? ⟨P1, 3, none⟩ = some (.slice A3 an3 k3) ∧ w'.cell? ⟨P1, 4, none⟩ = some (.slice A4 an4 k4) ∧ w'.cell? ⟨P2, 0, none⟩ = some (.int .i64 bk) ∧ w'.cell? ⟨P2, 1, none⟩ = some (.int .i64 bn) ∧ w'.cell? ⟨P2, 2, none⟩ = some (.string bs) ∧ w'.cell? ⟨P2, 3, none⟩ = some (.slice B3 bn3 l3) ∧ w'.cell? ⟨P2, 4, none⟩ = some (.slice B4 bn4 l4) ∧ w'.cell? ⟨PX, 0, none⟩ = some (.int .i64 xk) ∧ w'.cell? ⟨PX, 1, none⟩ = some (.int .i64 xn) ∧ w'.cell? ⟨PX, 2, none⟩ = some (.string xs) ∧ w'.cell? ⟨PX, 3, none⟩ = some (.slice S3 xn3 s3) ∧ w'.cell? ⟨PX, 4, none⟩ = some (.slice S4 xn4 s4) ∧ w'.cell? ⟨PY, 0, none⟩ = some (.int .i64 xk) ∧ w'.cell? ⟨PY, 1, none⟩ = some (.int .i64 xn) ∧ w'.cell? ⟨PY, 2, none⟩ = some (.string xs) ∧ w'.cell? ⟨PY, 3, none⟩ = some (.slice T3 xn3 t3) ∧ w'.cell? ⟨PY, 4, none⟩ = some (.slice T4 xn4 t4)) := Lib.hid (fun w' h => ⟨Lib.hid h, by
    rw [hM] at h
    obtain ⟨-, z0, z1, z2, z3, z4, z5, z6, z7, z8, z9⟩ := seen.out _ h.1
    exact ⟨z0, z1, z2, z3, z4, z5, z6, z7, z8, z9, h.2.1.at 0 _ rfl, h.2.1.at 1 _ rfl, h.2.1.at 2 _ rfl, h.2.1.at 3 _ rfl, h.2.1.at 4 _ rfl, h.2.2.1.at 0 _ rfl, h.2.2.1.at 1 _ rfl, h.2.2.1.at 2 _ rfl, h.2.2.1.at 3 _ rfl, h.2.2.1.at 4 _ rfl⟩⟩)
  have VXY : Hid (∀ w', M w' → Va X S3 s3 S4 s4 w' ∧ Va X T3 t3 T4 t4 w') := Lib.hid (fun w' h => by rw [hM] at h; exact h.2.2.2)
  have jj1 : Hid (∀ w', M w' → Calls Tryz.prog 34 #[.agg #[.int .i64 ak, .int .i64 an, .string as', .slice A3 an3 k3, .slice A4 an4 k4], .agg #[.int .i64 bk, .int .i64 bn, .string bs, .slice B3 bn3 l3, .slice B4 bn4 l4]] w' fun e w'' => e = .returned (.bool E1) ∧ M w'') := Lib.hid (fun w' h => (p1.out w' (MQ.out _ h)).mono fun _ _ g => ⟨g.1, stay2.out _ _ h g.2⟩)
  have jj2 : Hid (∀ w', M w' → Calls Tryz.prog 15 #[.agg #[.int .i64 ak, .int .i64 an, .string as', .slice A3 an3 k3, .slice A4 an4 k4], .agg #[.int .i64 bk, .int .i64 bn, .string bs, .slice B3 bn3 l3, .slice B4 bn4 l4]] w' fun e w'' => e = .returned (.bool E1) ∧ M w'') := Lib.hid (fun w' h => (r1.out w' (MQ.out _ h)).mono fun _ _ g => ⟨g.1, stay2.out _ _ h g.2⟩)
  have jj3 : Hid (∀ w', M w' → Calls Tryz.prog 35 #[.agg #[.int .i64 ak, .int .i64 an, .string as', .slice A3 an3 k3, .slice A4 an4 k4], .agg #[.int .i64 bk, .int .i64 bn, .string bs, .slice B3 bn3 l3, .slice B4 bn4 l4]] w' fun e w'' => e = .returned (.int .i64 E2) ∧ M w'') := Lib.hid (fun w' h => (p2.out w' (MQ.out _ h)).mono fun _ _ g => ⟨g.1, stay2.out _ _ h g.2⟩)
  have jj4 : Hid (∀ w', M w' → Calls Tryz.prog 36 #[.agg #[.int .i64 ak, .int .i64 an, .string as', .slice A3 an3 k3, .slice A4 an4 k4], .agg #[.int .i64 bk, .int .i64 bn, .string bs, .slice B3 bn3 l3, .slice B4 bn4 l4]] w' fun e w'' => e = .returned (.int .i64 E2) ∧ M w'') := Lib.hid (fun w' h => (r2.out w' (MQ.out _ h)).mono fun _ _ g => ⟨g.1, stay2.out _ _ h g.2⟩)
  have jj5 : Hid (∀ w', M w' → Calls Tryz.prog 37 #[.agg #[.int .i64 ak, .int .i64 an, .string as', .slice A3 an3 k3, .slice A4 an4 k4]] w' fun e w'' => e = .returned (.bool E3) ∧ M w'') := Lib.hid (fun w' h => (p3.out w' (MQ.out _ h)).mono fun _ _ g => ⟨g.1, stay2.out _ _ h g.2⟩)
  have jj6 : Hid (∀ w', M w' → Calls Tryz.prog 38 #[.agg #[.int .i64 ak, .int .i64 an, .string as', .slice A3 an3 k3, .slice A4 an4 k4]] w' fun e w'' => e = .returned (.bool E3) ∧ M w'') := Lib.hid (fun w' h => (r3.out w' (MQ.out _ h)).mono fun _ _ g => ⟨g.1, stay2.out _ _ h g.2⟩)
  have jj7 : Hid (∀ w', M w' → Calls Tryz.prog 39 #[.agg #[.int .i64 ak, .int .i64 an, .string as', .slice A3 an3 k3, .slice A4 an4 k4], .agg #[.int .i64 bk, .int .i64 bn, .string bs, .slice B3 bn3 l3, .slice B4 bn4 l4]] w' fun e w'' => e = .returned (.bool E4) ∧ M w'') := Lib.hid (fun w' h => (p4.out w' (MQ.out _ h)).mono fun _ _ g => ⟨g.1, stay2.out _ _ h g.2⟩)
  have jj8 : Hid (∀ w', M w' → Calls Tryz.prog 40 #[.agg #[.int .i64 ak, .int .i64 an, .string as', .slice A3 an3 k3, .slice A4 an4 k4], .agg #[.int .i64 bk, .int .i64 bn, .string bs, .slice B3 bn3 l3, .slice B4 bn4 l4]] w' fun e w'' => e = .returned (.bool E4) ∧ M w'') := Lib.hid (fun w' h => (r4.out w' (MQ.out _ h)).mono fun _ _ g => ⟨g.1, stay2.out _ _ h g.2⟩)
  have jj9 : Hid (∀ w', M w' → Calls Tryz.prog 41 #[.agg #[.int .i64 ak, .int .i64 an, .string as', .slice A3 an3 k3, .slice A4 an4 k4]] w' fun e w'' => e = .returned (.int .i64 (E5 : Nat)) ∧ M w'') := Lib.hid (fun w' h => (p5.out w' (MQ.out _ h)).mono fun _ _ g => ⟨g.1, stay2.out _ _ h g.2⟩)
  have jj10 : Hid (∀ w', M w' → Calls Tryz.prog 42 #[.agg #[.int .i64 ak, .int .i64 an, .string as', .slice A3 an3 k3, .slice A4 an4 k4]] w' fun e w'' => e = .returned (.int .i64 (E5 : Nat)) ∧ M w'') := Lib.hid (fun w' h => (r5.out w' (MQ.out _ h)).mono fun _ _ g => ⟨g.1, stay2.out _ _ h g.2⟩)
  have jj12 : Hid (∀ w', M w' → Calls Tryz.prog 11 #[] w' fun e w'' => e = .returned (.bool true) ∧ M w'') := Lib.hid (fun w' h => (cA.out w' (MQ.out _ h)).mono fun _ _ g => ⟨g.1, stay2.out _ _ h g.2⟩)
  have jj11 : Hid (∀ w', M w' → Calls Tryz.prog 15 #[.agg #[.int .i64 xk, .int .i64 xn, .string xs, .slice S3 xn3 s3, .slice S4 xn4 s4], .agg #[.int .i64 xk, .int .i64 xn, .string xs, .slice T3 xn3 t3, .slice T4 xn4 t4]] w' fun e w'' => e = .returned (.bool true) ∧ M w'') := Lib.hid (fun w' h => (gx.out _ _ _ _ _ _ _ _ w' (VXY.out _ h).1 (VXY.out _ h).2).mono fun _ _ g => ⟨g.1, stay2.out _ _ h g.2⟩)
  clear hM p1 p2 p3 p4 p5 r1 r2 r3 r4 r5 gp gr gx VXY VX BX vY qy qyy bY x0 x1 x2 x3 x4 x5 x6 x7 x8 x9
  go_wp2_with fail
  refine Go.wp_region_held_drew (S := (fun w' => Hid (M w') ∧ w'.cell? ⟨P1, 0, none⟩ = some (.int .i64 ak) ∧ w'.cell? ⟨P1, 1, none⟩ = some (.int .i64 an) ∧ w'.cell? ⟨P1, 2, none⟩ = some (.string as') ∧ w'.cell? ⟨P1, 3, none⟩ = some (.slice A3 an3 k3) ∧ w'.cell? ⟨P1, 4, none⟩ = some (.slice A4 an4 k4) ∧ w'.cell? ⟨P2, 0, none⟩ = some (.int .i64 bk) ∧ w'.cell? ⟨P2, 1, none⟩ = some (.int .i64 bn) ∧ w'.cell? ⟨P2, 2, none⟩ = some (.string bs) ∧ w'.cell? ⟨P2, 3, none⟩ = some (.slice B3 bn3 l3) ∧ w'.cell? ⟨P2, 4, none⟩ = some (.slice B4 bn4 l4) ∧ w'.cell? ⟨PX, 0, none⟩ = some (.int .i64 xk) ∧ w'.cell? ⟨PX, 1, none⟩ = some (.int .i64 xn) ∧ w'.cell? ⟨PX, 2, none⟩ = some (.string xs) ∧ w'.cell? ⟨PX, 3, none⟩ = some (.slice S3 xn3 s3) ∧ w'.cell? ⟨PX, 4, none⟩ = some (.slice S4 xn4 s4) ∧ w'.cell? ⟨PY, 0, none⟩ = some (.int .i64 xk) ∧ w'.cell? ⟨PY, 1, none⟩ = some (.int .i64 xn) ∧ w'.cell? ⟨PY, 2, none⟩ = some (.string xs) ∧ w'.cell? ⟨PY, 3, none⟩ = some (.slice T3 xn3 t3) ∧ w'.cell? ⟨PY, 4, none⟩ = some (.slice T4 xn4 t4))) (by kernel_rfl) (see2.out _ (stay2.out _ _ M0.out (Q.drewN _ 1))) (fun hHeld => ?_)
  refine Go.wpAnyH_take (i := 0) (oi := _) (v := ?_) rfl (by kernel_rfl) (by kernel_rfl) (by kernel_rfl) (fun _ _ _ h => h) (Or.inl ⟨by rfl, ?_⟩) (by assumption) ?_
  rotate_left 1
  · intro wx hSw
    go_simp <;> with_reducible rfl
  simp only [Act.put, List.getElem_toArray, List.getElem_cons_zero, List.setIfInBounds_toArray, List.set_cons_zero, List.set_cons_succ]
  refine Go.wpAnyH_take (i := 1) (oi := _) (v := ?_) rfl (by kernel_rfl) (by kernel_rfl) (by kernel_rfl) (fun _ _ _ h => h) (Or.inl ⟨by rfl, ?_⟩) (by assumption) ?_
  rotate_left 1
  · intro wx hSw
    go_simp <;> with_reducible rfl
  simp only [Act.put, List.getElem_toArray, List.getElem_cons_zero, List.getElem_cons_succ, List.setIfInBounds_toArray, List.set_cons_zero, List.set_cons_succ]
  refine Go.wpAnyH_take (i := 3) (oi := _) (v := ?_) rfl (by kernel_rfl) (by kernel_rfl) (by kernel_rfl) (fun _ _ _ h => h) (Or.inl ⟨by rfl, ?_⟩) (by assumption) ?_
  rotate_left 1
  · intro wx hSw
    go_simp <;> with_reducible rfl
  simp only [Act.put, List.getElem_toArray, List.getElem_cons_zero, List.getElem_cons_succ, List.setIfInBounds_toArray, List.set_cons_zero, List.set_cons_succ]
  refine Go.wpAnyH_take (i := 4) (oi := _) (v := ?_) rfl (by kernel_rfl) (by kernel_rfl) (by kernel_rfl) (fun _ _ _ h => h) (Or.inl ⟨by rfl, ?_⟩) (by assumption) ?_
  rotate_left 1
  · intro wx hSw
    go_simp <;> with_reducible rfl
  simp only [Act.put, List.getElem_toArray, List.getElem_cons_zero, List.getElem_cons_succ, List.setIfInBounds_toArray, List.set_cons_zero, List.set_cons_succ]
  refine Go.wpAnyH_ready (rs := [2]) (by kernel_rfl) (by simp) ?_
  refine Go.AllReadyH.cons rfl (fun K hK => ?_) Go.AllReadyH.nil
  rw [if_pos (by rfl)]
  go_simp
  refine (jj1.out _ hHeld.1.out).mono ?_
  rintro e vm1_2 ⟨rfl, gm1_2⟩
  refine hK.out _ _ (see2.out _ gm1_2) (fun hHeld => ?_)
  clear hK K
  refine Go.wpAnyH_ready (rs := [5]) (by kernel_rfl) (by simp) ?_
  refine Go.AllReadyH.cons rfl (fun K hK => ?_) Go.AllReadyH.nil
  rw [if_pos (by rfl)]
  go_simp
  refine (jj2.out _ hHeld.1.out).mono ?_
  rintro e vm1_5 ⟨rfl, gm1_5⟩
  refine hK.out _ _ (see2.out _ gm1_5) (fun hHeld => ?_)
  clear hK K
  refine Go.wpAnyH_take (i := 6) (oi := _) (v := ?_) rfl (by kernel_rfl) (by kernel_rfl) (by kernel_rfl) (fun _ _ _ h => h) (Or.inl ⟨by rfl, ?_⟩) (by assumption) ?_
  rotate_left 1
  · intro wx hSw
    go_simp <;> with_reducible rfl
  simp only [Act.put, List.getElem_toArray, List.getElem_cons_zero, List.getElem_cons_succ, List.setIfInBounds_toArray, List.set_cons_zero, List.set_cons_succ]
  refine Go.wpAnyH_take (i := 7) (oi := _) (v := ?_) rfl (by kernel_rfl) (by kernel_rfl) (by kernel_rfl) (fun _ _ _ h => h) (Or.inl ⟨by rfl, ?_⟩) (by assumption) ?_
  rotate_left 1
  · intro wx hSw
    go_simp <;> with_reducible rfl
  simp only [Act.put, List.getElem_toArray, List.getElem_cons_zero, List.getElem_cons_succ, List.setIfInBounds_toArray, List.set_cons_zero, List.set_cons_succ]
  refine Go.wpAnyH_take (i := 8) (oi := _) (v := ?_) rfl (by kernel_rfl) (by kernel_rfl) (by kernel_rfl) (fun _ _ _ h => h) (Or.inl ⟨by rfl, ?_⟩) (by assumption) ?_
  rotate_left 1
  · intro wx hSw
    go_simp <;> with_reducible rfl
  simp only [Act.put, List.getElem_toArray, List.getElem_cons_zero, List.getElem_cons_succ, List.setIfInBounds_toArray, List.set_cons_zero, List.set_cons_succ]
  refine Go.wpAnyH_take (i := 9) (oi := _) (v := ?_) rfl (by kernel_rfl) (by kernel_rfl) (by kernel_rfl) (fun _ _ _ h => h) (Or.inl ⟨by rfl, ?_⟩) (by assumption) ?_
  rotate_left 1
  · intro wx hSw
    go_simp <;> with_reducible rfl
  simp only [Act.put, List.getElem_toArray, List.getElem_cons_zero, List.getElem_cons_succ, List.setIfInBounds_toArray, List.set_cons_zero, List.set_cons_succ]
  refine Go.wpAnyH_take (i := 11) (oi := _) (v := ?_) rfl (by kernel_rfl) (by kernel_rfl) (by kernel_rfl) (fun _ _ _ h => h) (Or.inl ⟨by rfl, ?_⟩) (by assumption) ?_
  rotate_left 1
  · intro wx hSw
    go_simp <;> with_reducible rfl
  simp only [Act.put, List.getElem_toArray, List.getElem_cons_zero, List.getElem_cons_succ, List.setIfInBounds_toArray, List.set_cons_zero, List.set_cons_succ]
  refine Go.wpAnyH_take (i := 12) (oi := _) (v := ?_) rfl (by kernel_rfl) (by kernel_rfl) (by kernel_rfl) (fun _ _ _ h => h) (Or.inl ⟨by rfl, ?_⟩) (by assumption) ?_
  rotate_left 1
  · intro wx hSw
    go_simp <;> with_reducible rfl
  simp only [Act.put, List.getElem_toArray, List.getElem_cons_zero, List.getElem_cons_succ, List.setIfInBounds_toArray, List.set_cons_zero, List.set_cons_succ]
  refine Go.wpAnyH_ready (rs := [10]) (by kernel_rfl) (by simp) ?_
  refine Go.AllReadyH.cons rfl (fun K hK => ?_) Go.AllReadyH.nil
  rw [if_pos (by rfl)]
  go_simp
  refine (jj3.out _ hHeld.1.out).mono ?_
  rintro e vm1_10 ⟨rfl, gm1_10⟩
  refine hK.out _ _ (see2.out _ gm1_10) (fun hHeld => ?_)
  clear hK K
  refine Go.wpAnyH_ready (rs := [13]) (by kernel_rfl) (by simp) ?_
  refine Go.AllReadyH.cons rfl (fun K hK => ?_) Go.AllReadyH.nil
  rw [if_pos (by rfl)]
  go_simp
  refine (jj4.out _ hHeld.1.out).mono ?_
  rintro e vm1_13 ⟨rfl, gm1_13⟩
  refine hK.out _ _ (see2.out _ gm1_13) (fun hHeld => ?_)
  clear hK K
  refine Go.wpAnyH_take (i := 14) (oi := _) (v := ?_) rfl (by kernel_rfl) (by kernel_rfl) (by kernel_rfl) (fun _ _ _ h => h) (Or.inl ⟨by rfl, ?_⟩) (by assumption) ?_
  rotate_left 1
  · intro wx hSw
    go_simp <;> with_reducible rfl
  simp only [Act.put, List.getElem_toArray, List.getElem_cons_zero, List.getElem_cons_succ, List.setIfInBounds_toArray, List.set_cons_zero, List.set_cons_succ]
  refine Go.wpAnyH_take (i := 15) (oi := _) (v := ?_) rfl (by kernel_rfl) (by kernel_rfl) (by kernel_rfl) (fun _ _ _ h => h) (Or.inl ⟨by rfl, ?_⟩) (by assumption) ?_
  rotate_left 1
  · intro wx hSw
    go_simp <;> with_reducible rfl
  simp only [Act.put, List.getElem_toArray, List.getElem_cons_zero, List.getElem_cons_succ, List.setIfInBounds_toArray, List.set_cons_zero, List.set_cons_succ]
  refine Go.wpAnyH_take (i := 16) (oi := _) (v := ?_) rfl (by kernel_rfl) (by kernel_rfl) (by kernel_rfl) (fun _ _ _ h => h) (Or.inl ⟨by rfl, ?_⟩) (by assumption) ?_
  rotate_left 1
  · intro wx hSw
    go_simp <;> with_reducible rfl
  simp only [Act.put, List.getElem_toArray, List.getElem_cons_zero, List.getElem_cons_succ, List.setIfInBounds_toArray, List.set_cons_zero, List.set_cons_succ]
  refine Go.wpAnyH_take (i := 17) (oi := _) (v := ?_) rfl (by kernel_rfl) (by kernel_rfl) (by kernel_rfl) (fun _ _ _ h => h) (Or.inl ⟨by rfl, ?_⟩) (by assumption) ?_
  rotate_left 1
  · intro wx hSw
    go_simp <;> with_reducible rfl
  simp only [Act.put, List.getElem_toArray, List.getElem_cons_zero, List.getElem_cons_succ, List.setIfInBounds_toArray, List.set_cons_zero, List.set_cons_succ]
  refine Go.wpAnyH_take (i := 19) (oi := _) (v := ?_) rfl (by kernel_rfl) (by kernel_rfl) (by kernel_rfl) (fun _ _ _ h => h) (Or.inl ⟨by rfl, ?_⟩) (by assumption) ?_
  rotate_left 1
  · intro wx hSw
    go_simp <;> with_reducible rfl
  simp only [Act.put, List.getElem_toArray, List.getElem_cons_zero, List.getElem_cons_succ, List.setIfInBounds_toArray, List.set_cons_zero, List.set_cons_succ]
  refine Go.wpAnyH_ready (rs := [18]) (by kernel_rfl) (by simp) ?_
  refine Go.AllReadyH.cons rfl (fun K hK => ?_) Go.AllReadyH.nil
  rw [if_pos (by rfl)]
  go_simp
  refine (jj5.out _ hHeld.1.out).mono ?_
  rintro e vm1_18 ⟨rfl, gm1_18⟩
  refine hK.out _ _ (see2.out _ gm1_18) (fun hHeld => ?_)
  clear hK K
  refine Go.wpAnyH_ready (rs := [20]) (by kernel_rfl) (by simp) ?_
  refine Go.AllReadyH.cons rfl (fun K hK => ?_) Go.AllReadyH.nil
  rw [if_pos (by rfl)]
  go_simp
  refine (jj6.out _ hHeld.1.out).mono ?_
  rintro e vm1_20 ⟨rfl, gm1_20⟩
  refine hK.out _ _ (see2.out _ gm1_20) (fun hHeld => ?_)
  clear hK K
  refine Go.wpAnyH_take (i := 21) (oi := _) (v := ?_) rfl (by kernel_rfl) (by kernel_rfl) (by kernel_rfl) (fun _ _ _ h => h) (Or.inl ⟨by rfl, ?_⟩) (by assumption) ?_
  rotate_left 1
  · intro wx hSw
    go_simp <;> with_reducible rfl
  simp only [Act.put, List.getElem_toArray, List.getElem_cons_zero, List.getElem_cons_succ, List.setIfInBounds_toArray, List.set_cons_zero, List.set_cons_succ]
  refine Go.wpAnyH_take (i := 22) (oi := _) (v := ?_) rfl (by kernel_rfl) (by kernel_rfl) (by kernel_rfl) (fun _ _ _ h => h) (Or.inl ⟨by rfl, ?_⟩) (by assumption) ?_
  rotate_left 1
  · intro wx hSw
    go_simp <;> with_reducible rfl
  simp only [Act.put, List.getElem_toArray, List.getElem_cons_zero, List.getElem_cons_succ, List.setIfInBounds_toArray, List.set_cons_zero, List.set_cons_succ]
  refine Go.wpAnyH_take (i := 23) (oi := _) (v := ?_) rfl (by kernel_rfl) (by kernel_rfl) (by kernel_rfl) (fun _ _ _ h => h) (Or.inl ⟨by rfl, ?_⟩) (by assumption) ?_
  rotate_left 1
  · intro wx hSw
    go_simp <;> with_reducible rfl
  simp only [Act.put, List.getElem_toArray, List.getElem_cons_zero, List.getElem_cons_succ, List.setIfInBounds_toArray, List.set_cons_zero, List.set_cons_succ]
  refine Go.wpAnyH_take (i := 24) (oi := _) (v := ?_) rfl (by kernel_rfl) (by kernel_rfl) (by kernel_rfl) (fun _ _ _ h => h) (Or.inl ⟨by rfl, ?_⟩) (by assumption) ?_
  rotate_left 1
  · intro wx hSw
    go_simp <;> with_reducible rfl
  simp only [Act.put, List.getElem_toArray, List.getElem_cons_zero, List.getElem_cons_succ, List.setIfInBounds_toArray, List.set_cons_zero, List.set_cons_succ]
  refine Go.wpAnyH_take (i := 25) (oi := _) (v := ?_) rfl (by kernel_rfl) (by kernel_rfl) (by kernel_rfl) (fun _ _ _ h => h) (Or.inl ⟨by rfl, ?_⟩) (by assumption) ?_
  rotate_left 1
  · intro wx hSw
    go_simp <;> with_reducible rfl
  simp only [Act.put, List.getElem_toArray, List.getElem_cons_zero, List.getElem_cons_succ, List.setIfInBounds_toArray, List.set_cons_zero, List.set_cons_succ]
  refine Go.wpAnyH_take (i := 27) (oi := _) (v := ?_) rfl (by kernel_rfl) (by kernel_rfl) (by kernel_rfl) (fun _ _ _ h => h) (Or.inl ⟨by rfl, ?_⟩) (by assumption) ?_
  rotate_left 1
  · intro wx hSw
    go_simp <;> with_reducible rfl
  simp only [Act.put, List.getElem_toArray, List.getElem_cons_zero, List.getElem_cons_succ, List.setIfInBounds_toArray, List.set_cons_zero, List.set_cons_succ]
  refine Go.wpAnyH_take (i := 28) (oi := _) (v := ?_) rfl (by kernel_rfl) (by kernel_rfl) (by kernel_rfl) (fun _ _ _ h => h) (Or.inl ⟨by rfl, ?_⟩) (by assumption) ?_
  rotate_left 1
  · intro wx hSw
    go_simp <;> with_reducible rfl
  simp only [Act.put, List.getElem_toArray, List.getElem_cons_zero, List.getElem_cons_succ, List.setIfInBounds_toArray, List.set_cons_zero, List.set_cons_succ]
  refine Go.wpAnyH_ready (rs := [26]) (by kernel_rfl) (by simp) ?_
  refine Go.AllReadyH.cons rfl (fun K hK => ?_) Go.AllReadyH.nil
  rw [if_pos (by rfl)]
  go_simp
  refine (jj7.out _ hHeld.1.out).mono ?_
  rintro e vm1_26 ⟨rfl, gm1_26⟩
  refine hK.out _ _ (see2.out _ gm1_26) (fun hHeld => ?_)
  clear hK K
  refine Go.wpAnyH_ready (rs := [29]) (by kernel_rfl) (by simp) ?_
  refine Go.AllReadyH.cons rfl (fun K hK => ?_) Go.AllReadyH.nil
  rw [if_pos (by rfl)]
  go_simp
  refine (jj8.out _ hHeld.1.out).mono ?_
  rintro e vm1_29 ⟨rfl, gm1_29⟩
  refine hK.out _ _ (see2.out _ gm1_29) (fun hHeld => ?_)
  clear hK K
  refine Go.wpAnyH_take (i := 30) (oi := _) (v := ?_) rfl (by kernel_rfl) (by kernel_rfl) (by kernel_rfl) (fun _ _ _ h => h) (Or.inl ⟨by rfl, ?_⟩) (by assumption) ?_
  rotate_left 1
  · intro wx hSw
    go_simp <;> with_reducible rfl
  simp only [Act.put, List.getElem_toArray, List.getElem_cons_zero, List.getElem_cons_succ, List.setIfInBounds_toArray, List.set_cons_zero, List.set_cons_succ]
  refine Go.wpAnyH_take (i := 31) (oi := _) (v := ?_) rfl (by kernel_rfl) (by kernel_rfl) (by kernel_rfl) (fun _ _ _ h => h) (Or.inl ⟨by rfl, ?_⟩) (by assumption) ?_
  rotate_left 1
  · intro wx hSw
    go_simp <;> with_reducible rfl
  simp only [Act.put, List.getElem_toArray, List.getElem_cons_zero, List.getElem_cons_succ, List.setIfInBounds_toArray, List.set_cons_zero, List.set_cons_succ]
  refine Go.wpAnyH_take (i := 32) (oi := _) (v := ?_) rfl (by kernel_rfl) (by kernel_rfl) (by kernel_rfl) (fun _ _ _ h => h) (Or.inl ⟨by rfl, ?_⟩) (by assumption) ?_
  rotate_left 1
  · intro wx hSw
    go_simp <;> with_reducible rfl
  simp only [Act.put, List.getElem_toArray, List.getElem_cons_zero, List.getElem_cons_succ, List.setIfInBounds_toArray, List.set_cons_zero, List.set_cons_succ]
  refine Go.wpAnyH_take (i := 33) (oi := _) (v := ?_) rfl (by kernel_rfl) (by kernel_rfl) (by kernel_rfl) (fun _ _ _ h => h) (Or.inl ⟨by rfl, ?_⟩) (by assumption) ?_
  rotate_left 1
  · intro wx hSw
    go_simp <;> with_reducible rfl
  simp only [Act.put, List.getElem_toArray, List.getElem_cons_zero, List.getElem_cons_succ, List.setIfInBounds_toArray, List.set_cons_zero, List.set_cons_succ]
  refine Go.wpAnyH_take (i := 35) (oi := _) (v := ?_) rfl (by kernel_rfl) (by kernel_rfl) (by kernel_rfl) (fun _ _ _ h => h) (Or.inl ⟨by rfl, ?_⟩) (by assumption) ?_
  rotate_left 1
  · intro wx hSw
    go_simp <;> with_reducible rfl
  simp only [Act.put, List.getElem_toArray, List.getElem_cons_zero, List.getElem_cons_succ, List.setIfInBounds_toArray, List.set_cons_zero, List.set_cons_succ]
  refine Go.wpAnyH_ready (rs := [34]) (by kernel_rfl) (by simp) ?_
  refine Go.AllReadyH.cons rfl (fun K hK => ?_) Go.AllReadyH.nil
  rw [if_pos (by rfl)]
  go_simp
  refine (jj9.out _ hHeld.1.out).mono ?_
  rintro e vm1_34 ⟨rfl, gm1_34⟩
  refine hK.out _ _ (see2.out _ gm1_34) (fun hHeld => ?_)
  clear hK K
  refine Go.wpAnyH_ready (rs := [36]) (by kernel_rfl) (by simp) ?_
  refine Go.AllReadyH.cons rfl (fun K hK => ?_) Go.AllReadyH.nil
  rw [if_pos (by rfl)]
  go_simp
  refine (jj10.out _ hHeld.1.out).mono ?_
  rintro e vm1_36 ⟨rfl, gm1_36⟩
  refine hK.out _ _ (see2.out _ gm1_36) (fun hHeld => ?_)
  clear hK K
  refine Go.wpAnyH_take (i := 37) (oi := _) (v := ?_) rfl (by kernel_rfl) (by kernel_rfl) (by kernel_rfl) (fun _ _ _ h => h) (Or.inl ⟨by rfl, ?_⟩) (by assumption) ?_
  rotate_left 1
  · intro wx hSw
    go_simp <;> with_reducible rfl
  simp only [Act.put, List.getElem_toArray, List.getElem_cons_zero, List.getElem_cons_succ, List.setIfInBounds_toArray, List.set_cons_zero, List.set_cons_succ]
  refine Go.wpAnyH_take (i := 38) (oi := _) (v := ?_) rfl (by kernel_rfl) (by kernel_rfl) (by kernel_rfl) (fun _ _ _ h => h) (Or.inl ⟨by rfl, ?_⟩) (by assumption) ?_
  rotate_left 1
  · intro wx hSw
    go_simp <;> with_reducible rfl
  simp only [Act.put, List.getElem_toArray, List.getElem_cons_zero, List.getElem_cons_succ, List.setIfInBounds_toArray, List.set_cons_zero, List.set_cons_succ]
  refine Go.wpAnyH_take (i := 39) (oi := _) (v := ?_) rfl (by kernel_rfl) (by kernel_rfl) (by kernel_rfl) (fun _ _ _ h => h) (Or.inl ⟨by rfl, ?_⟩) (by assumption) ?_
  rotate_left 1
  · intro wx hSw
    go_simp <;> with_reducible rfl
  simp only [Act.put, List.getElem_toArray, List.getElem_cons_zero, List.getElem_cons_succ, List.setIfInBounds_toArray, List.set_cons_zero, List.set_cons_succ]
  refine Go.wpAnyH_take (i := 40) (oi := _) (v := ?_) rfl (by kernel_rfl) (by kernel_rfl) (by kernel_rfl) (fun _ _ _ h => h) (Or.inl ⟨by rfl, ?_⟩) (by assumption) ?_
  rotate_left 1
  · intro wx hSw
    go_simp <;> with_reducible rfl
  simp only [Act.put, List.getElem_toArray, List.getElem_cons_zero, List.getElem_cons_succ, List.setIfInBounds_toArray, List.set_cons_zero, List.set_cons_succ]
  refine Go.wpAnyH_take (i := 41) (oi := _) (v := ?_) rfl (by kernel_rfl) (by kernel_rfl) (by kernel_rfl) (fun _ _ _ h => h) (Or.inl ⟨by rfl, ?_⟩) (by assumption) ?_
  rotate_left 1
  · intro wx hSw
    go_simp <;> with_reducible rfl
  simp only [Act.put, List.getElem_toArray, List.getElem_cons_zero, List.getElem_cons_succ, List.setIfInBounds_toArray, List.set_cons_zero, List.set_cons_succ]
  refine Go.wpAnyH_take (i := 42) (oi := _) (v := ?_) rfl (by kernel_rfl) (by kernel_rfl) (by kernel_rfl) (fun _ _ _ h => h) (Or.inl ⟨by rfl, ?_⟩) (by assumption) ?_
  rotate_left 1
  · intro wx hSw
    go_simp <;> with_reducible rfl
  simp only [Act.put, List.getElem_toArray, List.getElem_cons_zero, List.getElem_cons_succ, List.setIfInBounds_toArray, List.set_cons_zero, List.set_cons_succ]
  refine Go.wpAnyH_take (i := 43) (oi := _) (v := ?_) rfl (by kernel_rfl) (by kernel_rfl) (by kernel_rfl) (fun _ _ _ h => h) (Or.inl ⟨by rfl, ?_⟩) (by assumption) ?_
  rotate_left 1
  · intro wx hSw
    go_simp <;> with_reducible rfl
  simp only [Act.put, List.getElem_toArray, List.getElem_cons_zero, List.getElem_cons_succ, List.setIfInBounds_toArray, List.set_cons_zero, List.set_cons_succ]
  refine Go.wpAnyH_take (i := 44) (oi := _) (v := ?_) rfl (by kernel_rfl) (by kernel_rfl) (by kernel_rfl) (fun _ _ _ h => h) (Or.inl ⟨by rfl, ?_⟩) (by assumption) ?_
  rotate_left 1
  · intro wx hSw
    go_simp <;> with_reducible rfl
  simp only [Act.put, List.getElem_toArray, List.getElem_cons_zero, List.getElem_cons_succ, List.setIfInBounds_toArray, List.set_cons_zero, List.set_cons_succ]
  refine Go.wpAnyH_take (i := 45) (oi := _) (v := ?_) rfl (by kernel_rfl) (by kernel_rfl) (by kernel_rfl) (fun _ _ _ h => h) (Or.inl ⟨by rfl, ?_⟩) (by assumption) ?_
  rotate_left 1
  · intro wx hSw
    go_simp <;> with_reducible rfl
  simp only [Act.put, List.getElem_toArray, List.getElem_cons_zero, List.getElem_cons_succ, List.setIfInBounds_toArray, List.set_cons_zero, List.set_cons_succ]
  refine Go.wpAnyH_take (i := 46) (oi := _) (v := ?_) rfl (by kernel_rfl) (by kernel_rfl) (by kernel_rfl) (fun _ _ _ h => h) (Or.inl ⟨by rfl, ?_⟩) (by assumption) ?_
  rotate_left 1
  · intro wx hSw
    go_simp <;> with_reducible rfl
  simp only [Act.put, List.getElem_toArray, List.getElem_cons_zero, List.getElem_cons_succ, List.setIfInBounds_toArray, List.set_cons_zero, List.set_cons_succ]
  refine Go.wpAnyH_ready (rs := [47]) (by kernel_rfl) (by simp) ?_
  refine Go.AllReadyH.cons rfl (fun K hK => ?_) Go.AllReadyH.nil
  rw [if_pos (by rfl)]
  go_simp
  refine (jj11.out _ hHeld.1.out).mono ?_
  rintro e vm1_47 ⟨rfl, gm1_47⟩
  refine hK.out _ _ (see2.out _ gm1_47) (fun hHeld => ?_)
  clear hK K
  refine Go.wpAnyH_take (i := 48) (oi := _) (v := ?_) rfl (by kernel_rfl) (by kernel_rfl) (by kernel_rfl) (fun _ _ _ h => h) (Or.inl ⟨by rfl, ?_⟩) (by assumption) ?_
  rotate_left 1
  · intro wx hSw
    go_simp <;> with_reducible rfl
  simp only [Act.put, List.getElem_toArray, List.getElem_cons_zero, List.getElem_cons_succ, List.setIfInBounds_toArray, List.set_cons_zero, List.set_cons_succ]
  refine Go.wpAnyH_take (i := 49) (oi := _) (v := ?_) rfl (by kernel_rfl) (by kernel_rfl) (by kernel_rfl) (fun _ _ _ h => h) (Or.inl ⟨by rfl, ?_⟩) (by assumption) ?_
  rotate_left 1
  · intro wx hSw
    go_simp <;> with_reducible rfl
  simp only [Act.put, List.getElem_toArray, List.getElem_cons_zero, List.getElem_cons_succ, List.setIfInBounds_toArray, List.set_cons_zero, List.set_cons_succ]
  refine Go.wpAnyH_ready (rs := [50]) (by kernel_rfl) (by simp) ?_
  refine Go.AllReadyH.cons rfl (fun K hK => ?_) Go.AllReadyH.nil
  rw [if_pos (by rfl)]
  go_simp
  refine (jj12.out _ hHeld.1.out).mono ?_
  rintro e vm1_50 ⟨rfl, gm1_50⟩
  refine hK.out _ _ (see2.out _ gm1_50) (fun hHeld => ?_)
  clear hK K
  refine Go.wpAnyH_take (i := 51) (oi := _) (v := ?_) rfl (by kernel_rfl) (by kernel_rfl) (by kernel_rfl) (fun _ _ _ h => h) (Or.inl ⟨by rfl, ?_⟩) (by assumption) ?_
  rotate_left 1
  · intro wx hSw
    go_simp <;> with_reducible rfl
  simp only [Act.put, List.getElem_toArray, List.getElem_cons_zero, List.getElem_cons_succ, List.setIfInBounds_toArray, List.set_cons_zero, List.set_cons_succ]
  refine Go.wpAnyH_take (i := 52) (oi := _) (v := ?_) rfl (by kernel_rfl) (by kernel_rfl) (by kernel_rfl) (fun _ _ _ h => h) (Or.inl ⟨by rfl, ?_⟩) (by assumption) ?_
  rotate_left 1
  · intro wx hSw
    go_simp <;> with_reducible rfl
  simp only [Act.put, List.getElem_toArray, List.getElem_cons_zero, List.getElem_cons_succ, List.setIfInBounds_toArray, List.set_cons_zero, List.set_cons_succ]
  refine Go.wpAnyH_done (by kernel_rfl) ?_ _
  have Hm1 := Lib.hid hHeld.1.out
  clear hHeld
  go_wp2_with fail
  go_ret
  exact ⟨by simp, MQ.out _ Hm1.out⟩

end Go.Proofs.YtjmchjphdfbhiaaGreatDoor.val
