/- Compare: what the program's function returns. -/
import Derived.Test.YthekabflbpfjoaaGreatDoorAcf
namespace Go.Proofs.YthekabflbpfjoaaGreatDoor.adr
open Go.RowKit
open Go.Proofs.YthekabflbpfjoaaGreatDoor

/-- Two addresses in blocks of one's own. -/
def L2 (p q : Nat) (A A' : Option Addr) (n n' c c' : Nat) (d d' : Bool) (ty nm ty' nm' : ByteArray) (kd m kd' m' : Int) (t t' : ByteArray) (w w' : World) : Prop := Q w w' ∧ Bk p #[.slice A n c, .bool d, .string ty, .string nm, .int .i64 kd, .int .i64 m, .string t] 27 w' ∧ Bk q #[.slice A' n' c', .bool d', .string ty', .string nm', .int .i64 kd', .int .i64 m', .string t'] 27 w'
theorem L2.stays {p q : Nat} {A A' : Option Addr} {n n' c c' : Nat} {d d' : Bool} {ty nm ty' nm' : ByteArray} {kd m kd' m' : Int} {t t' : ByteArray} {w w' : World} {w2 : World} (h : L2 p q A A' n n' c c' d d' ty nm ty' nm' kd m kd' m' t t' w w') (k : Q w' w2) : L2 p q A A' n n' c c' d d' ty nm ty' nm' kd m kd' m' t t' w w2 := ⟨h.1.trans k, h.2.1.stays k, h.2.2.stays k⟩
theorem L2.seen {p q : Nat} {A A' : Option Addr} {n n' c c' : Nat} {d d' : Bool} {ty nm ty' nm' : ByteArray} {kd m kd' m' : Int} {t t' : ByteArray} {w w' : World} (h : L2 p q A A' n n' c c' d d' ty nm ty' nm' kd m kd' m' t t' w w') : Hid (L2 p q A A' n n' c c' d d' ty nm ty' nm' kd m kd' m' t t' w w') ∧ w'.cell? ⟨p, 0, none⟩ = some (.slice A n c) ∧ w'.cell? ⟨p, 1, none⟩ = some (.bool d) ∧ w'.cell? ⟨p, 2, none⟩ = some (.string ty) ∧ w'.cell? ⟨p, 3, none⟩ = some (.string nm) ∧ w'.cell? ⟨p, 4, none⟩ = some (.int .i64 kd) ∧ w'.cell? ⟨p, 5, none⟩ = some (.int .i64 m) ∧ w'.cell? ⟨p, 6, none⟩ = some (.string t) ∧ w'.cell? ⟨q, 0, none⟩ = some (.slice A' n' c') ∧ w'.cell? ⟨q, 1, none⟩ = some (.bool d') ∧ w'.cell? ⟨q, 2, none⟩ = some (.string ty') ∧ w'.cell? ⟨q, 3, none⟩ = some (.string nm') ∧ w'.cell? ⟨q, 4, none⟩ = some (.int .i64 kd') ∧ w'.cell? ⟨q, 5, none⟩ = some (.int .i64 m') ∧ w'.cell? ⟨q, 6, none⟩ = some (.string t') :=
  ⟨Lib.hid h, h.2.1.at 0 _ rfl, h.2.1.at 1 _ rfl, h.2.1.at 2 _ rfl, h.2.1.at 3 _ rfl, h.2.1.at 4 _ rfl, h.2.1.at 5 _ rfl, h.2.1.at 6 _ rfl, h.2.2.at 0 _ rfl, h.2.2.at 1 _ rfl, h.2.2.at 2 _ rfl, h.2.2.at 3 _ rfl, h.2.2.at 4 _ rfl, h.2.2.at 5 _ rfl, h.2.2.at 6 _ rfl⟩
theorem L2.new (A A' : Option Addr) (n n' c c' : Nat) (d d' : Bool) (ty nm ty' nm' : ByteArray) (kd m kd' m' : Int) (t t' : ByteArray) (w : World) : L2 w.heap.size (w.heap.size + 1) A A' n n' c c' d d' ty nm ty' nm' kd m kd' m' t t' w ((w.alloc (.cells #[.slice A n c, .bool d, .string ty, .string nm, .int .i64 kd, .int .i64 m, .string t] 27)).alloc (.cells #[.slice A' n' c', .bool d', .string ty', .string nm', .int .i64 kd', .int .i64 m', .string t'] 27)) := by
  refine ⟨two_alloc _ _ _, (Bk.new _ _ w).stays (Q.alloc _ _), ?_⟩
  have h := Bk.new #[.slice A' n' c', .bool d', .string ty', .string nm', .int .i64 kd', .int .i64 m', .string t'] 27 (w.alloc (.cells #[.slice A n c, .bool d, .string ty, .string nm, .int .i64 kd, .int .i64 m, .string t] 27))
  have e : (w.alloc (.cells #[.slice A n c, .bool d, .string ty, .string nm, .int .i64 kd, .int .i64 m, .string t] 27)).heap.size = w.heap.size + 1 := by simp
  rwa [e] at h

set_option maxRecDepth 100000 in
set_option maxHeartbeats 16000000 in
theorem compare_any (A A' : Option Addr) (n n' c c' : Nat) (ms ps : List St) (r q : Rs) (w : World) (hn : n = ms.length) (hn' : n' = ps.length) (hI : In A ms w) (hI' : In A' ps w) (hl : n ≤ 1000) :
    Calls Tryz.prog 20 #[rv (.slice A n c) r, rv (.slice A' n' c') q] w fun e w' => e = .returned (.int .i64 (cA ms ps r q)) ∧ Q w w' := by
  have cF : Hid (∀ w', Q w w' → Calls Tryz.prog 44 #[.slice A n c, .slice A' n' c', .func (.func 45) #[] #[]] w' fun e w'' => e = .returned (.int .i64 (cL cSt ms ps)) ∧ Q w' w'') := Lib.hid (fun w' k => compareFunc_any A A' n n' c c' ms ps w' hn hn' (hI.stays k) (hI'.stays k) hl)
  have cB1 := Lib.hid (fun w' => compareBools_any r.data q.data w')
  have cT1 := Lib.hid (fun w' => Tryz.strings_Compare r.type q.type w')
  have cT2 := Lib.hid (fun w' => Tryz.strings_Compare r.name q.name w')
  have cK1 : Hid (∀ w', Calls Tryz.prog 48 #[.agg #[.int .i64 r.key.kind, .int .i64 r.key.num, .string r.key.str], .agg #[.int .i64 q.key.kind, .int .i64 q.key.num, .string q.key.str]] w' fun e w'' => e = .returned (.int .i64 (cKo r.key q.key)) ∧ Q w' w'') := Lib.hid (fun w' => compareKeys_any r.key q.key w')
  unfold cA cT
  clear hI hI' hn hn' hl
  generalize cL cSt ms ps = R1 at *
  obtain ⟨d, ty, nm, kd, m, t⟩ := r
  obtain ⟨d', ty', nm', kd', m', t'⟩ := q
  unfold rv
  simp only at *
  generalize cB d d' = R2 at *
  obtain ⟨R3, hR3⟩ : ∃ z, Lib.compareBytes ty.data.toList ty'.data.toList = z := ⟨_, rfl⟩
  obtain ⟨R4, hR4⟩ : ∃ z, Lib.compareBytes nm.data.toList nm'.data.toList = z := ⟨_, rfl⟩
  rw [hR3] at cT1 ⊢
  rw [hR4] at cT2 ⊢
  clear hR3 hR4
  generalize cKo ⟨kd, m, t⟩ ⟨kd', m', t'⟩ = R5 at *
  go_enter Tryz.func20, Tryz.ntmps20
  go_wp2_with fail
  have LN := L2.new A A' n n' c c' d d' ty nm ty' nm' kd m kd' m' t t' w
  generalize (w.alloc (.cells #[.slice A n c, .bool d, .string ty, .string nm, .int .i64 kd, .int .i64 m, .string t] 27)).alloc (.cells #[.slice A' n' c', .bool d', .string ty', .string nm', .int .i64 kd', .int .i64 m', .string t'] 27) = w1 at *
  obtain ⟨p, hp⟩ : ∃ z, w.heap.size = z := ⟨_, rfl⟩
  rw [hp] at LN ⊢
  clear hp
  have LL := Lib.hid (LN.stays (Q.drewN w1 1))
  clear LN
  have k1 : Hid (∀ w', Hid (L2 p (p + 1) A A' n n' c c' d d' ty nm ty' nm' kd m kd' m' t t' w w') → Calls Tryz.prog 44 #[.slice A n c, .slice A' n' c', .func (.func 45) #[] #[]] w' fun e w'' => e = .returned (.int .i64 R1) ∧ L2 p (p + 1) A A' n n' c c' d d' ty nm ty' nm' kd m kd' m' t t' w w'') := Lib.hid (fun w' h => (cF.out w' h.out.1).mono fun _ _ ⟨he, hq⟩ => ⟨he, h.out.stays hq⟩)
  have k5 : Hid (∀ w', Hid (L2 p (p + 1) A A' n n' c c' d d' ty nm ty' nm' kd m kd' m' t t' w w') → Calls Tryz.prog 48 #[.agg #[.int .i64 kd, .int .i64 m, .string t], .agg #[.int .i64 kd', .int .i64 m', .string t']] w' fun e w'' => e = .returned (.int .i64 R5) ∧ L2 p (p + 1) A A' n n' c c' d d' ty nm ty' nm' kd m kd' m' t t' w w'') := Lib.hid (fun w' h => (cK1.out w').mono fun _ _ ⟨he, hq⟩ => ⟨he, h.out.stays hq⟩)
  have cO : Hid (∀ W, Hid (L2 p (p + 1) A A' n n' c c' d d' ty nm ty' nm' kd m kd' m' t t' w W) → Calls Tryz.prog 43 #[.slice (some ⟨W.heap.size, 0, none⟩) 5 5] (W.alloc (.cells #[.int .i64 R1, .int .i64 R2, .int .i64 R3, .int .i64 R4, .int .i64 R5] 3)) fun e w'' => e = .returned (.int .i64 (orL [R1, R2, R3, R4, R5])) ∧ L2 p (p + 1) A A' n n' c c' d d' ty nm ty' nm' kd m kd' m' t t' w w'') := Lib.hid (fun W h => (or_any _ 5 5 [R1, R2, R3, R4, R5] _ rfl (by decide) (fun i hi => (Bk.new #[.int .i64 R1, .int .i64 R2, .int .i64 R3, .int .i64 R4, .int .i64 R5] 3 W).at i _ (by
    match i, hi with
    | 0, _ => rfl
    | 1, _ => rfl
    | 2, _ => rfl
    | 3, _ => rfl
    | 4, _ => rfl
    | i + 5, hi => exact absurd hi (by simp)))).mono fun _ _ ⟨he, hq⟩ => ⟨he, (h.out.stays (Q.alloc _ _)).stays hq⟩)
  clear cF cK1
  refine Go.wp_region_held_drew (S := fun w' => Hid (L2 p (p + 1) A A' n n' c c' d d' ty nm ty' nm' kd m kd' m' t t' w w') ∧ w'.cell? ⟨p, 0, none⟩ = some (.slice A n c) ∧ w'.cell? ⟨p, 1, none⟩ = some (.bool d) ∧ w'.cell? ⟨p, 2, none⟩ = some (.string ty) ∧ w'.cell? ⟨p, 3, none⟩ = some (.string nm) ∧ w'.cell? ⟨p, 4, none⟩ = some (.int .i64 kd) ∧ w'.cell? ⟨p, 5, none⟩ = some (.int .i64 m) ∧ w'.cell? ⟨p, 6, none⟩ = some (.string t) ∧ w'.cell? ⟨p + 1, 0, none⟩ = some (.slice A' n' c') ∧ w'.cell? ⟨p + 1, 1, none⟩ = some (.bool d') ∧ w'.cell? ⟨p + 1, 2, none⟩ = some (.string ty') ∧ w'.cell? ⟨p + 1, 3, none⟩ = some (.string nm') ∧ w'.cell? ⟨p + 1, 4, none⟩ = some (.int .i64 kd') ∧ w'.cell? ⟨p + 1, 5, none⟩ = some (.int .i64 m') ∧ w'.cell? ⟨p + 1, 6, none⟩ = some (.string t')) (by kernel_rfl) (L2.seen LL.out) (fun hHeld => ?_)
  refine Go.wpAnyH_take (i := 0) (oi := _) (v := ?_) rfl (by kernel_rfl) (by kernel_rfl) (by kernel_rfl) (fun _ _ _ h => h) (Or.inl ⟨by rfl, ?_⟩) (by assumption) ?_
  rotate_left 1
  · intro wx hSw
    go_simp <;> with_reducible rfl
  simp only [Act.put, List.getElem_toArray, List.getElem_cons_zero, List.setIfInBounds_toArray, List.set_cons_zero, List.set_cons_succ]
  refine Go.wpAnyH_take (i := 1) (oi := _) (v := ?_) rfl (by kernel_rfl) (by kernel_rfl) (by kernel_rfl) (fun _ _ _ h => h) (Or.inl ⟨by rfl, ?_⟩) (by assumption) ?_
  rotate_left 1
  · intro wx hSw
    go_simp <;> with_reducible rfl
  simp only [Act.put, List.getElem_toArray, List.getElem_cons_zero, List.getElem_cons_succ, List.setIfInBounds_toArray, List.set_cons_zero, List.set_cons_succ]
  refine Go.wpAnyH_take (i := 2) (oi := _) (v := ?_) rfl (by kernel_rfl) (by kernel_rfl) (by kernel_rfl) (fun _ _ _ h => h) (Or.inl ⟨by rfl, ?_⟩) (by assumption) ?_
  rotate_left 1
  · intro wx hSw
    go_simp <;> with_reducible rfl
  simp only [Act.put, List.getElem_toArray, List.getElem_cons_zero, List.getElem_cons_succ, List.setIfInBounds_toArray, List.set_cons_zero, List.set_cons_succ]
  refine Go.wpAnyH_take (i := 3) (oi := _) (v := ?_) rfl (by kernel_rfl) (by kernel_rfl) (by kernel_rfl) (fun _ _ _ h => h) (Or.inl ⟨by rfl, ?_⟩) (by assumption) ?_
  rotate_left 1
  · intro wx hSw
    go_simp <;> with_reducible rfl
  simp only [Act.put, List.getElem_toArray, List.getElem_cons_zero, List.getElem_cons_succ, List.setIfInBounds_toArray, List.set_cons_zero, List.set_cons_succ]
  refine Go.wpAnyH_take (i := 5) (oi := _) (v := ?_) rfl (by kernel_rfl) (by kernel_rfl) (by kernel_rfl) (fun _ _ _ h => h) (Or.inl ⟨by rfl, ?_⟩) (by assumption) ?_
  rotate_left 1
  · intro wx hSw
    go_simp <;> with_reducible rfl
  simp only [Act.put, List.getElem_toArray, List.getElem_cons_zero, List.getElem_cons_succ, List.setIfInBounds_toArray, List.set_cons_zero, List.set_cons_succ]
  refine Go.wpAnyH_take (i := 6) (oi := _) (v := ?_) rfl (by kernel_rfl) (by kernel_rfl) (by kernel_rfl) (fun _ _ _ h => h) (Or.inl ⟨by rfl, ?_⟩) (by assumption) ?_
  rotate_left 1
  · intro wx hSw
    go_simp <;> with_reducible rfl
  simp only [Act.put, List.getElem_toArray, List.getElem_cons_zero, List.getElem_cons_succ, List.setIfInBounds_toArray, List.set_cons_zero, List.set_cons_succ]
  refine Go.wpAnyH_take (i := 7) (oi := _) (v := ?_) rfl (by kernel_rfl) (by kernel_rfl) (by kernel_rfl) (fun _ _ _ h => h) (Or.inl ⟨by rfl, ?_⟩) (by assumption) ?_
  rotate_left 1
  · intro wx hSw
    go_simp <;> with_reducible rfl
  simp only [Act.put, List.getElem_toArray, List.getElem_cons_zero, List.getElem_cons_succ, List.setIfInBounds_toArray, List.set_cons_zero, List.set_cons_succ]
  refine Go.wpAnyH_take (i := 8) (oi := _) (v := ?_) rfl (by kernel_rfl) (by kernel_rfl) (by kernel_rfl) (fun _ _ _ h => h) (Or.inl ⟨by rfl, ?_⟩) (by assumption) ?_
  rotate_left 1
  · intro wx hSw
    go_simp <;> with_reducible rfl
  simp only [Act.put, List.getElem_toArray, List.getElem_cons_zero, List.getElem_cons_succ, List.setIfInBounds_toArray, List.set_cons_zero, List.set_cons_succ]
  refine Go.wpAnyH_take (i := 10) (oi := _) (v := ?_) rfl (by kernel_rfl) (by kernel_rfl) (by kernel_rfl) (fun _ _ _ h => h) (Or.inl ⟨by rfl, ?_⟩) (by assumption) ?_
  rotate_left 1
  · intro wx hSw
    go_simp <;> with_reducible rfl
  simp only [Act.put, List.getElem_toArray, List.getElem_cons_zero, List.getElem_cons_succ, List.setIfInBounds_toArray, List.set_cons_zero, List.set_cons_succ]
  refine Go.wpAnyH_take (i := 11) (oi := _) (v := ?_) rfl (by kernel_rfl) (by kernel_rfl) (by kernel_rfl) (fun _ _ _ h => h) (Or.inl ⟨by rfl, ?_⟩) (by assumption) ?_
  rotate_left 1
  · intro wx hSw
    go_simp <;> with_reducible rfl
  simp only [Act.put, List.getElem_toArray, List.getElem_cons_zero, List.getElem_cons_succ, List.setIfInBounds_toArray, List.set_cons_zero, List.set_cons_succ]
  refine Go.wpAnyH_take (i := 12) (oi := _) (v := ?_) rfl (by kernel_rfl) (by kernel_rfl) (by kernel_rfl) (fun _ _ _ h => h) (Or.inl ⟨by rfl, ?_⟩) (by assumption) ?_
  rotate_left 1
  · intro wx hSw
    go_simp <;> with_reducible rfl
  simp only [Act.put, List.getElem_toArray, List.getElem_cons_zero, List.getElem_cons_succ, List.setIfInBounds_toArray, List.set_cons_zero, List.set_cons_succ]
  refine Go.wpAnyH_take (i := 13) (oi := _) (v := ?_) rfl (by kernel_rfl) (by kernel_rfl) (by kernel_rfl) (fun _ _ _ h => h) (Or.inl ⟨by rfl, ?_⟩) (by assumption) ?_
  rotate_left 1
  · intro wx hSw
    go_simp <;> with_reducible rfl
  simp only [Act.put, List.getElem_toArray, List.getElem_cons_zero, List.getElem_cons_succ, List.setIfInBounds_toArray, List.set_cons_zero, List.set_cons_succ]
  refine Go.wpAnyH_take (i := 15) (oi := _) (v := ?_) rfl (by kernel_rfl) (by kernel_rfl) (by kernel_rfl) (fun _ _ _ h => h) (Or.inl ⟨by rfl, ?_⟩) (by assumption) ?_
  rotate_left 1
  · intro wx hSw
    go_simp <;> with_reducible rfl
  simp only [Act.put, List.getElem_toArray, List.getElem_cons_zero, List.getElem_cons_succ, List.setIfInBounds_toArray, List.set_cons_zero, List.set_cons_succ]
  refine Go.wpAnyH_take (i := 16) (oi := _) (v := ?_) rfl (by kernel_rfl) (by kernel_rfl) (by kernel_rfl) (fun _ _ _ h => h) (Or.inl ⟨by rfl, ?_⟩) (by assumption) ?_
  rotate_left 1
  · intro wx hSw
    go_simp <;> with_reducible rfl
  simp only [Act.put, List.getElem_toArray, List.getElem_cons_zero, List.getElem_cons_succ, List.setIfInBounds_toArray, List.set_cons_zero, List.set_cons_succ]
  refine Go.wpAnyH_take (i := 17) (oi := _) (v := ?_) rfl (by kernel_rfl) (by kernel_rfl) (by kernel_rfl) (fun _ _ _ h => h) (Or.inl ⟨by rfl, ?_⟩) (by assumption) ?_
  rotate_left 1
  · intro wx hSw
    go_simp <;> with_reducible rfl
  simp only [Act.put, List.getElem_toArray, List.getElem_cons_zero, List.getElem_cons_succ, List.setIfInBounds_toArray, List.set_cons_zero, List.set_cons_succ]
  refine Go.wpAnyH_take (i := 18) (oi := _) (v := ?_) rfl (by kernel_rfl) (by kernel_rfl) (by kernel_rfl) (fun _ _ _ h => h) (Or.inl ⟨by rfl, ?_⟩) (by assumption) ?_
  rotate_left 1
  · intro wx hSw
    go_simp <;> with_reducible rfl
  simp only [Act.put, List.getElem_toArray, List.getElem_cons_zero, List.getElem_cons_succ, List.setIfInBounds_toArray, List.set_cons_zero, List.set_cons_succ]
  refine Go.wpAnyH_take (i := 20) (oi := _) (v := ?_) rfl (by kernel_rfl) (by kernel_rfl) (by kernel_rfl) (fun _ _ _ h => h) (Or.inl ⟨by rfl, ?_⟩) (by assumption) ?_
  rotate_left 1
  · intro wx hSw
    go_simp <;> with_reducible rfl
  simp only [Act.put, List.getElem_toArray, List.getElem_cons_zero, List.getElem_cons_succ, List.setIfInBounds_toArray, List.set_cons_zero, List.set_cons_succ]
  refine Go.wpAnyH_take (i := 21) (oi := _) (v := ?_) rfl (by kernel_rfl) (by kernel_rfl) (by kernel_rfl) (fun _ _ _ h => h) (Or.inl ⟨by rfl, ?_⟩) (by assumption) ?_
  rotate_left 1
  · intro wx hSw
    go_simp <;> with_reducible rfl
  simp only [Act.put, List.getElem_toArray, List.getElem_cons_zero, List.getElem_cons_succ, List.setIfInBounds_toArray, List.set_cons_zero, List.set_cons_succ]
  refine Go.wpAnyH_take (i := 22) (oi := _) (v := ?_) rfl (by kernel_rfl) (by kernel_rfl) (by kernel_rfl) (fun _ _ _ h => h) (Or.inl ⟨by rfl, ?_⟩) (by assumption) ?_
  rotate_left 1
  · intro wx hSw
    go_simp <;> with_reducible rfl
  simp only [Act.put, List.getElem_toArray, List.getElem_cons_zero, List.getElem_cons_succ, List.setIfInBounds_toArray, List.set_cons_zero, List.set_cons_succ]
  refine Go.wpAnyH_take (i := 23) (oi := _) (v := ?_) rfl (by kernel_rfl) (by kernel_rfl) (by kernel_rfl) (fun _ _ _ h => h) (Or.inl ⟨by rfl, ?_⟩) (by assumption) ?_
  rotate_left 1
  · intro wx hSw
    go_simp <;> with_reducible rfl
  simp only [Act.put, List.getElem_toArray, List.getElem_cons_zero, List.getElem_cons_succ, List.setIfInBounds_toArray, List.set_cons_zero, List.set_cons_succ]
  refine Go.wpAnyH_ready (rs := [4]) (by kernel_rfl) (by simp) ?_
  refine Go.AllReadyH.cons rfl (fun K hK => ?_) Go.AllReadyH.nil
  rw [if_pos (by rfl)]
  go_simp
  go_at_call 44
  refine (k1.out _ hHeld.1).mono ?_
  rintro e v1 ⟨rfl, h1⟩
  refine hK.out _ _ (L2.seen h1) (fun hHeld => ?_)
  clear hK K
  refine Go.wpAnyH_ready (rs := [9]) (by kernel_rfl) (by simp) ?_
  refine Go.AllReadyH.cons rfl (fun K hK => ?_) Go.AllReadyH.nil
  rw [if_pos (by rfl)]
  go_simp
  go_at_call 46
  refine (cB1.out _).mono ?_
  rintro e v2 ⟨rfl, rfl⟩
  refine hK.out _ _ (L2.seen h1) (fun hHeld => ?_)
  clear hK K
  refine Go.wpAnyH_ready (rs := [14]) (by kernel_rfl) (by simp) ?_
  refine Go.AllReadyH.cons rfl (fun K hK => ?_) Go.AllReadyH.nil
  rw [if_pos (by rfl)]
  go_simp
  go_at_call 47
  refine (cT1.out _).mono ?_
  rintro e v3 ⟨rfl, rfl⟩
  refine hK.out _ _ (L2.seen h1) (fun hHeld => ?_)
  clear hK K
  refine Go.wpAnyH_ready (rs := [19]) (by kernel_rfl) (by simp) ?_
  refine Go.AllReadyH.cons rfl (fun K hK => ?_) Go.AllReadyH.nil
  rw [if_pos (by rfl)]
  go_simp
  go_at_call 47
  refine (cT2.out _).mono ?_
  rintro e v4 ⟨rfl, rfl⟩
  refine hK.out _ _ (L2.seen h1) (fun hHeld => ?_)
  clear hK K
  refine Go.wpAnyH_ready (rs := [24]) (by kernel_rfl) (by simp) ?_
  refine Go.AllReadyH.cons rfl (fun K hK => ?_) Go.AllReadyH.nil
  rw [if_pos (by rfl)]
  go_simp
  go_at_call 48
  refine (k5.out _ hHeld.1).mono ?_
  rintro e v5 ⟨rfl, h5⟩
  refine hK.out _ _ (L2.seen h5) (fun hHeld => ?_)
  clear hK K
  refine Go.wpAnyH_ready (rs := [25]) (by kernel_rfl) (by simp) ?_
  refine Go.AllReadyH.cons rfl (fun Kx hK => ?_) Go.AllReadyH.nil
  go_simp
  refine hK.out _ _ (L2.seen (h5.stays (Q.alloc _ _))) (fun hHeld => ?_)
  clear hK Kx
  try simp only [Act.put, List.getElem_toArray, List.getElem_cons_zero, List.getElem_cons_succ, List.setIfInBounds_toArray, List.set_cons_zero, List.set_cons_succ]
  refine Go.wpAnyH_ready (rs := [26]) (by kernel_rfl) (by simp) ?_
  refine Go.AllReadyH.cons rfl (fun K hK => ?_) Go.AllReadyH.nil
  rw [if_pos (by rfl)]
  go_simp
  go_at_call 43
  refine (cO.out _ (Lib.hid h5)).mono ?_
  rintro e v6 ⟨rfl, h6⟩
  refine hK.out _ _ (L2.seen h6) (fun hHeld => ?_)
  clear hK K
  refine Go.wpAnyH_take (i := 27) (oi := _) (v := ?_) rfl (by kernel_rfl) (by kernel_rfl) (by kernel_rfl) (fun _ _ _ h => h) (Or.inl ⟨by rfl, ?_⟩) (by assumption) ?_
  rotate_left 1
  · intro wx hSw
    go_simp <;> with_reducible rfl
  simp only [Act.put, List.getElem_toArray, List.getElem_cons_zero, List.getElem_cons_succ, List.setIfInBounds_toArray, List.set_cons_zero, List.set_cons_succ]
  refine Go.wpAnyH_done (by kernel_rfl) ?_ _
  go_wp2_with fail
  go_ret
  exact ⟨rfl, h6.1⟩

end Go.Proofs.YthekabflbpfjoaaGreatDoor.adr
