/- The reference's step. -/
import Derived.Test.YthekabflbpfjoaaGreatDoorRkam
import Derived.Test.YthekabflbpfjoaaGreatDoorAwxm
import Derived.Deep.RegionHeld3
namespace Go.Proofs.YthekabflbpfjoaaGreatDoor.adr
open Go.RowKit
open Go.Proofs.YthekabflbpfjoaaGreatDoor

/-- The blocks of step: the result's and the key's. -/
def Ss (p p7 : Nat) (kd n : Int) (t : ByteArray) (w w' : World) : Prop := Bk p #[.string ⟨#[]⟩, .int .i64 0, .int .i64 0, .string ⟨#[]⟩] 44 w' ∧ Bk p7 #[.int .i64 kd, .int .i64 n, .string t] 25 w' ∧ Q w w'
theorem Ss.stays {p p7 : Nat} {kd n : Int} {t : ByteArray} {w w' w2 : World} (h : Ss p p7 kd n t w w') (q : Q w' w2) : Ss p p7 kd n t w w2 := ⟨h.1.stays q, h.2.1.stays q, h.2.2.trans q⟩
theorem Ss.seen {p p7 : Nat} {kd n : Int} {t : ByteArray} {w w' : World} (h : Ss p p7 kd n t w w') :
    Hid (Ss p p7 kd n t w w') ∧ w'.cell? ⟨p7, 0, none⟩ = some (.int .i64 kd) ∧ w'.cell? ⟨p7, 1, none⟩ = some (.int .i64 n) ∧ w'.cell? ⟨p7, 2, none⟩ = some (.string t) :=
  ⟨Lib.hid h, h.2.1.at 0 _ rfl, h.2.1.at 1 _ rfl, h.2.1.at 2 _ rfl⟩
theorem Ss.row {p p7 : Nat} {kd n : Int} {t : ByteArray} {w w' : World} (h : Ss p p7 kd n t w w') :
    w'.cell? ⟨p, 0, none⟩ = some (.string ⟨#[]⟩) ∧ w'.cell? ⟨p, 1, none⟩ = some (.int .i64 0) ∧ w'.cell? ⟨p, 2, none⟩ = some (.int .i64 0) ∧ w'.cell? ⟨p, 3, none⟩ = some (.string ⟨#[]⟩) ∧ w'.frozen? ⟨p, 0, none⟩ = false ∧ w'.frozen? ⟨p, 1, none⟩ = false ∧ w'.frozen? ⟨p, 2, none⟩ = false ∧ w'.frozen? ⟨p, 3, none⟩ = false :=
  ⟨h.1.at 0 _ rfl, h.1.at 1 _ rfl, h.1.at 2 _ rfl, h.1.at 3 _ rfl, h.1.frozen 0, h.1.frozen 1, h.1.frozen 2, h.1.frozen 3⟩
theorem Ss.kept {p p7 : Nat} {kd n : Int} {t : ByteArray} {w w' : World} (h : Ss p p7 kd n t w w') (hp : p7 ≠ p) (x y z u : Value) :
    let W := (((w'.setCell ⟨p, 0, none⟩ x).setCell ⟨p, 1, none⟩ y).setCell ⟨p, 2, none⟩ z).setCell ⟨p, 3, none⟩ u
    W.cell? ⟨p7, 0, none⟩ = some (.int .i64 kd) ∧ W.cell? ⟨p7, 1, none⟩ = some (.int .i64 n) ∧ W.cell? ⟨p7, 2, none⟩ = some (.string t) := by
  have b : Bk p7 #[.int .i64 kd, .int .i64 n, .string t] 25 ((((w'.setCell ⟨p, 0, none⟩ x).setCell ⟨p, 1, none⟩ y).setCell ⟨p, 2, none⟩ z).setCell ⟨p, 3, none⟩ u) := Bk.other (Bk.other3 h.2.1 hp x y z) hp 3 u
  exact ⟨b.at 0 _ rfl, b.at 1 _ rfl, b.at 2 _ rfl⟩

/-- What step hands back. -/
def StE (KO : Option (K × List UInt8)) (NM : ByteArray) (id : Bool) (w : World) (e : Ending) (w' : World) : Prop := ∃ k r ok, e = .returned (.tuple #[sv ⟨NM, k⟩, .string r, .bool (ok && id)]) ∧ KeyEnds KO k r ok ∧ Q w w'
theorem StE.of {KO : Option (K × List UInt8)} {NM : ByteArray} {id : Bool} {w w' : World} (k : K) (r : ByteArray) (ok : Bool) {e : Ending} (h : e = .returned (.tuple #[sv ⟨NM, k⟩, .string r, .bool (ok && id)])) (hk : KeyEnds KO k r ok) (q : Q w w') : StE KO NM id w e w' := ⟨k, r, ok, h, hk, q⟩
set_option maxHeartbeats 8000000 in
theorem refStep_ex (s TL NM KR : ByteArray) (KO : Option (K × List UInt8)) (id : Bool) (w : World) (h7 : (7 : Int) ≤ (s.size : Int)) (e1 : s.extract 7 s.size = TL)
  (cW : Hid (∀ w', Calls Tryz.prog 70 #[.string TL] w' fun e w'' => e = .returned (.tuple #[.string NM, .string KR]) ∧ Q w' w''))
  (cK : Hid (∀ w', Calls Tryz.prog 71 #[.string KR] w' fun e w'' => ∃ k r ok, e = .returned (.tuple #[kv k, .string r, .bool ok]) ∧ KeyEnds KO k r ok ∧ Q w' w''))
  (cI : Hid (∀ w', Calls Tryz.prog 28 #[.string NM] w' fun e w'' => e = .returned (.bool id) ∧ w' = w'')) :
    Calls Tryz.prog 69 #[.string s] w (StE KO NM id w) := by
  go_enter Tryz.func69, Tryz.ntmps69
  go_wp2_with fail
  refine (cW.out _).mono ?_; rintro e w1 ⟨rfl, q1⟩
  have b1 := Lib.hid ((Bk.new #[.string ⟨#[]⟩, .int .i64 0, .int .i64 0, .string ⟨#[]⟩] 44 w).stays q1)
  have Q1 := Lib.hid ((Q.alloc w (.cells #[.string ⟨#[]⟩, .int .i64 0, .int .i64 0, .string ⟨#[]⟩] 44)).trans q1)
  clear q1 cW
  go_wp2_with fail
  refine (cK.out _).mono ?_; rintro e w2 ⟨⟨kd, n, t⟩, r, ok, rfl, hke, q2⟩
  have HK := Lib.hid hke
  replace b1 := Lib.hid (b1.out.stays q2)
  replace Q1 := Lib.hid (Q1.out.trans q2)
  clear hke q2 cK
  unfold kv
  simp only
  have K0 : Hid (Ss w.heap.size w2.heap.size kd n t w (w2.alloc (.cells #[.int .i64 kd, .int .i64 n, .string t] 25)).drew) := Lib.hid ⟨(b1.out.stays (Q.alloc _ _)).stays (Q.drewN _ 1), (Bk.new _ _ _).stays (Q.drewN _ 1), (Q1.out.trans (Q.alloc _ _)).trans (Q.drewN _ 1)⟩
  have hlt : Hid (w2.heap.size ≠ w.heap.size) := Lib.hid (by have := b1.out.lt; omega)
  clear b1 Q1
  cases ok with
  | false =>
    go_wp2_with fail
    generalize w2.alloc (.cells #[.int .i64 kd, .int .i64 n, .string t] 25) = w3 at *
    generalize w2.heap.size = p7 at *
    obtain ⟨x0, x1, x2, x3, z0, z1, z2, z3⟩ := K0.out.row
    have bp := Lib.hid (K0.out.1.put4 (.string NM) (.int .i64 kd) (.int .i64 n) (.string t))
    have QP := Lib.hid (K0.out.2.2.put4 (Nat.le_refl _) (.string NM) (.int .i64 kd) (.int .i64 n) (.string t))
    have KP := K0.out.kept hlt.out (.string NM) (.int .i64 kd) (.int .i64 n) (.string t)
    have KP0 := K0.out.seen.2
    clear K0
    refine Go.wp_region_held_drew (S := fun w' => w'.cell? ⟨p7, 0, none⟩ = some (.int .i64 kd) ∧ w'.cell? ⟨p7, 1, none⟩ = some (.int .i64 n) ∧ w'.cell? ⟨p7, 2, none⟩ = some (.string t)) (by kernel_rfl) (KP0) (fun hHeld => ?_)
    generalize w3.drew = w5 at *
    refine Go.wpAnyH_take (i := 0) (oi := _) (v := ?_) rfl (by kernel_rfl) (by kernel_rfl) (by kernel_rfl) (fun _ _ _ h => h) (Or.inl ⟨by rfl, ?_⟩) (by assumption) ?_
    rotate_left 1
    · intro wx hSw
      go_simp <;> with_reducible rfl
    simp only [Act.put, List.getElem_toArray, List.getElem_cons_zero, List.setIfInBounds_toArray, List.set_cons_zero, List.set_cons_succ]
    refine Go.wpAnyH_take (i := 1) (oi := _) (v := ?_) rfl (by kernel_rfl) (by kernel_rfl) (by kernel_rfl) (fun _ _ _ h => h) (Or.inl ⟨by rfl, ?_⟩) (by assumption) ?_
    rotate_left 1
    · intro wx hSw
      go_simp <;> with_reducible rfl
    simp only [Act.put, List.getElem_toArray, List.getElem_cons_zero, List.getElem_cons_succ, List.setIfInBounds_toArray, List.set_cons_zero, List.set_cons_succ]
    refine Go.wpAnyH_take (i := 2) (oi := _) (v := ?_) rfl (by kernel_rfl) (by kernel_rfl) (by kernel_rfl) (fun _ _ _ h => h) (Or.inl ⟨by rfl, ?_⟩) (by assumption) ?_
    rotate_left 1
    · intro wx hSw
      go_simp <;> with_reducible rfl
    simp only [Act.put, List.getElem_toArray, List.getElem_cons_zero, List.getElem_cons_succ, List.setIfInBounds_toArray, List.set_cons_zero, List.set_cons_succ]
    refine Go.wpAnyH_take (i := 3) (oi := _) (v := ?_) rfl (by kernel_rfl) (by kernel_rfl) (by kernel_rfl) (fun _ _ _ h => h) (Or.inl ⟨by rfl, ?_⟩) (by assumption) ?_
    rotate_left 1
    · intro wx hSw
      go_simp <;> with_reducible rfl
    simp only [Act.put, List.getElem_toArray, List.getElem_cons_zero, List.getElem_cons_succ, List.setIfInBounds_toArray, List.set_cons_zero, List.set_cons_succ]
    refine Go.wpAnyH_take (i := 4) (oi := _) (v := ?_) rfl (by kernel_rfl) (by kernel_rfl) (by kernel_rfl) (fun _ _ _ h => h) (Or.inl ⟨by rfl, ?_⟩) (by assumption) ?_
    rotate_left 1
    · intro wx hSw
      go_simp <;> with_reducible rfl
    simp only [Act.put, List.getElem_toArray, List.getElem_cons_zero, List.getElem_cons_succ, List.setIfInBounds_toArray, List.set_cons_zero, List.set_cons_succ]
    refine Go.wpAnyH_take (i := 5) (oi := _) (v := ?_) rfl (by kernel_rfl) (by kernel_rfl) (by kernel_rfl) (fun _ _ _ h => h) (Or.inl ⟨by rfl, ?_⟩) (by assumption) ?_
    rotate_left 1
    · intro wx hSw
      go_simp <;> with_reducible rfl
    simp only [Act.put, List.getElem_toArray, List.getElem_cons_zero, List.getElem_cons_succ, List.setIfInBounds_toArray, List.set_cons_zero, List.set_cons_succ]
    refine Go.wpAnyH_take (i := 6) (oi := _) (v := undef) rfl (by kernel_rfl) (by kernel_rfl) (by kernel_rfl) (fun _ _ _ h => h) (Or.inr ⟨by rfl, rfl⟩) (by assumption) ?_
    simp only [Act.put, List.getElem_toArray, List.getElem_cons_zero, List.getElem_cons_succ, List.setIfInBounds_toArray, List.set_cons_zero, List.set_cons_succ]
    refine Go.wpAnyH_take (i := 7) (oi := _) (v := undef) rfl (by kernel_rfl) (by kernel_rfl) (by kernel_rfl) (fun _ _ _ h => h) (Or.inr ⟨by rfl, rfl⟩) (by assumption) ?_
    simp only [Act.put, List.getElem_toArray, List.getElem_cons_zero, List.getElem_cons_succ, List.setIfInBounds_toArray, List.set_cons_zero, List.set_cons_succ]
    refine Go.wpAnyH_take (i := 8) (oi := _) (v := ?_) rfl (by kernel_rfl) (by kernel_rfl) (by kernel_rfl) (fun _ _ _ h => h) (Or.inl ⟨by rfl, ?_⟩) (by assumption) ?_
    rotate_left 1
    · intro wx hSw
      go_simp <;> with_reducible rfl
    simp only [Act.put, List.getElem_toArray, List.getElem_cons_zero, List.getElem_cons_succ, List.setIfInBounds_toArray, List.set_cons_zero, List.set_cons_succ]
    refine Go.wpAnyH_ready (rs := [9]) (by kernel_rfl) (by simp) ?_
    refine Go.AllReadyH.cons rfl (fun Kx hK => ?_) Go.AllReadyH.nil
    go_simp
    refine hK.out _ _ KP (fun hHeld => ?_)
    clear hK Kx
    try simp only [Act.put, List.getElem_toArray, List.getElem_cons_zero, List.getElem_cons_succ, List.setIfInBounds_toArray, List.set_cons_zero, List.set_cons_succ]
    refine Go.wpAnyH_take (i := 10) (oi := _) (v := ?_) rfl (by kernel_rfl) (by kernel_rfl) (by kernel_rfl) (fun _ _ _ h => h) (Or.inl ⟨by rfl, ?_⟩) (by assumption) ?_
    rotate_left 1
    · intro wx hSw
      go_simp <;> with_reducible rfl
    simp only [Act.put, List.getElem_toArray, List.getElem_cons_zero, List.getElem_cons_succ, List.setIfInBounds_toArray, List.set_cons_zero, List.set_cons_succ]
    refine Go.wpAnyH_take (i := 11) (oi := _) (v := ?_) rfl (by kernel_rfl) (by kernel_rfl) (by kernel_rfl) (fun _ _ _ h => h) (Or.inl ⟨by rfl, ?_⟩) (by assumption) ?_
    rotate_left 1
    · intro wx hSw
      go_simp <;> with_reducible rfl
    simp only [Act.put, List.getElem_toArray, List.getElem_cons_zero, List.getElem_cons_succ, List.setIfInBounds_toArray, List.set_cons_zero, List.set_cons_succ]
    refine Go.wpAnyH_done (by kernel_rfl) ?_ _
    have y0 := bp.out.at 0 (.string NM) rfl
    have y1 := bp.out.at 1 (.int .i64 kd) rfl
    have y2 := bp.out.at 2 (.int .i64 n) rfl
    have y3 := bp.out.at 3 (.string t) rfl
    go_wp2_with fail
    refine bodyPost_ret (by simp [results, Tryz.results69, go_sem, y0, y1, y2, y3]; try rfl) rfl ?_
    exact StE.of ⟨kd, n, t⟩ r false rfl HK.out QP.out
  | true =>
    go_wp2_with fail
    generalize w2.alloc (.cells #[.int .i64 kd, .int .i64 n, .string t] 25) = w3 at *
    generalize w2.heap.size = p7 at *
    obtain ⟨x0, x1, x2, x3, z0, z1, z2, z3⟩ := K0.out.row
    have bp := Lib.hid (K0.out.1.put4 (.string NM) (.int .i64 kd) (.int .i64 n) (.string t))
    have QP := Lib.hid (K0.out.2.2.put4 (Nat.le_refl _) (.string NM) (.int .i64 kd) (.int .i64 n) (.string t))
    have KP := K0.out.kept hlt.out (.string NM) (.int .i64 kd) (.int .i64 n) (.string t)
    have KP0 := K0.out.seen.2
    clear K0
    refine Go.wp_region_held_drew (S := fun w' => w'.cell? ⟨p7, 0, none⟩ = some (.int .i64 kd) ∧ w'.cell? ⟨p7, 1, none⟩ = some (.int .i64 n) ∧ w'.cell? ⟨p7, 2, none⟩ = some (.string t)) (by kernel_rfl) (KP0) (fun hHeld => ?_)
    generalize w3.drew = w5 at *
    refine Go.wpAnyH_take (i := 0) (oi := _) (v := ?_) rfl (by kernel_rfl) (by kernel_rfl) (by kernel_rfl) (fun _ _ _ h => h) (Or.inl ⟨by rfl, ?_⟩) (by assumption) ?_
    rotate_left 1
    · intro wx hSw
      go_simp <;> with_reducible rfl
    simp only [Act.put, List.getElem_toArray, List.getElem_cons_zero, List.setIfInBounds_toArray, List.set_cons_zero, List.set_cons_succ]
    refine Go.wpAnyH_take (i := 1) (oi := _) (v := ?_) rfl (by kernel_rfl) (by kernel_rfl) (by kernel_rfl) (fun _ _ _ h => h) (Or.inl ⟨by rfl, ?_⟩) (by assumption) ?_
    rotate_left 1
    · intro wx hSw
      go_simp <;> with_reducible rfl
    simp only [Act.put, List.getElem_toArray, List.getElem_cons_zero, List.getElem_cons_succ, List.setIfInBounds_toArray, List.set_cons_zero, List.set_cons_succ]
    refine Go.wpAnyH_take (i := 2) (oi := _) (v := ?_) rfl (by kernel_rfl) (by kernel_rfl) (by kernel_rfl) (fun _ _ _ h => h) (Or.inl ⟨by rfl, ?_⟩) (by assumption) ?_
    rotate_left 1
    · intro wx hSw
      go_simp <;> with_reducible rfl
    simp only [Act.put, List.getElem_toArray, List.getElem_cons_zero, List.getElem_cons_succ, List.setIfInBounds_toArray, List.set_cons_zero, List.set_cons_succ]
    refine Go.wpAnyH_take (i := 3) (oi := _) (v := ?_) rfl (by kernel_rfl) (by kernel_rfl) (by kernel_rfl) (fun _ _ _ h => h) (Or.inl ⟨by rfl, ?_⟩) (by assumption) ?_
    rotate_left 1
    · intro wx hSw
      go_simp <;> with_reducible rfl
    simp only [Act.put, List.getElem_toArray, List.getElem_cons_zero, List.getElem_cons_succ, List.setIfInBounds_toArray, List.set_cons_zero, List.set_cons_succ]
    refine Go.wpAnyH_take (i := 4) (oi := _) (v := ?_) rfl (by kernel_rfl) (by kernel_rfl) (by kernel_rfl) (fun _ _ _ h => h) (Or.inl ⟨by rfl, ?_⟩) (by assumption) ?_
    rotate_left 1
    · intro wx hSw
      go_simp <;> with_reducible rfl
    simp only [Act.put, List.getElem_toArray, List.getElem_cons_zero, List.getElem_cons_succ, List.setIfInBounds_toArray, List.set_cons_zero, List.set_cons_succ]
    refine Go.wpAnyH_take (i := 5) (oi := _) (v := ?_) rfl (by kernel_rfl) (by kernel_rfl) (by kernel_rfl) (fun _ _ _ h => h) (Or.inl ⟨by rfl, ?_⟩) (by assumption) ?_
    rotate_left 1
    · intro wx hSw
      go_simp <;> with_reducible rfl
    simp only [Act.put, List.getElem_toArray, List.getElem_cons_zero, List.getElem_cons_succ, List.setIfInBounds_toArray, List.set_cons_zero, List.set_cons_succ]
    refine Go.wpAnyH_take (i := 6) (oi := _) (v := ?_) rfl (by kernel_rfl) (by kernel_rfl) (by kernel_rfl) (fun _ _ _ h => h) (Or.inl ⟨by rfl, ?_⟩) (by assumption) ?_
    rotate_left 1
    · intro wx hSw
      go_simp <;> with_reducible rfl
    simp only [Act.put, List.getElem_toArray, List.getElem_cons_zero, List.getElem_cons_succ, List.setIfInBounds_toArray, List.set_cons_zero, List.set_cons_succ]
    refine Go.wpAnyH_ready (rs := [7]) (by kernel_rfl) (by simp) ?_
    refine Go.AllReadyH.cons rfl (fun K hK => ?_) Go.AllReadyH.nil
    rw [if_pos (by rfl)]
    go_simp
    go_at_call 28
    refine (cI.out _).mono ?_
    rintro e v1 ⟨rfl, rfl⟩
    refine hK.out _ _ (KP0) (fun hHeld => ?_)
    clear hK K
    refine Go.wpAnyH_take (i := 8) (oi := _) (v := ?_) rfl (by kernel_rfl) (by kernel_rfl) (by kernel_rfl) (fun _ _ _ h => h) (Or.inl ⟨by rfl, ?_⟩) (by assumption) ?_
    rotate_left 1
    · intro wx hSw
      go_simp <;> with_reducible rfl
    simp only [Act.put, List.getElem_toArray, List.getElem_cons_zero, List.getElem_cons_succ, List.setIfInBounds_toArray, List.set_cons_zero, List.set_cons_succ]
    refine Go.wpAnyH_ready (rs := [9]) (by kernel_rfl) (by simp) ?_
    refine Go.AllReadyH.cons rfl (fun Kx hK => ?_) Go.AllReadyH.nil
    go_simp
    refine hK.out _ _ KP (fun hHeld => ?_)
    clear hK Kx
    try simp only [Act.put, List.getElem_toArray, List.getElem_cons_zero, List.getElem_cons_succ, List.setIfInBounds_toArray, List.set_cons_zero, List.set_cons_succ]
    refine Go.wpAnyH_take (i := 10) (oi := _) (v := ?_) rfl (by kernel_rfl) (by kernel_rfl) (by kernel_rfl) (fun _ _ _ h => h) (Or.inl ⟨by rfl, ?_⟩) (by assumption) ?_
    rotate_left 1
    · intro wx hSw
      go_simp <;> with_reducible rfl
    simp only [Act.put, List.getElem_toArray, List.getElem_cons_zero, List.getElem_cons_succ, List.setIfInBounds_toArray, List.set_cons_zero, List.set_cons_succ]
    refine Go.wpAnyH_take (i := 11) (oi := _) (v := ?_) rfl (by kernel_rfl) (by kernel_rfl) (by kernel_rfl) (fun _ _ _ h => h) (Or.inl ⟨by rfl, ?_⟩) (by assumption) ?_
    rotate_left 1
    · intro wx hSw
      go_simp <;> with_reducible rfl
    simp only [Act.put, List.getElem_toArray, List.getElem_cons_zero, List.getElem_cons_succ, List.setIfInBounds_toArray, List.set_cons_zero, List.set_cons_succ]
    refine Go.wpAnyH_done (by kernel_rfl) ?_ _
    have y0 := bp.out.at 0 (.string NM) rfl
    have y1 := bp.out.at 1 (.int .i64 kd) rfl
    have y2 := bp.out.at 2 (.int .i64 n) rfl
    have y3 := bp.out.at 3 (.string t) rfl
    go_wp2_with fail
    refine bodyPost_ret (by simp [results, Tryz.results69, go_sem, y0, y1, y2, y3]; try rfl) rfl ?_
    exact StE.of ⟨kd, n, t⟩ r true rfl HK.out QP.out

theorem refStep_any (s : ByteArray) (w : World) (hs : s.size ≤ 3000) (h7 : 7 ≤ s.size) :
    Calls Tryz.prog 69 #[.string s] w fun e w' => ∃ st r ok, e = .returned (.tuple #[sv st, .string r, .bool ok]) ∧ NmEnds (rdNm (s.data.toList.drop 7)) st r ok ∧ Q w w' := by
  have hT : (s.extract 7 s.size).data.toList = s.data.toList.drop 7 := ext_to s 7
  have hlen : s.data.toList.length = s.size := by simp
  have hTs : (s.extract 7 s.size).size ≤ 3000 := by rw [Lib.size_eq, hT, List.length_drop]; omega
  have hwl := word_le (s.data.toList.drop 7)
  have hdl : (s.data.toList.drop 7).length ≤ 3000 := by rw [List.length_drop]; omega
  have cW := fun w' => refWord_any (s.extract 7 s.size) w' (by omega)
  rw [hT] at cW
  have cK := fun w' => refKy_any ⟨((s.data.toList.drop 7).drop (word (s.data.toList.drop 7)).length).toArray⟩ w' (by rw [ba_size, List.length_drop]; omega)
  rw [ba_list] at cK
  have cI := fun w' => refIdentifier_any ⟨(word (s.data.toList.drop 7)).toArray⟩ w' (by rw [ba_size]; omega)
  rw [ba_list] at cI
  refine (refStep_ex s _ _ _ _ _ w (by omega) rfl cW cK cI).mono ?_
  rintro e w' ⟨k, r, ok, rfl, hke, q⟩
  refine ⟨_, _, _, rfl, ?_, q⟩
  unfold rdNm
  cases hi : isId (word (s.data.toList.drop 7)) with
  | false =>
    rw [if_neg (by decide), Bool.and_false]
    rfl
  | true =>
    rw [if_pos rfl, Bool.and_true]
    cases hx : rdK ((s.data.toList.drop 7).drop (word (s.data.toList.drop 7)).length) with
    | none => rw [hx] at hke; exact hke
    | some y =>
      obtain ⟨k', r'⟩ := y
      rw [hx] at hke
      obtain ⟨h1, h2, h3⟩ := hke
      exact ⟨h1, by rw [h2], h3⟩

end Go.Proofs.YthekabflbpfjoaaGreatDoor.adr
