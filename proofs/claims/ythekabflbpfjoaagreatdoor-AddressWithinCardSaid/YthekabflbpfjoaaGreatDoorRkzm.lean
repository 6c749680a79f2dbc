/- The reference's key: no key, string keys. -/
import Derived.Test.YthekabflbpfjoaaGreatDoorRwdm
import Derived.Test.YthekabflbpfjoaaGreatDoorRkpm
import Derived.Test.YthekabflbpfjoaaGreatDoorRkeym
import Derived.Test.YthekabflbpfjoaaGreatDoorRonem
import Derived.Test.YthekabflbpfjoaaGreatDoorRprsm
import Derived.Test.YthekabflbpfjoaaGreatDoorAwxm
import Derived.BigQuiet
import Derived.Deep.RegionHeld3
namespace Go.Proofs.YthekabflbpfjoaaGreatDoor.adr
open Go.RowKit
open Go.Proofs.YthekabflbpfjoaaGreatDoor

set_option maxHeartbeats 2000000 in
theorem refKy_none (s : ByteArray) (w : World) (hno : s.toList.isEmpty = true ∨ (s.toList.isEmpty = false ∧ ∃ h : 0 < s.size, ((s[0].toNat : Int) != 91) = true)) :
    Calls Tryz.prog 71 #[.string s] w fun e w' => e = .returned (.tuple #[.agg #[.int .i64 0, .int .i64 0, .string ⟨#[]⟩], .string s, .bool true]) ∧ Q w w' := by
  rcases hno with he | ⟨he, hp, h0⟩
  all_goals
    go_enter Tryz.func71, Tryz.ntmps71
    obtain ⟨w1, hw1, q1⟩ : ∃ W, w.alloc (.cells #[.int .i64 0, .int .i64 0, .string ⟨#[]⟩] 25) = W ∧ Q (w.alloc (.cells #[.int .i64 0, .int .i64 0, .string ⟨#[]⟩] 25)) W := ⟨_, rfl, Q.refl _⟩
    have b1 := Lib.hid ((Bk.new #[.int .i64 0, .int .i64 0, .string ⟨#[]⟩] 25 w).stays q1)
    have Q1 := Lib.hid ((Q.alloc w _).trans q1)
    clear q1
    have z0 := b1.out.frozen 0
    have z1 := b1.out.frozen 1
    have z2 := b1.out.frozen 2
    have x0 := b1.out.at 0 _ rfl
    have x1 := b1.out.at 1 _ rfl
    have x2 := b1.out.at 2 _ rfl
    have bp := b1.out.put3 (.int .i64 0) (.int .i64 0) (.string ⟨#[]⟩)
    have y0 := bp.at 0 _ rfl
    have y1 := bp.at 1 _ rfl
    have y2 := bp.at 2 _ rfl
    have QP := Lib.hid (Q1.out.put3 (Nat.le_refl _) (.int .i64 0) (.int .i64 0) (.string ⟨#[]⟩))
    clear bp b1 Q1
    go_wp2_with fail
    refine bodyPost_ret (by simp [results, Tryz.results71, go_sem, y0, y1, y2]; try rfl) rfl ?_
    exact ⟨rfl, QP.out⟩

/-- The block of the result and that of the key that was read, side by side. -/
def Ks (p p8 : Nat) (X : ByteArray) (w w' : World) : Prop := Bk p #[.int .i64 0, .int .i64 0, .string ⟨#[]⟩] 25 w' ∧ Bk p8 #[.int .i64 2, .int .i64 0, .string X] 25 w' ∧ Q w w'
theorem Ks.stays {p p8 : Nat} {X : ByteArray} {w w' w2 : World} (h : Ks p p8 X w w') (q : Q w' w2) : Ks p p8 X w w2 := ⟨h.1.stays q, h.2.1.stays q, h.2.2.trans q⟩
theorem Ks.seen {p p8 : Nat} {X : ByteArray} {w w' : World} (h : Ks p p8 X w w') :
    Hid (Ks p p8 X w w') ∧ w'.cell? ⟨p8, 0, none⟩ = some (.int .i64 2) ∧ w'.cell? ⟨p8, 1, none⟩ = some (.int .i64 0) ∧ w'.cell? ⟨p8, 2, none⟩ = some (.string X) :=
  ⟨Lib.hid h, h.2.1.at 0 _ rfl, h.2.1.at 1 _ rfl, h.2.1.at 2 _ rfl⟩
theorem Ks.row {p p8 : Nat} {X : ByteArray} {w w' : World} (h : Ks p p8 X w w') :
    w'.cell? ⟨p, 0, none⟩ = some (.int .i64 0) ∧ w'.cell? ⟨p, 1, none⟩ = some (.int .i64 0) ∧ w'.cell? ⟨p, 2, none⟩ = some (.string ⟨#[]⟩) ∧ w'.frozen? ⟨p, 0, none⟩ = false ∧ w'.frozen? ⟨p, 1, none⟩ = false ∧ w'.frozen? ⟨p, 2, none⟩ = false :=
  ⟨h.1.at 0 _ rfl, h.1.at 1 _ rfl, h.1.at 2 _ rfl, h.1.frozen 0, h.1.frozen 1, h.1.frozen 2⟩

set_option maxHeartbeats 4000000 in
/-- A string key that is none: before its quote is looked at. -/
theorem refKy_strno (s I X : ByteArray) (n : Nat) (e0 : Int) (w : World) (_hs : s.size ≤ 1000000) (he : s.toList.isEmpty = false) (hp : 1 < s.size) (h0 : ((s[0].toNat : Int) != 91) = false) (h1 : ((s[1].toNat : Int) == 34) = true) (e1 : s.extract 1 s.size = I)
  (hn : n + 1 ≤ s.size)
  (cU : Hid (∀ w', Q w w' → Calls Tryz.prog 89 #[.string I] w' fun e w'' => e = .returned (.tuple #[.string X, .int .i64 n, .int .i64 e0]) ∧ Q w' w''))
  (hno : (e0 != 0) = true ∨ ((e0 != 0) = false ∧ decide ((s.size : Int) ≤ (n : Int) + 1) = true) ∨ ((e0 != 0) = false ∧ decide ((s.size : Int) ≤ (n : Int) + 1) = false ∧ ∃ h : n + 1 < s.size, ((s[n + 1].toNat : Int) != 93) = true ∧ (0 : Int) ≤ (n : Int) + 1 ∧ (n : Int) + 1 < (s.size : Int))) :
    Calls Tryz.prog 71 #[.string s] w fun e w' => e = .returned (.tuple #[.agg #[.int .i64 0, .int .i64 0, .string ⟨#[]⟩], .string ⟨#[]⟩, .bool false]) ∧ Q w w' := by
  have hp' : 1 < (s.size : Int) := by omega
  have hw : IntKind.i64.wrap ((n : Int) + 1) = (n : Int) + 1 := by rw [IntKind.wrap_i64]; omega
  rcases hno with g1 | ⟨g1, g2⟩ | ⟨g1, g2, g3, g4, g5, g6⟩
  all_goals
    go_enter Tryz.func71, Tryz.ntmps71
    go_wp2_with fail
    refine (cU.out _ (Q.alloc _ _)).mono ?_; rintro e w1 ⟨rfl, q1⟩
    have K0 : Hid (Ks w.heap.size w1.heap.size X w (w1.alloc (.cells #[.int .i64 2, .int .i64 0, .string X] 25))) := Lib.hid ⟨((Bk.new _ _ w).stays q1).stays (Q.alloc _ _), Bk.new _ _ _, ((Q.alloc w _).trans q1).trans (Q.alloc _ _)⟩
    clear q1 cU
    go_wp2_with fail
    generalize w1.alloc (.cells #[.int .i64 2, .int .i64 0, .string X] 25) = w2 at *
    generalize w1.heap.size = p8 at *
    go_quiet (fail)
    replace K0 : Hid (Ks w.heap.size p8 X w (w2.drewN nq)) := Lib.hid (K0.out.stays (Q.drewN _ nq))
    generalize w2.drewN nq = w3 at *
    obtain ⟨x0, x1, x2, z0, z1, z2⟩ := K0.out.row
    have bp := K0.out.1.put3 (.int .i64 0) (.int .i64 0) (.string ⟨#[]⟩)
    have y0 := bp.at 0 _ rfl
    have y1 := bp.at 1 _ rfl
    have y2 := bp.at 2 _ rfl
    have QP := Lib.hid (K0.out.2.2.put3 (Nat.le_refl _) (.int .i64 0) (.int .i64 0) (.string ⟨#[]⟩))
    clear bp K0
    go_wp2_with fail
    refine bodyPost_ret (by simp [results, Tryz.results71, go_sem, y0, y1, y2]; try rfl) rfl ?_
    exact ⟨rfl, QP.out⟩

set_option maxHeartbeats 8000000 in
/-- A string key whose text is not the quote of what it says. -/
theorem refKy_diff (s I X HB QX : ByteArray) (n : Nat) (w : World) (_hs : s.size ≤ 1000000) (he : s.toList.isEmpty = false) (hp : 1 < s.size) (h0 : ((s[0].toNat : Int) != 91) = false) (h1 : ((s[1].toNat : Int) == 34) = true) (e1 : s.extract 1 s.size = I) (eH : s.extract 1 (n + 1) = HB)
  (hn : n + 1 < s.size) (h2 : ((s[n + 1].toNat : Int) != 93) = false)
  (cU : Hid (∀ w', Q w w' → Calls Tryz.prog 89 #[.string I] w' fun e w'' => e = .returned (.tuple #[.string X, .int .i64 n, .int .i64 0]) ∧ Q w' w''))
  (cQ : Hid (∀ w', Calls Tryz.prog 38 #[.string X] w' fun e w'' => e = .returned (.string QX) ∧ Q w' w''))
  (hq : (HB.toList == QX.toList) = false) :
    Calls Tryz.prog 71 #[.string s] w fun e w' => e = .returned (.tuple #[.agg #[.int .i64 0, .int .i64 0, .string ⟨#[]⟩], .string ⟨#[]⟩, .bool false]) ∧ Q w w' := by
  have hp' : 1 < (s.size : Int) := by omega
  have hw : IntKind.i64.wrap ((n : Int) + 1) = (n : Int) + 1 := by rw [IntKind.wrap_i64]; omega
  have g2 : decide ((s.size : Int) ≤ (n : Int) + 1) = false := decide_eq_false (by omega)
  have g5 : (0 : Int) ≤ (n : Int) + 1 := by omega
  have g6 : (n : Int) + 1 < (s.size : Int) := by omega
  have g7 : (n : Int) + 1 ≤ (s.size : Int) := by omega
  have g8 : (1 : Int) ≤ (n : Int) + 1 := by omega
  go_enter Tryz.func71, Tryz.ntmps71
  go_wp2_with fail
  refine (cU.out _ (Q.alloc _ _)).mono ?_; rintro e w1 ⟨rfl, q1⟩
  have K0 : Hid (Ks w.heap.size w1.heap.size X w (w1.alloc (.cells #[.int .i64 2, .int .i64 0, .string X] 25)).drew) := Lib.hid ⟨(((Bk.new _ _ w).stays q1).stays (Q.alloc _ _)).stays (Q.drewN _ 1), (Bk.new _ _ _).stays (Q.drewN _ 1), (((Q.alloc w _).trans q1).trans (Q.alloc _ _)).trans (Q.drewN _ 1)⟩
  clear q1 cU
  go_wp2_with fail
  generalize w1.alloc (.cells #[.int .i64 2, .int .i64 0, .string X] 25) = w2 at *
  generalize w1.heap.size = p8 at *
  have cQ1 : Hid (∀ w', Hid (Ks w.heap.size p8 X w w') → Calls Tryz.prog 38 #[.string X] w' fun e w'' => e = .returned (.string QX) ∧ Ks w.heap.size p8 X w w'') := Lib.hid (fun w' h => (cQ.out w').mono fun _ _ ⟨he, hq⟩ => ⟨he, h.out.stays hq⟩)
  clear cQ
  refine Go.wp_region_held_drew (S := fun w' => Hid (Ks w.heap.size p8 X w w') ∧ w'.cell? ⟨p8, 0, none⟩ = some (.int .i64 2) ∧ w'.cell? ⟨p8, 1, none⟩ = some (.int .i64 0) ∧ w'.cell? ⟨p8, 2, none⟩ = some (.string X)) (by kernel_rfl) (Ks.seen K0.out) (fun hHeld => ?_)
  refine Go.wpAnyH_take (i := 0) (oi := _) (v := ?_) rfl (by kernel_rfl) (by kernel_rfl) (by kernel_rfl) (fun _ _ _ h => h) (Or.inl ⟨by rfl, ?_⟩) (by assumption) ?_
  rotate_left 1
  · intro wx hSw
    go_simp <;> with_reducible rfl
  simp only [Act.put, List.getElem_toArray, List.getElem_cons_zero, List.setIfInBounds_toArray, List.set_cons_zero, List.set_cons_succ]
  refine Go.wpAnyH_take (i := 1) (oi := _) (v := ?_) rfl (by kernel_rfl) (by kernel_rfl) (by kernel_rfl) (fun _ _ _ h => h) (Or.inl ⟨by rfl, ?_⟩) (by assumption) ?_
  rotate_left 1
  · intro wx hSw
    go_simp <;> with_reducible rfl
  simp only [Act.put, List.getElem_toArray, List.getElem_cons_zero, List.getElem_cons_succ, List.setIfInBounds_toArray, List.set_cons_zero, List.set_cons_succ]
  refine Go.wpAnyH_take (i := 2) (oi := _) (v := ?_) rfl (by kernel_rfl) (by kernel_rfl) (by kernel_rfl) (fun _ _ _ h => h) (Or.inl ⟨by rfl, ?_⟩) (by assumption) ?_
  rotate_left 1
  · intro wx hSw
    go_simp <;> with_reducible rfl
  simp only [Act.put, List.getElem_toArray, List.getElem_cons_zero, List.getElem_cons_succ, List.setIfInBounds_toArray, List.set_cons_zero, List.set_cons_succ]
  refine Go.wpAnyH_take (i := 3) (oi := _) (v := ?_) rfl (by kernel_rfl) (by kernel_rfl) (by kernel_rfl) (fun _ _ _ h => h) (Or.inl ⟨by rfl, ?_⟩) (by assumption) ?_
  rotate_left 1
  · intro wx hSw
    go_simp <;> with_reducible rfl
  simp only [Act.put, List.getElem_toArray, List.getElem_cons_zero, List.getElem_cons_succ, List.setIfInBounds_toArray, List.set_cons_zero, List.set_cons_succ]
  refine Go.wpAnyH_take (i := 4) (oi := _) (v := ?_) rfl (by kernel_rfl) (by kernel_rfl) (by kernel_rfl) (fun _ _ _ h => h) (Or.inl ⟨by rfl, ?_⟩) (by assumption) ?_
  rotate_left 1
  · intro wx hSw
    go_simp <;> with_reducible rfl
  simp only [Act.put, List.getElem_toArray, List.getElem_cons_zero, List.getElem_cons_succ, List.setIfInBounds_toArray, List.set_cons_zero, List.set_cons_succ]
  refine Go.wpAnyH_take (i := 5) (oi := _) (v := ?_) rfl (by kernel_rfl) (by kernel_rfl) (by kernel_rfl) (fun _ _ _ h => h) (Or.inl ⟨by rfl, ?_⟩) (by assumption) ?_
  rotate_left 1
  · intro wx hSw
    go_simp <;> with_reducible rfl
  simp only [Act.put, List.getElem_toArray, List.getElem_cons_zero, List.getElem_cons_succ, List.setIfInBounds_toArray, List.set_cons_zero, List.set_cons_succ]
  refine Go.wpAnyH_take (i := 6) (oi := _) (v := ?_) rfl (by kernel_rfl) (by kernel_rfl) (by kernel_rfl) (fun _ _ _ h => h) (Or.inl ⟨by rfl, ?_⟩) (by assumption) ?_
  rotate_left 1
  · intro wx hSw
    go_simp <;> with_reducible rfl
  simp only [Act.put, List.getElem_toArray, List.getElem_cons_zero, List.getElem_cons_succ, List.setIfInBounds_toArray, List.set_cons_zero, List.set_cons_succ]
  refine Go.wpAnyH_take (i := 7) (oi := _) (v := ?_) rfl (by kernel_rfl) (by kernel_rfl) (by kernel_rfl) (fun _ _ _ h => h) (Or.inl ⟨by rfl, ?_⟩) (by assumption) ?_
  rotate_left 1
  · intro wx hSw
    go_simp <;> with_reducible rfl
  simp only [Act.put, List.getElem_toArray, List.getElem_cons_zero, List.getElem_cons_succ, List.setIfInBounds_toArray, List.set_cons_zero, List.set_cons_succ]
  refine Go.wpAnyH_take (i := 8) (oi := _) (v := ?_) rfl (by kernel_rfl) (by kernel_rfl) (by kernel_rfl) (fun _ _ _ h => h) (Or.inl ⟨by rfl, ?_⟩) (by assumption) ?_
  rotate_left 1
  · intro wx hSw
    go_simp <;> with_reducible rfl
  simp only [Act.put, List.getElem_toArray, List.getElem_cons_zero, List.getElem_cons_succ, List.setIfInBounds_toArray, List.set_cons_zero, List.set_cons_succ]
  refine Go.wpAnyH_take (i := 9) (oi := _) (v := ?_) rfl (by kernel_rfl) (by kernel_rfl) (by kernel_rfl) (fun _ _ _ h => h) (Or.inl ⟨by rfl, ?_⟩) (by assumption) ?_
  rotate_left 1
  · intro wx hSw
    go_simp <;> with_reducible rfl
  simp only [Act.put, List.getElem_toArray, List.getElem_cons_zero, List.getElem_cons_succ, List.setIfInBounds_toArray, List.set_cons_zero, List.set_cons_succ]
  refine Go.wpAnyH_take (i := 10) (oi := _) (v := ?_) rfl (by kernel_rfl) (by kernel_rfl) (by kernel_rfl) (fun _ _ _ h => h) (Or.inl ⟨by rfl, ?_⟩) (by assumption) ?_
  rotate_left 1
  · intro wx hSw
    go_simp <;> with_reducible rfl
  simp only [Act.put, List.getElem_toArray, List.getElem_cons_zero, List.getElem_cons_succ, List.setIfInBounds_toArray, List.set_cons_zero, List.set_cons_succ]
  refine Go.wpAnyH_take (i := 11) (oi := _) (v := ?_) rfl (by kernel_rfl) (by kernel_rfl) (by kernel_rfl) (fun _ _ _ h => h) (Or.inl ⟨by rfl, ?_⟩) (by assumption) ?_
  rotate_left 1
  · intro wx hSw
    go_simp <;> with_reducible rfl
  simp only [Act.put, List.getElem_toArray, List.getElem_cons_zero, List.getElem_cons_succ, List.setIfInBounds_toArray, List.set_cons_zero, List.set_cons_succ]
  refine Go.wpAnyH_take (i := 12) (oi := _) (v := ?_) rfl (by kernel_rfl) (by kernel_rfl) (by kernel_rfl) (fun _ _ _ h => h) (Or.inl ⟨by rfl, ?_⟩) (by assumption) ?_
  rotate_left 1
  · intro wx hSw
    go_simp <;> with_reducible rfl
  simp only [Act.put, List.getElem_toArray, List.getElem_cons_zero, List.getElem_cons_succ, List.setIfInBounds_toArray, List.set_cons_zero, List.set_cons_succ]
  refine Go.wpAnyH_take (i := 13) (oi := _) (v := ?_) rfl (by kernel_rfl) (by kernel_rfl) (by kernel_rfl) (fun _ _ _ h => h) (Or.inl ⟨by rfl, ?_⟩) (by assumption) ?_
  rotate_left 1
  · intro wx hSw
    go_simp <;> with_reducible rfl
  simp only [Act.put, List.getElem_toArray, List.getElem_cons_zero, List.getElem_cons_succ, List.setIfInBounds_toArray, List.set_cons_zero, List.set_cons_succ]
  refine Go.wpAnyH_take (i := 14) (oi := _) (v := ?_) rfl (by kernel_rfl) (by kernel_rfl) (by kernel_rfl) (fun _ _ _ h => h) (Or.inl ⟨by rfl, ?_⟩) (by assumption) ?_
  rotate_left 1
  · intro wx hSw
    go_simp <;> with_reducible rfl
  simp only [Act.put, List.getElem_toArray, List.getElem_cons_zero, List.getElem_cons_succ, List.setIfInBounds_toArray, List.set_cons_zero, List.set_cons_succ]
  refine Go.wpAnyH_take (i := 15) (oi := _) (v := ?_) rfl (by kernel_rfl) (by kernel_rfl) (by kernel_rfl) (fun _ _ _ h => h) (Or.inl ⟨by rfl, ?_⟩) (by assumption) ?_
  rotate_left 1
  · intro wx hSw
    go_simp <;> with_reducible rfl
  simp only [Act.put, List.getElem_toArray, List.getElem_cons_zero, List.getElem_cons_succ, List.setIfInBounds_toArray, List.set_cons_zero, List.set_cons_succ]
  refine Go.wpAnyH_take (i := 16) (oi := _) (v := ?_) rfl (by kernel_rfl) (by kernel_rfl) (by kernel_rfl) (fun _ _ _ h => h) (Or.inl ⟨by rfl, ?_⟩) (by assumption) ?_
  rotate_left 1
  · intro wx hSw
    go_simp <;> with_reducible rfl
  simp only [Act.put, List.getElem_toArray, List.getElem_cons_zero, List.getElem_cons_succ, List.setIfInBounds_toArray, List.set_cons_zero, List.set_cons_succ]
  refine Go.wpAnyH_take (i := 17) (oi := _) (v := ?_) rfl (by kernel_rfl) (by kernel_rfl) (by kernel_rfl) (fun _ _ _ h => h) (Or.inl ⟨by rfl, ?_⟩) (by assumption) ?_
  rotate_left 1
  · intro wx hSw
    go_simp <;> with_reducible rfl
  simp only [Act.put, List.getElem_toArray, List.getElem_cons_zero, List.getElem_cons_succ, List.setIfInBounds_toArray, List.set_cons_zero, List.set_cons_succ]
  refine Go.wpAnyH_take (i := 18) (oi := _) (v := ?_) rfl (by kernel_rfl) (by kernel_rfl) (by kernel_rfl) (fun _ _ _ h => h) (Or.inl ⟨by rfl, ?_⟩) (by assumption) ?_
  rotate_left 1
  · intro wx hSw
    go_simp <;> with_reducible rfl
  simp only [Act.put, List.getElem_toArray, List.getElem_cons_zero, List.getElem_cons_succ, List.setIfInBounds_toArray, List.set_cons_zero, List.set_cons_succ]
  refine Go.wpAnyH_take (i := 19) (oi := _) (v := ?_) rfl (by kernel_rfl) (by kernel_rfl) (by kernel_rfl) (fun _ _ _ h => h) (Or.inl ⟨by rfl, ?_⟩) (by assumption) ?_
  rotate_left 1
  · intro wx hSw
    go_simp <;> with_reducible rfl
  simp only [Act.put, List.getElem_toArray, List.getElem_cons_zero, List.getElem_cons_succ, List.setIfInBounds_toArray, List.set_cons_zero, List.set_cons_succ]
  refine Go.wpAnyH_take (i := 20) (oi := _) (v := ?_) rfl (by kernel_rfl) (by kernel_rfl) (by kernel_rfl) (fun _ _ _ h => h) (Or.inl ⟨by rfl, ?_⟩) (by assumption) ?_
  rotate_left 1
  · intro wx hSw
    go_simp <;> with_reducible rfl
  simp only [Act.put, List.getElem_toArray, List.getElem_cons_zero, List.getElem_cons_succ, List.setIfInBounds_toArray, List.set_cons_zero, List.set_cons_succ]
  refine Go.wpAnyH_take (i := 21) (oi := _) (v := ?_) rfl (by kernel_rfl) (by kernel_rfl) (by kernel_rfl) (fun _ _ _ h => h) (Or.inl ⟨by rfl, ?_⟩) (by assumption) ?_
  rotate_left 1
  · intro wx hSw
    go_simp <;> with_reducible rfl
  simp only [Act.put, List.getElem_toArray, List.getElem_cons_zero, List.getElem_cons_succ, List.setIfInBounds_toArray, List.set_cons_zero, List.set_cons_succ]
  refine Go.wpAnyH_ready (rs := [22]) (by kernel_rfl) (by simp) ?_
  refine Go.AllReadyH.cons rfl (fun K hK => ?_) Go.AllReadyH.nil
  rw [if_pos (by rfl)]
  go_simp
  go_at_call 38
  refine (cQ1.out _ hHeld.1).mono ?_
  rintro e v1 ⟨rfl, h3⟩
  refine hK.out _ _ (Ks.seen h3) (fun hHeld => ?_)
  clear hK K
  refine Go.wpAnyH_take (i := 23) (oi := _) (v := ?_) rfl (by kernel_rfl) (by kernel_rfl) (by kernel_rfl) (fun _ _ _ h => h) (Or.inl ⟨by rfl, ?_⟩) (by assumption) ?_
  rotate_left 1
  · intro wx hSw
    go_simp <;> with_reducible rfl
  simp only [Act.put, List.getElem_toArray, List.getElem_cons_zero, List.getElem_cons_succ, List.setIfInBounds_toArray, List.set_cons_zero, List.set_cons_succ]
  refine Go.wpAnyH_take (i := 24) (oi := _) (v := ?_) rfl (by kernel_rfl) (by kernel_rfl) (by kernel_rfl) (fun _ _ _ h => h) (Or.inl ⟨by rfl, ?_⟩) (by assumption) ?_
  rotate_left 1
  · intro wx hSw
    go_simp <;> with_reducible rfl
  simp only [Act.put, List.getElem_toArray, List.getElem_cons_zero, List.getElem_cons_succ, List.setIfInBounds_toArray, List.set_cons_zero, List.set_cons_succ]
  refine Go.wpAnyH_take (i := 25) (oi := _) (v := ?_) rfl (by kernel_rfl) (by kernel_rfl) (by kernel_rfl) (fun _ _ _ h => h) (Or.inl ⟨by rfl, ?_⟩) (by assumption) ?_
  rotate_left 1
  · intro wx hSw
    go_simp <;> with_reducible rfl
  simp only [Act.put, List.getElem_toArray, List.getElem_cons_zero, List.getElem_cons_succ, List.setIfInBounds_toArray, List.set_cons_zero, List.set_cons_succ]
  refine Go.wpAnyH_take (i := 26) (oi := _) (v := undef) rfl (by kernel_rfl) (by kernel_rfl) (by kernel_rfl) (fun _ _ _ h => h) (Or.inr ⟨by rfl, rfl⟩) (by assumption) ?_
  simp only [Act.put, List.getElem_toArray, List.getElem_cons_zero, List.getElem_cons_succ, List.setIfInBounds_toArray, List.set_cons_zero, List.set_cons_succ]
  refine Go.wpAnyH_take (i := 27) (oi := _) (v := undef) rfl (by kernel_rfl) (by kernel_rfl) (by kernel_rfl) (fun _ _ _ h => h) (Or.inr ⟨by rfl, rfl⟩) (by assumption) ?_
  simp only [Act.put, List.getElem_toArray, List.getElem_cons_zero, List.getElem_cons_succ, List.setIfInBounds_toArray, List.set_cons_zero, List.set_cons_succ]
  refine Go.wpAnyH_take (i := 28) (oi := _) (v := undef) rfl (by kernel_rfl) (by kernel_rfl) (by kernel_rfl) (fun _ _ _ h => h) (Or.inr ⟨by rfl, rfl⟩) (by assumption) ?_
  simp only [Act.put, List.getElem_toArray, List.getElem_cons_zero, List.getElem_cons_succ, List.setIfInBounds_toArray, List.set_cons_zero, List.set_cons_succ]
  refine Go.wpAnyH_take (i := 29) (oi := _) (v := ?_) rfl (by kernel_rfl) (by kernel_rfl) (by kernel_rfl) (fun _ _ _ h => h) (Or.inl ⟨by rfl, ?_⟩) (by assumption) ?_
  rotate_left 1
  · intro wx hSw
    go_simp <;> with_reducible rfl
  simp only [Act.put, List.getElem_toArray, List.getElem_cons_zero, List.getElem_cons_succ, List.setIfInBounds_toArray, List.set_cons_zero, List.set_cons_succ]
  refine Go.wpAnyH_done (by kernel_rfl) ?_ _
  replace K0 : Hid (Ks w.heap.size p8 X w v1) := hHeld.1
  obtain ⟨x0, x1, x2, z0, z1, z2⟩ := K0.out.row
  have bp := K0.out.1.put3 (.int .i64 0) (.int .i64 0) (.string ⟨#[]⟩)
  have y0 := bp.at 0 _ rfl
  have y1 := bp.at 1 _ rfl
  have y2 := bp.at 2 _ rfl
  have QP := Lib.hid (K0.out.2.2.put3 (Nat.le_refl _) (.int .i64 0) (.int .i64 0) (.string ⟨#[]⟩))
  clear bp K0 hHeld h3
  go_wp2_with fail
  refine bodyPost_ret (by simp [results, Tryz.results71, go_sem, y0, y1, y2]; try rfl) rfl ?_
  exact ⟨rfl, QP.out⟩

theorem Ks.kept {p p8 : Nat} {X : ByteArray} {w w' : World} (h : Ks p p8 X w w') (hp : p8 ≠ p) (x y z : Value) :
    ((((w'.setCell ⟨p, 0, none⟩ x).setCell ⟨p, 1, none⟩ y).setCell ⟨p, 2, none⟩ z).cell? ⟨p8, 0, none⟩ = some (.int .i64 2)) ∧ ((((w'.setCell ⟨p, 0, none⟩ x).setCell ⟨p, 1, none⟩ y).setCell ⟨p, 2, none⟩ z).cell? ⟨p8, 1, none⟩ = some (.int .i64 0)) ∧ ((((w'.setCell ⟨p, 0, none⟩ x).setCell ⟨p, 1, none⟩ y).setCell ⟨p, 2, none⟩ z).cell? ⟨p8, 2, none⟩ = some (.string X)) := by
  have b := h.2.1.other3 hp x y z
  exact ⟨b.at 0 _ rfl, b.at 1 _ rfl, b.at 2 _ rfl⟩
set_option maxHeartbeats 8000000 in
/-- A string key. -/
theorem refKy_str (s I X HB QX R : ByteArray) (n : Nat) (w : World) (_hs : s.size ≤ 1000000) (he : s.toList.isEmpty = false) (hp : 1 < s.size) (h0 : ((s[0].toNat : Int) != 91) = false) (h1 : ((s[1].toNat : Int) == 34) = true) (e1 : s.extract 1 s.size = I) (eH : s.extract 1 (n + 1) = HB) (eR : s.extract ((n : Int) + 2).toNat s.size = R)
  (hn : n + 1 < s.size) (h2 : ((s[n + 1].toNat : Int) != 93) = false)
  (cU : Hid (∀ w', Q w w' → Calls Tryz.prog 89 #[.string I] w' fun e w'' => e = .returned (.tuple #[.string X, .int .i64 n, .int .i64 0]) ∧ Q w' w''))
  (cQ : Hid (∀ w', Calls Tryz.prog 38 #[.string X] w' fun e w'' => e = .returned (.string QX) ∧ Q w' w''))
  (cK : Hid (∀ w', Calls Tryz.prog 29 #[.agg #[.int .i64 2, .int .i64 0, .string X]] w' fun e w'' => e = .returned (.bool true) ∧ Q w' w''))
  (hq : (HB.toList == QX.toList) = true) :
    Calls Tryz.prog 71 #[.string s] w fun e w' => e = .returned (.tuple #[.agg #[.int .i64 2, .int .i64 0, .string X], .string R, .bool true]) ∧ Q w w' := by
  have hp' : 1 < (s.size : Int) := by omega
  have hw : IntKind.i64.wrap ((n : Int) + 1) = (n : Int) + 1 := by rw [IntKind.wrap_i64]; omega
  have hw2 : IntKind.i64.wrap ((n : Int) + 2) = (n : Int) + 2 := by rw [IntKind.wrap_i64]; omega
  have g2 : decide ((s.size : Int) ≤ (n : Int) + 1) = false := decide_eq_false (by omega)
  have g5 : (0 : Int) ≤ (n : Int) + 1 := by omega
  have g6 : (n : Int) + 1 < (s.size : Int) := by omega
  have g7 : (n : Int) + 1 ≤ (s.size : Int) := by omega
  have g8 : (1 : Int) ≤ (n : Int) + 1 := by omega
  have g9 : (0 : Int) ≤ (n : Int) + 2 := by omega
  have g10 : (n : Int) + 2 ≤ (s.size : Int) := by omega
  go_enter Tryz.func71, Tryz.ntmps71
  go_wp2_with fail
  refine (cU.out _ (Q.alloc _ _)).mono ?_; rintro e w1 ⟨rfl, q1⟩
  have K0 : Hid (Ks w.heap.size w1.heap.size X w (w1.alloc (.cells #[.int .i64 2, .int .i64 0, .string X] 25)).drew) := Lib.hid ⟨(((Bk.new _ _ w).stays q1).stays (Q.alloc _ _)).stays (Q.drewN _ 1), (Bk.new _ _ _).stays (Q.drewN _ 1), (((Q.alloc w _).trans q1).trans (Q.alloc _ _)).trans (Q.drewN _ 1)⟩
  have hlt : Hid (w1.heap.size ≠ w.heap.size) := Lib.hid (by have := ((Bk.new #[.int .i64 0, .int .i64 0, .string ⟨#[]⟩] 25 w).stays q1).lt; omega)
  clear q1 cU
  go_wp2_with fail
  generalize w1.alloc (.cells #[.int .i64 2, .int .i64 0, .string X] 25) = w2 at *
  generalize w1.heap.size = p8 at *
  have cQ1 : Hid (∀ w', Hid (Ks w.heap.size p8 X w w') → Calls Tryz.prog 38 #[.string X] w' fun e w'' => e = .returned (.string QX) ∧ Ks w.heap.size p8 X w w'') := Lib.hid (fun w' h => (cQ.out w').mono fun _ _ ⟨he, hq⟩ => ⟨he, h.out.stays hq⟩)
  have cK1 : Hid (∀ w', Hid (Ks w.heap.size p8 X w w') → Calls Tryz.prog 29 #[.agg #[.int .i64 2, .int .i64 0, .string X]] w' fun e w'' => e = .returned (.bool true) ∧ Ks w.heap.size p8 X w w'') := Lib.hid (fun w' h => (cK.out w').mono fun _ _ ⟨he, hq⟩ => ⟨he, h.out.stays hq⟩)
  clear cQ cK
  refine Go.wp_region_held_drew (S := fun w' => Hid (Ks w.heap.size p8 X w w') ∧ w'.cell? ⟨p8, 0, none⟩ = some (.int .i64 2) ∧ w'.cell? ⟨p8, 1, none⟩ = some (.int .i64 0) ∧ w'.cell? ⟨p8, 2, none⟩ = some (.string X)) (by kernel_rfl) (Ks.seen K0.out) (fun hHeld => ?_)
  refine Go.wpAnyH_take (i := 0) (oi := _) (v := ?_) rfl (by kernel_rfl) (by kernel_rfl) (by kernel_rfl) (fun _ _ _ h => h) (Or.inl ⟨by rfl, ?_⟩) (by assumption) ?_
  rotate_left 1
  · intro wx hSw
    go_simp <;> with_reducible rfl
  simp only [Act.put, List.getElem_toArray, List.getElem_cons_zero, List.setIfInBounds_toArray, List.set_cons_zero, List.set_cons_succ]
  refine Go.wpAnyH_take (i := 1) (oi := _) (v := ?_) rfl (by kernel_rfl) (by kernel_rfl) (by kernel_rfl) (fun _ _ _ h => h) (Or.inl ⟨by rfl, ?_⟩) (by assumption) ?_
  rotate_left 1
  · intro wx hSw
    go_simp <;> with_reducible rfl
  simp only [Act.put, List.getElem_toArray, List.getElem_cons_zero, List.getElem_cons_succ, List.setIfInBounds_toArray, List.set_cons_zero, List.set_cons_succ]
  refine Go.wpAnyH_take (i := 2) (oi := _) (v := ?_) rfl (by kernel_rfl) (by kernel_rfl) (by kernel_rfl) (fun _ _ _ h => h) (Or.inl ⟨by rfl, ?_⟩) (by assumption) ?_
  rotate_left 1
  · intro wx hSw
    go_simp <;> with_reducible rfl
  simp only [Act.put, List.getElem_toArray, List.getElem_cons_zero, List.getElem_cons_succ, List.setIfInBounds_toArray, List.set_cons_zero, List.set_cons_succ]
  refine Go.wpAnyH_take (i := 3) (oi := _) (v := ?_) rfl (by kernel_rfl) (by kernel_rfl) (by kernel_rfl) (fun _ _ _ h => h) (Or.inl ⟨by rfl, ?_⟩) (by assumption) ?_
  rotate_left 1
  · intro wx hSw
    go_simp <;> with_reducible rfl
  simp only [Act.put, List.getElem_toArray, List.getElem_cons_zero, List.getElem_cons_succ, List.setIfInBounds_toArray, List.set_cons_zero, List.set_cons_succ]
  refine Go.wpAnyH_take (i := 4) (oi := _) (v := ?_) rfl (by kernel_rfl) (by kernel_rfl) (by kernel_rfl) (fun _ _ _ h => h) (Or.inl ⟨by rfl, ?_⟩) (by assumption) ?_
  rotate_left 1
  · intro wx hSw
    go_simp <;> with_reducible rfl
  simp only [Act.put, List.getElem_toArray, List.getElem_cons_zero, List.getElem_cons_succ, List.setIfInBounds_toArray, List.set_cons_zero, List.set_cons_succ]
  refine Go.wpAnyH_take (i := 5) (oi := _) (v := ?_) rfl (by kernel_rfl) (by kernel_rfl) (by kernel_rfl) (fun _ _ _ h => h) (Or.inl ⟨by rfl, ?_⟩) (by assumption) ?_
  rotate_left 1
  · intro wx hSw
    go_simp <;> with_reducible rfl
  simp only [Act.put, List.getElem_toArray, List.getElem_cons_zero, List.getElem_cons_succ, List.setIfInBounds_toArray, List.set_cons_zero, List.set_cons_succ]
  refine Go.wpAnyH_take (i := 6) (oi := _) (v := ?_) rfl (by kernel_rfl) (by kernel_rfl) (by kernel_rfl) (fun _ _ _ h => h) (Or.inl ⟨by rfl, ?_⟩) (by assumption) ?_
  rotate_left 1
  · intro wx hSw
    go_simp <;> with_reducible rfl
  simp only [Act.put, List.getElem_toArray, List.getElem_cons_zero, List.getElem_cons_succ, List.setIfInBounds_toArray, List.set_cons_zero, List.set_cons_succ]
  refine Go.wpAnyH_take (i := 7) (oi := _) (v := ?_) rfl (by kernel_rfl) (by kernel_rfl) (by kernel_rfl) (fun _ _ _ h => h) (Or.inl ⟨by rfl, ?_⟩) (by assumption) ?_
  rotate_left 1
  · intro wx hSw
    go_simp <;> with_reducible rfl
  simp only [Act.put, List.getElem_toArray, List.getElem_cons_zero, List.getElem_cons_succ, List.setIfInBounds_toArray, List.set_cons_zero, List.set_cons_succ]
  refine Go.wpAnyH_take (i := 8) (oi := _) (v := ?_) rfl (by kernel_rfl) (by kernel_rfl) (by kernel_rfl) (fun _ _ _ h => h) (Or.inl ⟨by rfl, ?_⟩) (by assumption) ?_
  rotate_left 1
  · intro wx hSw
    go_simp <;> with_reducible rfl
  simp only [Act.put, List.getElem_toArray, List.getElem_cons_zero, List.getElem_cons_succ, List.setIfInBounds_toArray, List.set_cons_zero, List.set_cons_succ]
  refine Go.wpAnyH_take (i := 9) (oi := _) (v := ?_) rfl (by kernel_rfl) (by kernel_rfl) (by kernel_rfl) (fun _ _ _ h => h) (Or.inl ⟨by rfl, ?_⟩) (by assumption) ?_
  rotate_left 1
  · intro wx hSw
    go_simp <;> with_reducible rfl
  simp only [Act.put, List.getElem_toArray, List.getElem_cons_zero, List.getElem_cons_succ, List.setIfInBounds_toArray, List.set_cons_zero, List.set_cons_succ]
  refine Go.wpAnyH_take (i := 10) (oi := _) (v := ?_) rfl (by kernel_rfl) (by kernel_rfl) (by kernel_rfl) (fun _ _ _ h => h) (Or.inl ⟨by rfl, ?_⟩) (by assumption) ?_
  rotate_left 1
  · intro wx hSw
    go_simp <;> with_reducible rfl
  simp only [Act.put, List.getElem_toArray, List.getElem_cons_zero, List.getElem_cons_succ, List.setIfInBounds_toArray, List.set_cons_zero, List.set_cons_succ]
  refine Go.wpAnyH_take (i := 11) (oi := _) (v := ?_) rfl (by kernel_rfl) (by kernel_rfl) (by kernel_rfl) (fun _ _ _ h => h) (Or.inl ⟨by rfl, ?_⟩) (by assumption) ?_
  rotate_left 1
  · intro wx hSw
    go_simp <;> with_reducible rfl
  simp only [Act.put, List.getElem_toArray, List.getElem_cons_zero, List.getElem_cons_succ, List.setIfInBounds_toArray, List.set_cons_zero, List.set_cons_succ]
  refine Go.wpAnyH_take (i := 12) (oi := _) (v := ?_) rfl (by kernel_rfl) (by kernel_rfl) (by kernel_rfl) (fun _ _ _ h => h) (Or.inl ⟨by rfl, ?_⟩) (by assumption) ?_
  rotate_left 1
  · intro wx hSw
    go_simp <;> with_reducible rfl
  simp only [Act.put, List.getElem_toArray, List.getElem_cons_zero, List.getElem_cons_succ, List.setIfInBounds_toArray, List.set_cons_zero, List.set_cons_succ]
  refine Go.wpAnyH_take (i := 13) (oi := _) (v := ?_) rfl (by kernel_rfl) (by kernel_rfl) (by kernel_rfl) (fun _ _ _ h => h) (Or.inl ⟨by rfl, ?_⟩) (by assumption) ?_
  rotate_left 1
  · intro wx hSw
    go_simp <;> with_reducible rfl
  simp only [Act.put, List.getElem_toArray, List.getElem_cons_zero, List.getElem_cons_succ, List.setIfInBounds_toArray, List.set_cons_zero, List.set_cons_succ]
  refine Go.wpAnyH_take (i := 14) (oi := _) (v := ?_) rfl (by kernel_rfl) (by kernel_rfl) (by kernel_rfl) (fun _ _ _ h => h) (Or.inl ⟨by rfl, ?_⟩) (by assumption) ?_
  rotate_left 1
  · intro wx hSw
    go_simp <;> with_reducible rfl
  simp only [Act.put, List.getElem_toArray, List.getElem_cons_zero, List.getElem_cons_succ, List.setIfInBounds_toArray, List.set_cons_zero, List.set_cons_succ]
  refine Go.wpAnyH_take (i := 15) (oi := _) (v := ?_) rfl (by kernel_rfl) (by kernel_rfl) (by kernel_rfl) (fun _ _ _ h => h) (Or.inl ⟨by rfl, ?_⟩) (by assumption) ?_
  rotate_left 1
  · intro wx hSw
    go_simp <;> with_reducible rfl
  simp only [Act.put, List.getElem_toArray, List.getElem_cons_zero, List.getElem_cons_succ, List.setIfInBounds_toArray, List.set_cons_zero, List.set_cons_succ]
  refine Go.wpAnyH_take (i := 16) (oi := _) (v := ?_) rfl (by kernel_rfl) (by kernel_rfl) (by kernel_rfl) (fun _ _ _ h => h) (Or.inl ⟨by rfl, ?_⟩) (by assumption) ?_
  rotate_left 1
  · intro wx hSw
    go_simp <;> with_reducible rfl
  simp only [Act.put, List.getElem_toArray, List.getElem_cons_zero, List.getElem_cons_succ, List.setIfInBounds_toArray, List.set_cons_zero, List.set_cons_succ]
  refine Go.wpAnyH_take (i := 17) (oi := _) (v := ?_) rfl (by kernel_rfl) (by kernel_rfl) (by kernel_rfl) (fun _ _ _ h => h) (Or.inl ⟨by rfl, ?_⟩) (by assumption) ?_
  rotate_left 1
  · intro wx hSw
    go_simp <;> with_reducible rfl
  simp only [Act.put, List.getElem_toArray, List.getElem_cons_zero, List.getElem_cons_succ, List.setIfInBounds_toArray, List.set_cons_zero, List.set_cons_succ]
  refine Go.wpAnyH_take (i := 18) (oi := _) (v := ?_) rfl (by kernel_rfl) (by kernel_rfl) (by kernel_rfl) (fun _ _ _ h => h) (Or.inl ⟨by rfl, ?_⟩) (by assumption) ?_
  rotate_left 1
  · intro wx hSw
    go_simp <;> with_reducible rfl
  simp only [Act.put, List.getElem_toArray, List.getElem_cons_zero, List.getElem_cons_succ, List.setIfInBounds_toArray, List.set_cons_zero, List.set_cons_succ]
  refine Go.wpAnyH_take (i := 19) (oi := _) (v := ?_) rfl (by kernel_rfl) (by kernel_rfl) (by kernel_rfl) (fun _ _ _ h => h) (Or.inl ⟨by rfl, ?_⟩) (by assumption) ?_
  rotate_left 1
  · intro wx hSw
    go_simp <;> with_reducible rfl
  simp only [Act.put, List.getElem_toArray, List.getElem_cons_zero, List.getElem_cons_succ, List.setIfInBounds_toArray, List.set_cons_zero, List.set_cons_succ]
  refine Go.wpAnyH_take (i := 20) (oi := _) (v := ?_) rfl (by kernel_rfl) (by kernel_rfl) (by kernel_rfl) (fun _ _ _ h => h) (Or.inl ⟨by rfl, ?_⟩) (by assumption) ?_
  rotate_left 1
  · intro wx hSw
    go_simp <;> with_reducible rfl
  simp only [Act.put, List.getElem_toArray, List.getElem_cons_zero, List.getElem_cons_succ, List.setIfInBounds_toArray, List.set_cons_zero, List.set_cons_succ]
  refine Go.wpAnyH_take (i := 21) (oi := _) (v := ?_) rfl (by kernel_rfl) (by kernel_rfl) (by kernel_rfl) (fun _ _ _ h => h) (Or.inl ⟨by rfl, ?_⟩) (by assumption) ?_
  rotate_left 1
  · intro wx hSw
    go_simp <;> with_reducible rfl
  simp only [Act.put, List.getElem_toArray, List.getElem_cons_zero, List.getElem_cons_succ, List.setIfInBounds_toArray, List.set_cons_zero, List.set_cons_succ]
  refine Go.wpAnyH_ready (rs := [22]) (by kernel_rfl) (by simp) ?_
  refine Go.AllReadyH.cons rfl (fun K hK => ?_) Go.AllReadyH.nil
  rw [if_pos (by rfl)]
  go_simp
  go_at_call 38
  refine (cQ1.out _ hHeld.1).mono ?_
  rintro e v1 ⟨rfl, h3⟩
  refine hK.out _ _ (Ks.seen h3) (fun hHeld => ?_)
  clear hK K
  refine Go.wpAnyH_take (i := 23) (oi := _) (v := ?_) rfl (by kernel_rfl) (by kernel_rfl) (by kernel_rfl) (fun _ _ _ h => h) (Or.inl ⟨by rfl, ?_⟩) (by assumption) ?_
  rotate_left 1
  · intro wx hSw
    go_simp <;> with_reducible rfl
  simp only [Act.put, List.getElem_toArray, List.getElem_cons_zero, List.getElem_cons_succ, List.setIfInBounds_toArray, List.set_cons_zero, List.set_cons_succ]
  refine Go.wpAnyH_take (i := 24) (oi := _) (v := ?_) rfl (by kernel_rfl) (by kernel_rfl) (by kernel_rfl) (fun _ _ _ h => h) (Or.inl ⟨by rfl, ?_⟩) (by assumption) ?_
  rotate_left 1
  · intro wx hSw
    go_simp <;> with_reducible rfl
  simp only [Act.put, List.getElem_toArray, List.getElem_cons_zero, List.getElem_cons_succ, List.setIfInBounds_toArray, List.set_cons_zero, List.set_cons_succ]
  refine Go.wpAnyH_take (i := 25) (oi := _) (v := ?_) rfl (by kernel_rfl) (by kernel_rfl) (by kernel_rfl) (fun _ _ _ h => h) (Or.inl ⟨by rfl, ?_⟩) (by assumption) ?_
  rotate_left 1
  · intro wx hSw
    go_simp <;> with_reducible rfl
  simp only [Act.put, List.getElem_toArray, List.getElem_cons_zero, List.getElem_cons_succ, List.setIfInBounds_toArray, List.set_cons_zero, List.set_cons_succ]
  refine Go.wpAnyH_take (i := 26) (oi := _) (v := ?_) rfl (by kernel_rfl) (by kernel_rfl) (by kernel_rfl) (fun _ _ _ h => h) (Or.inl ⟨by rfl, ?_⟩) (by assumption) ?_
  rotate_left 1
  · intro wx hSw
    go_simp <;> with_reducible rfl
  simp only [Act.put, List.getElem_toArray, List.getElem_cons_zero, List.getElem_cons_succ, List.setIfInBounds_toArray, List.set_cons_zero, List.set_cons_succ]
  refine Go.wpAnyH_ready (rs := [27]) (by kernel_rfl) (by simp) ?_
  refine Go.AllReadyH.cons rfl (fun K hK => ?_) Go.AllReadyH.nil
  rw [if_pos (by rfl)]
  go_simp
  go_at_call 29
  refine (cK1.out _ hHeld.1).mono ?_
  rintro e v2 ⟨rfl, h4⟩
  refine hK.out _ _ (Ks.seen h4) (fun hHeld => ?_)
  clear hK K
  refine Go.wpAnyH_take (i := 28) (oi := _) (v := ?_) rfl (by kernel_rfl) (by kernel_rfl) (by kernel_rfl) (fun _ _ _ h => h) (Or.inl ⟨by rfl, ?_⟩) (by assumption) ?_
  rotate_left 1
  · intro wx hSw
    go_simp <;> with_reducible rfl
  simp only [Act.put, List.getElem_toArray, List.getElem_cons_zero, List.getElem_cons_succ, List.setIfInBounds_toArray, List.set_cons_zero, List.set_cons_succ]
  refine Go.wpAnyH_take (i := 29) (oi := _) (v := ?_) rfl (by kernel_rfl) (by kernel_rfl) (by kernel_rfl) (fun _ _ _ h => h) (Or.inl ⟨by rfl, ?_⟩) (by assumption) ?_
  rotate_left 1
  · intro wx hSw
    go_simp <;> with_reducible rfl
  simp only [Act.put, List.getElem_toArray, List.getElem_cons_zero, List.getElem_cons_succ, List.setIfInBounds_toArray, List.set_cons_zero, List.set_cons_succ]
  refine Go.wpAnyH_done (by kernel_rfl) ?_ _
  replace K0 : Hid (Ks w.heap.size p8 X w v2.drew) := Lib.hid (hHeld.1.out.stays (Q.drewN _ 1))
  clear hHeld h3 h4 cQ1 cK1
  obtain ⟨x0, x1, x2, z0, z1, z2⟩ := K0.out.row
  have bp := Lib.hid (K0.out.1.put3 (.int .i64 2) (.int .i64 0) (.string X))
  have QP := Lib.hid (K0.out.2.2.put3 (Nat.le_refl _) (.int .i64 2) (.int .i64 0) (.string X))
  have KP := K0.out.kept hlt.out (.int .i64 2) (.int .i64 0) (.string X)
  have KP0 := K0.out.seen.2
  clear K0
  go_wp2_with fail
  refine Go.wp_region_held_drew (S := fun w' => w'.cell? ⟨p8, 0, none⟩ = some (.int .i64 2) ∧ w'.cell? ⟨p8, 1, none⟩ = some (.int .i64 0) ∧ w'.cell? ⟨p8, 2, none⟩ = some (.string X)) (by kernel_rfl) (KP0) (fun hHeld => ?_)
  generalize v2.drew = v3 at *
  refine Go.wpAnyH_take (i := 0) (oi := _) (v := ?_) rfl (by kernel_rfl) (by kernel_rfl) (by kernel_rfl) (fun _ _ _ h => h) (Or.inl ⟨by rfl, ?_⟩) (by assumption) ?_
  rotate_left 1
  · intro wx hSw
    go_simp <;> with_reducible rfl
  simp only [Act.put, List.getElem_toArray, List.getElem_cons_zero, List.setIfInBounds_toArray, List.set_cons_zero, List.set_cons_succ]
  refine Go.wpAnyH_take (i := 1) (oi := _) (v := ?_) rfl (by kernel_rfl) (by kernel_rfl) (by kernel_rfl) (fun _ _ _ h => h) (Or.inl ⟨by rfl, ?_⟩) (by assumption) ?_
  rotate_left 1
  · intro wx hSw
    go_simp <;> with_reducible rfl
  simp only [Act.put, List.getElem_toArray, List.getElem_cons_zero, List.getElem_cons_succ, List.setIfInBounds_toArray, List.set_cons_zero, List.set_cons_succ]
  refine Go.wpAnyH_take (i := 2) (oi := _) (v := ?_) rfl (by kernel_rfl) (by kernel_rfl) (by kernel_rfl) (fun _ _ _ h => h) (Or.inl ⟨by rfl, ?_⟩) (by assumption) ?_
  rotate_left 1
  · intro wx hSw
    go_simp <;> with_reducible rfl
  simp only [Act.put, List.getElem_toArray, List.getElem_cons_zero, List.getElem_cons_succ, List.setIfInBounds_toArray, List.set_cons_zero, List.set_cons_succ]
  refine Go.wpAnyH_take (i := 3) (oi := _) (v := ?_) rfl (by kernel_rfl) (by kernel_rfl) (by kernel_rfl) (fun _ _ _ h => h) (Or.inl ⟨by rfl, ?_⟩) (by assumption) ?_
  rotate_left 1
  · intro wx hSw
    go_simp <;> with_reducible rfl
  simp only [Act.put, List.getElem_toArray, List.getElem_cons_zero, List.getElem_cons_succ, List.setIfInBounds_toArray, List.set_cons_zero, List.set_cons_succ]
  refine Go.wpAnyH_take (i := 4) (oi := _) (v := ?_) rfl (by kernel_rfl) (by kernel_rfl) (by kernel_rfl) (fun _ _ _ h => h) (Or.inl ⟨by rfl, ?_⟩) (by assumption) ?_
  rotate_left 1
  · intro wx hSw
    go_simp <;> with_reducible rfl
  simp only [Act.put, List.getElem_toArray, List.getElem_cons_zero, List.getElem_cons_succ, List.setIfInBounds_toArray, List.set_cons_zero, List.set_cons_succ]
  refine Go.wpAnyH_ready (rs := [5]) (by kernel_rfl) (by simp) ?_
  refine Go.AllReadyH.cons rfl (fun Kx hK => ?_) Go.AllReadyH.nil
  go_simp
  refine hK.out _ _ KP (fun hHeld => ?_)
  clear hK Kx
  try simp only [Act.put, List.getElem_toArray, List.getElem_cons_zero, List.getElem_cons_succ, List.setIfInBounds_toArray, List.set_cons_zero, List.set_cons_succ]
  refine Go.wpAnyH_take (i := 6) (oi := _) (v := ?_) rfl (by kernel_rfl) (by kernel_rfl) (by kernel_rfl) (fun _ _ _ h => h) (Or.inl ⟨by rfl, ?_⟩) (by assumption) ?_
  rotate_left 1
  · intro wx hSw
    go_simp <;> with_reducible rfl
  simp only [Act.put, List.getElem_toArray, List.getElem_cons_zero, List.getElem_cons_succ, List.setIfInBounds_toArray, List.set_cons_zero, List.set_cons_succ]
  refine Go.wpAnyH_take (i := 7) (oi := _) (v := ?_) rfl (by kernel_rfl) (by kernel_rfl) (by kernel_rfl) (fun _ _ _ h => h) (Or.inl ⟨by rfl, ?_⟩) (by assumption) ?_
  rotate_left 1
  · intro wx hSw
    go_simp <;> with_reducible rfl
  simp only [Act.put, List.getElem_toArray, List.getElem_cons_zero, List.getElem_cons_succ, List.setIfInBounds_toArray, List.set_cons_zero, List.set_cons_succ]
  refine Go.wpAnyH_done (by kernel_rfl) ?_ _
  have y0 := bp.out.at 0 (.int .i64 2) rfl
  have y1 := bp.out.at 1 (.int .i64 0) rfl
  have y2 := bp.out.at 2 (.string X) rfl
  go_wp2_with fail
  refine bodyPost_ret (by simp [results, Tryz.results71, go_sem, y0, y1, y2]; try rfl) rfl ?_
  first | exact ⟨rfl, QP.out⟩ | exact ⟨by rw [eR], QP.out⟩

end Go.Proofs.YthekabflbpfjoaaGreatDoor.adr
