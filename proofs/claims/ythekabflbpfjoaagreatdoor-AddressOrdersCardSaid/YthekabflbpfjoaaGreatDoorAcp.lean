/- compareSteps. -/
import Derived.Test.YthekabflbpfjoaaGreatDoorAco
namespace Go.Proofs.YthekabflbpfjoaaGreatDoor.adr
open Go.RowKit
open Go.Proofs.YthekabflbpfjoaaGreatDoor

theorem Q.al {a b : World} {o : Obj} (h : Hid (Q a b)) : Hid (Q a (b.alloc o)) := Lib.hid (h.out.trans (Q.alloc _ _))
theorem Q.dr {a b : World} (h : Hid (Q a b)) : Hid (Q a b.drew) := Lib.hid (h.out.trans (Q.drewN _ 1))
set_option maxHeartbeats 4000000 in
theorem compareSteps_any (a b : St) (w : World) :
    Calls Tryz.prog 45 #[sv a, sv b] w fun e w' => e = .returned (.int .i64 (orL [cT a.name b.name, orL [cI a.key.kind b.key.kind, cI a.key.num b.key.num, cT a.key.str b.key.str]])) ∧ Q w w' := by
  have c2 : Hid (∀ w', Calls Tryz.prog 48 #[.agg #[.int .i64 a.key.kind, .int .i64 a.key.num, .string a.key.str], .agg #[.int .i64 b.key.kind, .int .i64 b.key.num, .string b.key.str]] w' fun e w'' => e = .returned (.int .i64 (orL [cI a.key.kind b.key.kind, cI a.key.num b.key.num, cT a.key.str b.key.str])) ∧ Q w' w'') := Lib.hid (fun w' => compareKeys_any a.key b.key w')
  obtain ⟨na, ⟨ak, an, at'⟩⟩ := a
  obtain ⟨nb, ⟨bk, bn, bt⟩⟩ := b
  unfold sv
  simp only at *
  have c1 := Lib.hid (fun w' => Tryz.strings_Compare na nb w')
  generalize orL [cI ak bk, cI an bn, cT at' bt] = R2 at *
  unfold cT
  generalize Lib.compareBytes na.data.toList nb.data.toList = R1 at *
  go_enter Tryz.func45, Tryz.ntmps45
  go_wp2_with fail
  have qa := Lib.hid (two_alloc w (.cells #[.string na, .int .i64 ak, .int .i64 an, .string at'] 44) (.cells #[.string nb, .int .i64 bk, .int .i64 bn, .string bt] 44))
  have e1 : (w.alloc (.cells #[.string na, .int .i64 ak, .int .i64 an, .string at'] 44)).heap.size = w.heap.size + 1 := by simp
  have b1 := Lib.hid ((Bk.new #[.string na, .int .i64 ak, .int .i64 an, .string at'] 44 w).stays (Q.alloc _ (.cells #[.string nb, .int .i64 bk, .int .i64 bn, .string bt] 44)))
  have b2 := Bk.new #[.string nb, .int .i64 bk, .int .i64 bn, .string bt] 44 (w.alloc (.cells #[.string na, .int .i64 ak, .int .i64 an, .string at'] 44))
  rw [e1] at b2
  have B2 := Lib.hid b2
  clear b2 e1
  generalize (w.alloc (.cells #[.string na, .int .i64 ak, .int .i64 an, .string at'] 44)).alloc (.cells #[.string nb, .int .i64 bk, .int .i64 bn, .string bt] 44) = w1 at *
  have sees : Hid (∀ w', Hid (Q w1 w') → Hid (Q w1 w') ∧ w'.cell? ⟨w.heap.size, 0, none⟩ = some (.string na) ∧ w'.cell? ⟨w.heap.size, 1, none⟩ = some (.int .i64 ak) ∧ w'.cell? ⟨w.heap.size, 2, none⟩ = some (.int .i64 an) ∧ w'.cell? ⟨w.heap.size, 3, none⟩ = some (.string at') ∧ w'.cell? ⟨w.heap.size + 1, 0, none⟩ = some (.string nb) ∧ w'.cell? ⟨w.heap.size + 1, 1, none⟩ = some (.int .i64 bk) ∧ w'.cell? ⟨w.heap.size + 1, 2, none⟩ = some (.int .i64 bn) ∧ w'.cell? ⟨w.heap.size + 1, 3, none⟩ = some (.string bt)) := Lib.hid (fun w' q => by
    have x := b1.out.stays q.out
    have y := B2.out.stays q.out
    exact ⟨q, x.at 0 _ rfl, x.at 1 _ rfl, x.at 2 _ rfl, x.at 3 _ rfl, y.at 0 _ rfl, y.at 1 _ rfl, y.at 2 _ rfl, y.at 3 _ rfl⟩)
  have h0 : Hid (Q w1 w1.drew) := Lib.hid (Q.drewN _ 1)
  have c2' : Hid (∀ w', Hid (Q w1 w') → Calls Tryz.prog 48 #[.agg #[.int .i64 ak, .int .i64 an, .string at'], .agg #[.int .i64 bk, .int .i64 bn, .string bt]] w' fun e w'' => e = .returned (.int .i64 R2) ∧ Hid (Q w1 w'')) := Lib.hid (fun w' q => (c2.out w').mono fun _ _ ⟨he, hq⟩ => ⟨he, Lib.hid (q.out.trans hq)⟩)
  have cO : Hid (∀ W, Hid (Q w1 W) → Calls Tryz.prog 43 #[.slice (some ⟨W.heap.size, 0, none⟩) 2 2] (W.alloc (.cells #[.int .i64 R1, .int .i64 R2] 3)) fun e w'' => e = .returned (.int .i64 (orL [R1, R2])) ∧ Hid (Q w1 w'')) := Lib.hid (fun W q => (or_any _ 2 2 [R1, R2] _ rfl (by decide) (fun i hi => (Bk.new #[.int .i64 R1, .int .i64 R2] 3 W).at i _ (by
    match i, hi with
    | 0, _ => rfl
    | 1, _ => rfl
    | i + 2, hi => exact absurd hi (by simp)))).mono fun _ _ ⟨he, hq⟩ => ⟨he, Lib.hid ((q.out.trans (Q.alloc _ _)).trans hq)⟩)
  clear b1 B2 c2
  go_region_held3 (fun w' => Hid (Q w1 w') ∧ w'.cell? ⟨w.heap.size, 0, none⟩ = some (.string na) ∧ w'.cell? ⟨w.heap.size, 1, none⟩ = some (.int .i64 ak) ∧ w'.cell? ⟨w.heap.size, 2, none⟩ = some (.int .i64 an) ∧ w'.cell? ⟨w.heap.size, 3, none⟩ = some (.string at') ∧ w'.cell? ⟨w.heap.size + 1, 0, none⟩ = some (.string nb) ∧ w'.cell? ⟨w.heap.size + 1, 1, none⟩ = some (.int .i64 bk) ∧ w'.cell? ⟨w.heap.size + 1, 2, none⟩ = some (.int .i64 bn) ∧ w'.cell? ⟨w.heap.size + 1, 3, none⟩ = some (.string bt))
    (first | exact sees.out _ (by assumption) | exact sees.out _ (Q.al (by assumption)))
    (first
      | (go_at_call 47; refine (c1.out _).mono ?_; rintro e v1 ⟨rfl, rfl⟩)
      | (go_at_call 48; refine (c2'.out _ (And.left ‹_›)).mono ?_; rintro e v2 ⟨rfl, h2⟩)
      | (go_at_call 43; refine (cO.out _ (by assumption)).mono ?_; rintro e v3 ⟨rfl, h3⟩))
  all_goals
    go_wp2_with fail
    go_ret
    exact ⟨rfl, qa.out.trans h3.out⟩

end Go.Proofs.YthekabflbpfjoaaGreatDoor.adr
