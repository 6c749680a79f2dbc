/- compareKeys. -/
import Derived.Test.YthekabflbpfjoaaGreatDoorAcm
import Derived.Test.YthekabflbpfjoaaGreatDoorAcn
import Derived.Test.YthekabflbpfjoaaGreatDoorShelf
import Derived.Test.YthekabflbpfjoaaGreatDoorAve
import Derived.Deep.RegionHeld3
namespace Go.Proofs.YthekabflbpfjoaaGreatDoor.adr
open Go.RowKit
open Go.Proofs.YthekabflbpfjoaaGreatDoor

/-- Two strings as strings.Compare has them. -/
def cT (a b : ByteArray) : Int := Lib.compareBytes a.data.toList b.data.toList
set_option maxHeartbeats 4000000 in
theorem compareKeys_any (a b : K) (w : World) :
    Calls Tryz.prog 48 #[.agg #[.int .i64 a.kind, .int .i64 a.num, .string a.str], .agg #[.int .i64 b.kind, .int .i64 b.num, .string b.str]] w fun e w' => e = .returned (.int .i64 (orL [cI a.kind b.kind, cI a.num b.num, cT a.str b.str])) ∧ Q w w' := by
  obtain ⟨ak, an, at'⟩ := a
  obtain ⟨bk, bn, bt⟩ := b
  simp only
  have c1 := Lib.hid (fun w' => cmpKind_any ak bk w')
  have c2 := Lib.hid (fun w' => cmpInt_any an bn w')
  have c3 := Lib.hid (fun w' => Tryz.strings_Compare at' bt w')
  unfold cT
  generalize Lib.compareBytes at'.data.toList bt.data.toList = R3 at *
  generalize cI ak bk = R1 at *
  generalize cI an bn = R2 at *
  go_enter Tryz.func48, Tryz.ntmps48
  go_wp2_with fail
  have qa := Lib.hid (two_alloc w (.cells #[.int .i64 ak, .int .i64 an, .string at'] 25) (.cells #[.int .i64 bk, .int .i64 bn, .string bt] 25))
  have e1 : (w.alloc (.cells #[.int .i64 ak, .int .i64 an, .string at'] 25)).heap.size = w.heap.size + 1 := by simp
  have b1 := Lib.hid ((Bk.new #[.int .i64 ak, .int .i64 an, .string at'] 25 w).stays (Q.alloc _ (.cells #[.int .i64 bk, .int .i64 bn, .string bt] 25)))
  have b2 := Bk.new #[.int .i64 bk, .int .i64 bn, .string bt] 25 (w.alloc (.cells #[.int .i64 ak, .int .i64 an, .string at'] 25))
  rw [e1] at b2
  have B2 := Lib.hid b2
  clear b2 e1
  generalize (w.alloc (.cells #[.int .i64 ak, .int .i64 an, .string at'] 25)).alloc (.cells #[.int .i64 bk, .int .i64 bn, .string bt] 25) = w1 at *
  have sees : Hid (∀ w', Hid (Q w1 w') → Hid (Q w1 w') ∧ w'.cell? ⟨w.heap.size, 0, none⟩ = some (.int .i64 ak) ∧ w'.cell? ⟨w.heap.size, 1, none⟩ = some (.int .i64 an) ∧ w'.cell? ⟨w.heap.size, 2, none⟩ = some (.string at') ∧ w'.cell? ⟨w.heap.size + 1, 0, none⟩ = some (.int .i64 bk) ∧ w'.cell? ⟨w.heap.size + 1, 1, none⟩ = some (.int .i64 bn) ∧ w'.cell? ⟨w.heap.size + 1, 2, none⟩ = some (.string bt)) := Lib.hid (fun w' q => by
    have x := b1.out.stays q.out
    have y := B2.out.stays q.out
    exact ⟨q, x.at 0 _ rfl, x.at 1 _ rfl, x.at 2 _ rfl, y.at 0 _ rfl, y.at 1 _ rfl, y.at 2 _ rfl⟩)
  have h0 : Hid (Q w1 w1.drew) := Lib.hid (Q.drewN _ 1)
  have ha : Hid (Q w1 (w1.drew.alloc (.cells #[.int .i64 R1, .int .i64 R2, .int .i64 R3] 3))) := Lib.hid ((Q.drewN _ 1).trans (Q.alloc _ _))
  have cO : Hid (∀ w', Bk w1.heap.size #[.int .i64 R1, .int .i64 R2, .int .i64 R3] 3 w' → Calls Tryz.prog 43 #[.slice (some ⟨w1.heap.size, 0, none⟩) 3 3] w' fun e w'' => e = .returned (.int .i64 (orL [R1, R2, R3])) ∧ Q w' w'') := Lib.hid (fun w' h => or_any _ 3 3 [R1, R2, R3] w' rfl (by decide) (fun i hi => h.at i _ (by
    match i, hi with
    | 0, _ => rfl
    | 1, _ => rfl
    | 2, _ => rfl
    | i + 3, hi => exact absurd hi (by simp))))
  have bo : Hid (Bk w1.heap.size #[.int .i64 R1, .int .i64 R2, .int .i64 R3] 3 (w1.drew.alloc (.cells #[.int .i64 R1, .int .i64 R2, .int .i64 R3] 3))) := Lib.hid (Bk.new _ _ _)
  clear b1 B2
  go_region_held3 (fun w' => Hid (Q w1 w') ∧ w'.cell? ⟨w.heap.size, 0, none⟩ = some (.int .i64 ak) ∧ w'.cell? ⟨w.heap.size, 1, none⟩ = some (.int .i64 an) ∧ w'.cell? ⟨w.heap.size, 2, none⟩ = some (.string at') ∧ w'.cell? ⟨w.heap.size + 1, 0, none⟩ = some (.int .i64 bk) ∧ w'.cell? ⟨w.heap.size + 1, 1, none⟩ = some (.int .i64 bn) ∧ w'.cell? ⟨w.heap.size + 1, 2, none⟩ = some (.string bt))
    (exact sees.out _ (by first | assumption | exact h0 | exact ha))
    (first
      | (go_at_call 73; refine (c1.out _).mono ?_; rintro e v1 ⟨rfl, rfl⟩)
      | (go_at_call 74; refine (c2.out _).mono ?_; rintro e v1 ⟨rfl, rfl⟩)
      | (go_at_call 47; refine (c3.out _).mono ?_; rintro e v1 ⟨rfl, rfl⟩)
      | (go_at_call 43; refine (cO.out _ bo.out).mono ?_; rintro e v1 ⟨rfl, q1⟩; have h1 := Lib.hid (ha.out.trans q1)))
  all_goals
    go_wp2_with fail
    go_ret
    exact ⟨rfl, qa.out.trans h1.out⟩

end Go.Proofs.YthekabflbpfjoaaGreatDoor.adr
