/- The law ValueCheck. -/
import Derived.Test.YtjmchjphdfbhiaaGreatDoorVal
import Derived.Test.YtjmchjphdfbhiaaGreatDoorWva
import Derived.Test.YtjmchjphdfbhiaaGreatDoorWfx
namespace Go.Proofs.YtjmchjphdfbhiaaGreatDoor.val
open Go.RowKit
open Go.Proofs.YtjmchjphdfbhiaaGreatDoor
open Go.Proofs.YtjmchjphdfbhiaaGreatDoor.lit (Fx)
set_option maxRecDepth 100000 in
set_option maxHeartbeats 4000000 in
theorem checkLaw_any (v : V) (A3 : Option Addr) (k3 : Nat) (A4 : Option Addr) (k4 : Nat) (w : World) (h : Va v A3 k3 A4 k4 w) (f : Fx w) :
    Calls Tryz.prog 3 #[vv v A3 k3 A4 k4] w fun e w' => e = .returned (.bool true) ∧ Q w w' := by
  have cS := Lib.hid (fun w' (q : Q w w') => small_any v A3 k3 A4 k4 w' (h.stays q))
  have cR := Lib.hid (fun w' (q : Q w w') => refCheck_any v A3 k3 A4 k4 w' (h.stays q))
  have cA := Lib.hid (fun w' (q : Q w w') => awake_any w' (q.fx f))
  have cC := Lib.hid (fun (hn : nodes v ≤ 100000) w' (q : Q w w') => check_any v (.slice A3 v.items.length k3) (.slice A4 v.keys.length k4) w' w q f h.1 h.2.1 h.2.2 hn)
  have hsn := Lib.hid (fun (hs : smallB v 400 = true) => smallB_nodes hs)
  unfold vv at *
  obtain ⟨S, hS⟩ : ∃ a, smallB v 400 = a := ⟨_, rfl⟩
  obtain ⟨E, hE⟩ : ∃ a, chkE v = a := ⟨_, rfl⟩
  rw [hS] at cS hsn
  rw [hE] at cR cC
  obtain ⟨n4, hn4⟩ : ∃ n, v.keys.length = n := ⟨_, rfl⟩
  obtain ⟨n3, hn3⟩ : ∃ n, v.items.length = n := ⟨_, rfl⟩
  obtain ⟨vk, hvk⟩ : ∃ n, v.kind = n := ⟨_, rfl⟩
  obtain ⟨vn, hvn⟩ : ∃ n, v.num = n := ⟨_, rfl⟩
  obtain ⟨vs, hvs⟩ : ∃ n, v.str = n := ⟨_, rfl⟩
  rw [hn3, hn4, hvk, hvn, hvs] at cS cR cC
  rw [hn3, hn4, hvk, hvn, hvs]
  clear hn3 hn4 hvk hvn hvs hS hE h f
  obtain ⟨B, hB⟩ : ∃ B, w.heap.size = B := ⟨_, rfl⟩
  obtain ⟨wb, hwb⟩ : ∃ wb, w.alloc (.cells #[.int .i64 vk, .int .i64 vn, .string vs, .slice A3 n3 k3, .slice A4 n4 k4] 26) = wb := ⟨_, rfl⟩
  have q0 : Q w wb := by rw [← hwb]; exact Q.box _ _
  have bB : Bk B #[.int .i64 vk, .int .i64 vn, .string vs, .slice A3 n3 k3, .slice A4 n4 k4] 26 wb := by rw [← hwb, ← hB]; exact Bk.new _ _ _
  have Q0 := Lib.hid q0
  have BB := Lib.hid bB
  have x0 := bB.at 0 _ rfl
  have x1 := bB.at 1 _ rfl
  have x2 := bB.at 2 _ rfl
  have x3 := bB.at 3 _ rfl
  have x4 := bB.at 4 _ rfl
  clear q0 bB
  cases S with
  | false =>
    clear hsn cC cR
    go_enter Tryz.func3, Tryz.ntmps3
    go_wp2_with fail
    refine (cS.out _ Q0.out).mono ?_
    rintro e w1 ⟨rfl, q1⟩
    have Q1 := Lib.hid (Q0.out.trans q1)
    clear x0 x1 x2 x3 x4 q1
    go_wp2_with fail
    refine (cA.out _ Q1.out).mono ?_
    rintro e w2 ⟨rfl, q2⟩
    go_wp2_with fail
    go_ret
    exact ⟨rfl, Q1.out.trans q2⟩
  | true =>
    have cC := Lib.hid (cC.out (by have := hsn.out rfl; omega))
    clear hsn
    go_enter Tryz.func3, Tryz.ntmps3
    go_wp2_with fail
    refine (cS.out _ Q0.out).mono ?_
    rintro e w1 ⟨rfl, q1⟩
    have B1 := Lib.hid (BB.out.stays q1)
    have Q1 := Lib.hid (Q0.out.trans q1)
    have Q1d : Hid (Q w w1.drew) := Lib.hid (Q1.out.trans (Q.drewN w1 1))
    have sees : Hid (∀ w', Q w w' → Q w1 w' → Hid (Q w w') ∧ w'.cell? ⟨B, 0, none⟩ = some (.int .i64 vk) ∧ w'.cell? ⟨B, 1, none⟩ = some (.int .i64 vn) ∧ w'.cell? ⟨B, 2, none⟩ = some (.string vs) ∧ w'.cell? ⟨B, 3, none⟩ = some (.slice A3 n3 k3) ∧ w'.cell? ⟨B, 4, none⟩ = some (.slice A4 n4 k4)) := Lib.hid (fun w' q q' => ⟨Lib.hid q, (B1.out.stays q').at 0 _ rfl, (B1.out.stays q').at 1 _ rfl, (B1.out.stays q').at 2 _ rfl, (B1.out.stays q').at 3 _ rfl, (B1.out.stays q').at 4 _ rfl⟩)
    have P0 : Hid (Q w1 w1.drew) := Lib.hid (Q.drewN w1 1)
    clear x0 x1 x2 x3 x4 q1 cS hwb
    go_wp2_with fail
    refine Go.wp_region_held_drew (S := (fun w' => Hid (Q w w') ∧ w'.cell? ⟨B, 0, none⟩ = some (.int .i64 vk) ∧ w'.cell? ⟨B, 1, none⟩ = some (.int .i64 vn) ∧ w'.cell? ⟨B, 2, none⟩ = some (.string vs) ∧ w'.cell? ⟨B, 3, none⟩ = some (.slice A3 n3 k3) ∧ w'.cell? ⟨B, 4, none⟩ = some (.slice A4 n4 k4))) (by kernel_rfl) (sees.out _ Q1d.out P0.out) (fun hHeld => ?_)
    refine Go.wpAnyH_take (i := 0) (oi := _) (v := ?_) rfl (by kernel_rfl) (by kernel_rfl) (by kernel_rfl) (fun _ _ _ h => h) (Or.inl ⟨by rfl, ?_⟩) (by assumption) ?_
    rotate_left 1
    · intro wx hSw
      go_simp <;> with_reducible rfl
    simp only [Act.put, List.getElem_toArray, List.getElem_cons_zero, List.setIfInBounds_toArray, List.set_cons_zero, List.set_cons_succ]
    refine Go.wpAnyH_take (i := 2) (oi := _) (v := ?_) rfl (by kernel_rfl) (by kernel_rfl) (by kernel_rfl) (fun _ _ _ h => h) (Or.inl ⟨by rfl, ?_⟩) (by assumption) ?_
    rotate_left 1
    · intro wx hSw
      go_simp <;> with_reducible rfl
    simp only [Act.put, List.getElem_toArray, List.getElem_cons_zero, List.getElem_cons_succ, List.setIfInBounds_toArray, List.set_cons_zero, List.set_cons_succ]
    refine Go.wpAnyH_ready (rs := [1]) (by kernel_rfl) (by simp) ?_
    refine Go.AllReadyH.cons rfl (fun K hK => ?_) Go.AllReadyH.nil
    rw [if_pos (by rfl)]
    go_simp
    refine (cC.out _ hHeld.1.out).mono ?_
    rintro e v1 ⟨rfl, q1⟩
    have R1 := Lib.hid (Q1d.out.trans q1)
    have P1 := Lib.hid (P0.out.trans q1)
    refine hK.out _ _ (sees.out _ R1.out P1.out) (fun hHeld => ?_)
    clear hK K
    refine Go.wpAnyH_ready (rs := [3]) (by kernel_rfl) (by simp) ?_
    refine Go.AllReadyH.cons rfl (fun K hK => ?_) Go.AllReadyH.nil
    rw [if_pos (by rfl)]
    go_simp
    refine (cR.out _ hHeld.1.out).mono ?_
    rintro e v3 ⟨rfl, q3⟩
    have R3 := Lib.hid (R1.out.trans q3)
    have P3 := Lib.hid (P1.out.trans q3)
    refine hK.out _ _ (sees.out _ R3.out P3.out) (fun hHeld => ?_)
    clear hK K
    refine Go.wpAnyH_take (i := 4) (oi := _) (v := ?_) rfl (by kernel_rfl) (by kernel_rfl) (by kernel_rfl) (fun _ _ _ h => h) (Or.inl ⟨by rfl, ?_⟩) (by assumption) ?_
    rotate_left 1
    · intro wx hSw
      go_simp <;> with_reducible rfl
    simp only [Act.put, List.getElem_toArray, List.getElem_cons_zero, List.getElem_cons_succ, List.setIfInBounds_toArray, List.set_cons_zero, List.set_cons_succ]
    refine Go.wpAnyH_take (i := 5) (oi := _) (v := ?_) rfl (by kernel_rfl) (by kernel_rfl) (by kernel_rfl) (fun _ _ _ h => h) (Or.inl ⟨by rfl, ?_⟩) (by assumption) ?_
    rotate_left 1
    · intro wx hSw
      go_simp <;> with_reducible rfl
    simp only [Act.put, List.getElem_toArray, List.getElem_cons_zero, List.getElem_cons_succ, List.setIfInBounds_toArray, List.set_cons_zero, List.set_cons_succ]
    refine Go.wpAnyH_ready (rs := [6]) (by kernel_rfl) (by simp) ?_
    refine Go.AllReadyH.cons rfl (fun K hK => ?_) Go.AllReadyH.nil
    rw [if_pos (by rfl)]
    go_simp
    refine (cA.out _ hHeld.1.out).mono ?_
    rintro e v6 ⟨rfl, q6⟩
    have R6 := Lib.hid (R3.out.trans q6)
    have P6 := Lib.hid (P3.out.trans q6)
    refine hK.out _ _ (sees.out _ R6.out P6.out) (fun hHeld => ?_)
    clear hK K
    refine Go.wpAnyH_take (i := 7) (oi := _) (v := ?_) rfl (by kernel_rfl) (by kernel_rfl) (by kernel_rfl) (fun _ _ _ h => h) (Or.inl ⟨by rfl, ?_⟩) (by assumption) ?_
    rotate_left 1
    · intro wx hSw
      go_simp <;> with_reducible rfl
    simp only [Act.put, List.getElem_toArray, List.getElem_cons_zero, List.getElem_cons_succ, List.setIfInBounds_toArray, List.set_cons_zero, List.set_cons_succ]
    refine Go.wpAnyH_take (i := 8) (oi := _) (v := ?_) rfl (by kernel_rfl) (by kernel_rfl) (by kernel_rfl) (fun _ _ _ h => h) (Or.inl ⟨by rfl, ?_⟩) (by assumption) ?_
    rotate_left 1
    · intro wx hSw
      go_simp <;> with_reducible rfl
    simp only [Act.put, List.getElem_toArray, List.getElem_cons_zero, List.getElem_cons_succ, List.setIfInBounds_toArray, List.set_cons_zero, List.set_cons_succ]
    refine Go.wpAnyH_done (by kernel_rfl) ?_ _
    go_wp2_with fail
    go_ret
    exact ⟨by simp, R6.out⟩

end Go.Proofs.YtjmchjphdfbhiaaGreatDoor.val
