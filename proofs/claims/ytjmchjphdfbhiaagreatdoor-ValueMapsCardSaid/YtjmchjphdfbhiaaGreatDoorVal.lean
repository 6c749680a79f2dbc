/- awake. -/
import Derived.Test.YtjmchjphdfbhiaaGreatDoorVak
import Derived.Deep.CutRange
namespace Go.Proofs.YtjmchjphdfbhiaaGreatDoor.val
open Go.RowKit
open Go.Proofs.YtjmchjphdfbhiaaGreatDoor
open Go.Proofs.YtjmchjphdfbhiaaGreatDoor.lit (Fx)
open Go.Proofs.YtjmchjphdfbhiaaGreatDoor.val.cp (set5 set5_block)
/-- What is known in the last line of awake. -/
structure Aw (w : World) (P XP : Nat) (M3 M4 X3 X4 : Option Addr) (m3 m4 x3 x4 : Nat) (N : Nat) (P3 P4 : Option Addr) (p3 p4 : Nat) (w' : World) : Prop where
  q : Q w w'
  bm : Bk P #[.int .i64 5, .int .i64 0, .string ⟨#[]⟩, .slice M3 2 m3, .slice M4 2 m4] 26 w'
  bx : Bk XP #[.int .i64 2, .int .i64 1, .string ⟨#[]⟩, .slice X3 0 x3, .slice X4 0 x4] 26 w'
  bp : Bk N #[.int .i64 5, .int .i64 0, .string ⟨#[]⟩, .slice P3 2 p3, .slice P4 2 p4] 26 w'
  am : Am M3 M4 m3 m4 w'
  ap : Ap P3 P4 p3 p4 w'
section
variable {w : World} {P XP : Nat} {M3 M4 X3 X4 : Option Addr} {m3 m4 x3 x4 : Nat} {N : Nat} {P3 P4 : Option Addr} {p3 p4 : Nat} {w' w2 : World}
theorem Aw.stays (h : Aw w P XP M3 M4 X3 X4 m3 m4 x3 x4 N P3 P4 p3 p4 w') (q : Q w' w2) : Aw w P XP M3 M4 X3 X4 m3 m4 x3 x4 N P3 P4 p3 p4 w2 :=
  ⟨h.q.trans q, h.bm.stays q, h.bx.stays q, h.bp.stays q, h.am.stays q, h.ap.stays q⟩
theorem Aw.seen (h : Aw w P XP M3 M4 X3 X4 m3 m4 x3 x4 N P3 P4 p3 p4 w') :
    Hid (Aw w P XP M3 M4 X3 X4 m3 m4 x3 x4 N P3 P4 p3 p4 w') ∧ w'.cell? ⟨P, 0, none⟩ = some (.int .i64 5) ∧ w'.cell? ⟨P, 1, none⟩ = some (.int .i64 0) ∧ w'.cell? ⟨P, 2, none⟩ = some (.string ⟨#[]⟩) ∧ w'.cell? ⟨P, 3, none⟩ = some (.slice M3 2 m3) ∧ w'.cell? ⟨P, 4, none⟩ = some (.slice M4 2 m4) ∧ w'.cell? ⟨XP, 0, none⟩ = some (.int .i64 2) ∧ w'.cell? ⟨XP, 1, none⟩ = some (.int .i64 1) ∧ w'.cell? ⟨XP, 2, none⟩ = some (.string ⟨#[]⟩) ∧ w'.cell? ⟨XP, 3, none⟩ = some (.slice X3 0 x3) ∧ w'.cell? ⟨XP, 4, none⟩ = some (.slice X4 0 x4) ∧ w'.cell? ⟨N, 0, none⟩ = some (.int .i64 5) ∧ w'.cell? ⟨N, 1, none⟩ = some (.int .i64 0) ∧ w'.cell? ⟨N, 2, none⟩ = some (.string ⟨#[]⟩) ∧ w'.cell? ⟨N, 3, none⟩ = some (.slice P3 2 p3) ∧ w'.cell? ⟨N, 4, none⟩ = some (.slice P4 2 p4) :=
  ⟨Lib.hid h, h.bm.at 0 _ rfl, h.bm.at 1 _ rfl, h.bm.at 2 _ rfl, h.bm.at 3 _ rfl, h.bm.at 4 _ rfl, h.bx.at 0 _ rfl, h.bx.at 1 _ rfl, h.bx.at 2 _ rfl, h.bx.at 3 _ rfl, h.bx.at 4 _ rfl, h.bp.at 0 _ rfl, h.bp.at 1 _ rfl, h.bp.at 2 _ rfl, h.bp.at 3 _ rfl, h.bp.at 4 _ rfl⟩
end
theorem ap_but {P3 P4 : Option Addr} {p3 p4 N : Nat} {t : TypeId} {w w' : World} (h : Ap P3 P4 p3 p4 w) (bz : Bk N #[.int .i64 0, .int .i64 0, .string ⟨#[]⟩, .slice none 0 0, .slice none 0 0] t w) (hb : ∀ j, j ≠ N → w'.heap[j]? = w.heap[j]?) : Ap P3 P4 p3 p4 w' := by
  obtain ⟨⟨A, c, e, hc, g⟩, ⟨A', c', e', hc', g'⟩⟩ := h
  simp only [Value.slice.injEq] at e e'
  obtain ⟨rfl, -, rfl⟩ := e
  obtain ⟨rfl, -, rfl⟩ := e'
  obtain ⟨b, o, rfl, hv⟩ := g (by simp)
  obtain ⟨b', o', rfl, hk⟩ := g' (by simp)
  rw [VL_cons, VL_cons] at hv
  obtain ⟨⟨c0, c1, c2, c3, c4, i0, i1, i2, i3, i4, vi⟩, ⟨d0, d1, d2, d3, d4, j0, j1, j2, j3, j4, vj⟩, _⟩ := hv
  have hne : b ≠ N := by
    rintro rfl
    rw [bz.c, Array.getElem?_eq_none (by simp)] at j0
    cases j0
  have hne' : b' ≠ N := by
    rintro rfl
    have k0 := hk.1
    rw [bz.c] at k0
    match o', k0 with
    | 0, k0 => simp at k0
    | 1, k0 => simp at k0
    | 2, k0 => simp [sa] at k0
    | 3, k0 => simp at k0
    | 4, k0 => simp at k0
    | o + 5, k0 => rw [Array.getElem?_eq_none (by simp)] at k0; cases k0
  have cc : ∀ (q : Nat) (u : Value), w.cell? ⟨b, q, none⟩ = some u → w'.cell? ⟨b, q, none⟩ = some u := fun q u h => (cell_block (hb b hne)).trans h
  have ck : ∀ (q : Nat) (u : Value), w.cell? ⟨b', q, none⟩ = some u → w'.cell? ⟨b', q, none⟩ = some u := fun q u h => (cell_block (hb b' hne')).trans h
  have vz : ∀ {k n : Int} {c0 c1 c2 c3 c4 : Value}, Vi ⟨k, n, ⟨#[]⟩, [], []⟩ c0 c1 c2 c3 c4 w → Vi ⟨k, n, ⟨#[]⟩, [], []⟩ c0 c1 c2 c3 c4 w' := fun h => by
    obtain ⟨rfl, rfl, rfl, h3, h4⟩ := h.parts
    obtain ⟨A, c, rfl, -⟩ := h3.shape
    obtain ⟨B, d, rfl, -⟩ := h4.shape
    exact Vi.of (v := ⟨_, _, ⟨#[]⟩, [], []⟩) (Is.nil _ _ _) (Ks.nil _ _ _)
  refine ⟨⟨_, _, rfl, hc, fun _ => ⟨b, o, rfl, ?_⟩⟩, ⟨_, _, rfl, hc', fun _ => ⟨b', o', rfl, ck _ _ hk.1, ck _ _ hk.2.1, trivial⟩⟩⟩
  rw [VL_cons, VL_cons]
  exact ⟨⟨c0, c1, c2, c3, c4, cc _ _ i0, cc _ _ i1, cc _ _ i2, cc _ _ i3, cc _ _ i4, vz vi⟩, ⟨d0, d1, d2, d3, d4, cc _ _ j0, cc _ _ j1, cc _ _ j2, cc _ _ j3, cc _ _ j4, vz vj⟩, VL_nil _ _ _⟩
set_option maxHeartbeats 20000000 in
set_option maxRecDepth 100000 in
theorem awake_any (w : World) (f : Fx w) : Calls Tryz.prog 11 #[] w fun e w' => e = .returned (.bool true) ∧ Q w w' := by
  obtain ⟨B, hB⟩ : ∃ B, w.heap.size = B := ⟨_, rfl⟩
  obtain ⟨wa, hwa⟩ : ∃ wa, w.alloc (.cells #[.string ⟨#[98]⟩, .string ⟨#[97]⟩] 9) = wa := ⟨_, rfl⟩
  have qa : Q w wa := by rw [← hwa]; exact Q.box _ _
  have bk : Bk B #[.string ⟨#[98]⟩, .string ⟨#[97]⟩] 9 wa := by rw [← hwa, ← hB]; exact Bk.new _ _ _
  have cN : Hid (∀ w', Calls Tryz.prog 22 #[.int .i64 1] w' fun e w'' => ∃ A c B d, e = .returned (.agg #[.int .i64 2, .int .i64 1, .string ⟨#[]⟩, .slice A 0 c, .slice B 0 d]) ∧ Q w' w'') := Lib.hid (fun w' => (number_any 1 w').mono fun _ _ h => leaf_ex h)
  have cU : Hid (∀ w', Calls Tryz.prog 18 #[] w' fun e w'' => ∃ A c B d, e = .returned (.agg #[.int .i64 6, .int .i64 0, .string ⟨#[]⟩, .slice A 0 c, .slice B 0 d]) ∧ Q w' w'') := Lib.hid (fun w' => (unknown_any w').mono fun _ _ h => leaf_ex h)
  have cNu : Hid (∀ w', Calls Tryz.prog 16 #[] w' fun e w'' => ∃ A c B d, e = .returned (.agg #[.int .i64 0, .int .i64 0, .string ⟨#[]⟩, .slice A 0 c, .slice B 0 d]) ∧ Q w' w'') := Lib.hid (fun w' => (null_any w').mono fun _ _ h => leaf_ex h)
  have cF : Hid (∀ w', Calls Tryz.prog 20 #[.bool false] w' fun e w'' => ∃ A c B d, e = .returned (.agg #[.int .i64 1, .int .i64 0, .string ⟨#[]⟩, .slice A 0 c, .slice B 0 d]) ∧ Q w' w'') := Lib.hid (fun w' => (bool_any false w').mono fun _ _ h => leaf_ex h)
  have QA := Lib.hid qa
  have BK := Lib.hid bk
  have FX := Lib.hid f
  clear qa bk f
  go_enter Tryz.func11, Tryz.ntmps11
  go_wp2_with fail
  refine (cN.out _).mono ?_
  rintro e w1 ⟨A1, c1, A2, c2, rfl, q1⟩
  have Q1 := Lib.hid q1
  clear q1 hwa
  go_wp2_with fail
  refine (cU.out _).mono ?_
  rintro e w2 ⟨A3, c3, A4, c4, rfl, q2⟩
  obtain ⟨D, hD⟩ : ∃ D, w2.heap.size = D := ⟨_, rfl⟩
  obtain ⟨wd, hwd⟩ : ∃ wd, w2.alloc (.cells #[.int .i64 2, .int .i64 1, .string ⟨#[]⟩, .slice A1 0 c1, .slice A2 0 c2, .int .i64 6, .int .i64 0, .string ⟨#[]⟩, .slice A3 0 c3, .slice A4 0 c4] 26) = wd := ⟨_, rfl⟩
  have hd : Bk D #[.int .i64 2, .int .i64 1, .string ⟨#[]⟩, .slice A1 0 c1, .slice A2 0 c2, .int .i64 6, .int .i64 0, .string ⟨#[]⟩, .slice A3 0 c3, .slice A4 0 c4] 26 wd := by rw [← hwd, ← hD]; exact Bk.new _ _ _
  have qd : Q wa wd := (Q1.out.trans q2).trans (by rw [← hwd]; exact Q.box _ _)
  have hrows := rows_ex (BK.out.stays qd) hd
  have cM := Lib.hid (map_exa _ _ 2 2 wd hrows.1 hrows.2)
  have QD := Lib.hid (QA.out.trans qd)
  clear hd qd hrows q2 hB BK QA Q1
  go_wp2_with fail
  refine (cM.out).mono ?_
  rintro e w3 ⟨M3, m3, M4, m4, rfl, hI, hK, q3⟩
  obtain ⟨P, hP⟩ : ∃ P, w3.heap.size = P := ⟨_, rfl⟩
  obtain ⟨w4, hw4⟩ : ∃ w4, w3.alloc (.cells #[.int .i64 5, .int .i64 0, .string ⟨#[]⟩, .slice M3 2 m3, .slice M4 2 m4] 26) = w4 := ⟨_, rfl⟩
  have q4 : Q w3 w4 := by rw [← hw4]; exact Q.box _ _
  have bm : Bk P #[.int .i64 5, .int .i64 0, .string ⟨#[]⟩, .slice M3 2 m3, .slice M4 2 m4] 26 w4 := by rw [← hw4, ← hP]; exact Bk.new _ _ _
  have AM := Lib.hid (Am.stays ⟨hI, hK⟩ q4)
  have QM := Lib.hid ((QD.out.trans q3).trans q4)
  have BM := Lib.hid bm
  have cG := Lib.hid (get_exa AM.out)
  have m0 := BM.out.at 0 _ rfl
  have m1 := BM.out.at 1 _ rfl
  have m2 := BM.out.at 2 _ rfl
  have m3' := BM.out.at 3 _ rfl
  have m4' := BM.out.at 4 _ rfl
  clear hI hK q3 q4 bm hwd hD cM QD
  go_wp2_with fail
  refine (cG.out).mono ?_
  rintro e w5 ⟨X3, x3, X4, x4, rfl, q5⟩
  obtain ⟨XP, hXP⟩ : ∃ P, w5.heap.size = P := ⟨_, rfl⟩
  obtain ⟨w6, hw6⟩ : ∃ w6, w5.alloc (.cells #[.int .i64 2, .int .i64 1, .string ⟨#[]⟩, .slice X3 0 x3, .slice X4 0 x4] 26) = w6 := ⟨_, rfl⟩
  have q6 : Q w5 w6 := by rw [← hw6]; exact Q.box _ _
  have bx : Bk XP #[.int .i64 2, .int .i64 1, .string ⟨#[]⟩, .slice X3 0 x3, .slice X4 0 x4] 26 w6 := by rw [← hw6, ← hXP]; exact Bk.new _ _ _
  have AM6 := Lib.hid (AM.out.stays (q5.trans q6))
  have BM6 := Lib.hid (BM.out.stays (q5.trans q6))
  have Q6 := Lib.hid (QM.out.trans (q5.trans q6))
  have BX := Lib.hid bx
  have cPut : Hid (∀ w', Q w6 w' → ∀ (A B : Option Addr) (c d : Nat), Calls Tryz.prog 31 #[.agg #[.int .i64 5, .int .i64 0, .string ⟨#[]⟩, .slice M3 2 m3, .slice M4 2 m4], .string ⟨#[97]⟩, .agg #[.int .i64 0, .int .i64 0, .string ⟨#[]⟩, .slice A 0 c, .slice B 0 d]] w' fun e w'' => ∃ A' c' B' d', e = .returned (.agg #[.int .i64 5, .int .i64 0, .string ⟨#[]⟩, .slice A' 2 c', .slice B' 2 d']) ∧ Ap A' B' c' d' w'' ∧ Q w' w'') := Lib.hid (fun w' q A B c d => put_exa (AM6.out.stays q) A B c d)
  clear cG m0 m1 m2 m3' m4' q5 q6 bx hP hw4 AM BM QM cN cU
  go_upto_region 3 with fail
  go_cut [5] from 19 (fun p wx => ∃ N P3 p3 P4 p4, p = .pointer (some ⟨N, 0, none⟩) ∧ Hid (Aw w P XP M3 M4 X3 X4 m3 m4 x3 x4 N P3 P4 p3 p4 wx))
  case first =>
    have QD6 : Hid (Q w6 w6.drew) := Lib.hid (Q.drewN w6 1)
    have sees : Hid (∀ w', Q w6 w' → w'.cell? ⟨P, 0, none⟩ = some (.int .i64 5) ∧ w'.cell? ⟨P, 1, none⟩ = some (.int .i64 0) ∧ w'.cell? ⟨P, 2, none⟩ = some (.string ⟨#[]⟩) ∧ w'.cell? ⟨P, 3, none⟩ = some (.slice M3 2 m3) ∧ w'.cell? ⟨P, 4, none⟩ = some (.slice M4 2 m4)) := Lib.hid (fun w' q => ⟨(BM6.out.stays q).at 0 _ rfl, (BM6.out.stays q).at 1 _ rfl, (BM6.out.stays q).at 2 _ rfl, (BM6.out.stays q).at 3 _ rfl, (BM6.out.stays q).at 4 _ rfl⟩)
    refine Go.wp_region_held_drew (S := fun w' => w'.cell? ⟨P, 0, none⟩ = some (.int .i64 5) ∧ w'.cell? ⟨P, 1, none⟩ = some (.int .i64 0) ∧ w'.cell? ⟨P, 2, none⟩ = some (.string ⟨#[]⟩) ∧ w'.cell? ⟨P, 3, none⟩ = some (.slice M3 2 m3) ∧ w'.cell? ⟨P, 4, none⟩ = some (.slice M4 2 m4)) (by kernel_rfl) (sees.out _ QD6.out) (fun hHeld => ?_)
    generalize w6.drew = wd at *
    refine Go.wpAnyH_take (i := 0) (oi := _) (v := ?_) rfl (by kernel_rfl) (by kernel_rfl) (by kernel_rfl) (fun _ _ _ h => h) (Or.inl ⟨by rfl, ?_⟩) (by assumption) ?_
    rotate_left 1
    · intro wx hSw
      go_simp <;> with_reducible rfl
    simp only [Act.put, List.getElem_toArray, List.getElem_cons_zero, List.setIfInBounds_toArray, List.set_cons_zero, List.set_cons_succ]
    refine Go.wpAnyH_ready (rs := [1, 3]) (by kernel_rfl) (by simp) ?_
    refine Go.AllReadyH.cons rfl (fun K hK => ?_) (Go.AllReadyH.cons rfl (fun K hK => ?_) Go.AllReadyH.nil)
    · rw [if_pos (by rfl)]
      go_simp
      refine (cNu.out _).mono ?_
      rintro e v1 ⟨N3, n3, N4, n4, rfl, q1⟩
      have Q1 := Lib.hid (QD6.out.trans q1)
      refine hK.out _ _ (sees.out _ Q1.out) (fun hHeld => ?_)
      clear hK K q1 hHeld
      refine Go.wpAnyH_ready (rs := [2, 3]) (by kernel_rfl) (by simp) ?_
      refine Go.AllReadyH.cons rfl (fun K hK => ?_) (Go.AllReadyH.cons rfl (fun K hK => ?_) Go.AllReadyH.nil)
      · rw [if_pos (by rfl)]
        go_simp
        refine (cPut.out _ Q1.out _ _ _ _).mono ?_
        rintro e v2 ⟨P3, p3, P4, p4, rfl, hAp, q2⟩
        have Q2 := Lib.hid (Q1.out.trans q2)
        have QP := Lib.hid q2
        have HAP := Lib.hid hAp
        refine hK.out _ _ (sees.out _ Q2.out) (fun hHeld => ?_)
        clear hK K q2 hHeld hAp
        refine Go.wpAnyH_ready (rs := [3]) (by kernel_rfl) (by simp) ?_
        refine Go.AllReadyH.cons rfl (fun K hK => ?_) Go.AllReadyH.nil
        rw [if_pos (by rfl)]
        go_simp
        obtain ⟨N, hN⟩ : ∃ N, v2.heap.size = N := ⟨_, rfl⟩
        obtain ⟨v3, hv3⟩ : ∃ x, v2.alloc (.cells #[.int .i64 0, .int .i64 0, .string ⟨#[]⟩, .slice none 0 0, .slice none 0 0] 26) = x := ⟨_, rfl⟩
        have qa : Q v2 v3 := by rw [← hv3]; exact Q.box _ _
        have ba : Bk N #[.int .i64 0, .int .i64 0, .string ⟨#[]⟩, .slice none 0 0, .slice none 0 0] 26 v3 := by rw [← hv3, ← hN]; exact Bk.new _ _ _
        have Q3 := Lib.hid (Q2.out.trans qa)
        have BA := Lib.hid ba
        have QAL := Lib.hid qa
        have HNN := Lib.hid hN
        have hNs : v2.heap.size = N := hN
        clear hN
        rw [hv3]
        try rw [hNs]
        refine hK.out _ _ (sees.out _ Q3.out) (fun hHeld => ?_)
        clear hK K qa ba hHeld hv3
        have bz := BA.out.stays (Q.refl _)
        have z0 := bz.at 0 _ rfl
        have z1 := bz.at 1 _ rfl
        have z2 := bz.at 2 _ rfl
        have z3 := bz.at 3 _ rfl
        have z4 := bz.at 4 _ rfl
        have f0 := bz.frozen 0
        have f1 := bz.frozen 1
        have f2 := bz.frozen 2
        have f3 := bz.frozen 3
        have f4 := bz.frozen 4
        obtain ⟨bf, qf⟩ := store5 (k := 5) (n := 0) (s := ⟨#[]⟩) (s3 := .slice P3 2 p3) (s4 := .slice P4 2 p4) HNN.out.symm bz (QAL.out.trans (Q.refl _))
        have hbl := set5_block v3 N 0 (.int .i64 5) (.int .i64 0) (.string ⟨#[]⟩) (.slice P3 2 p3) (.slice P4 2 p4)
        obtain ⟨wf, hwf⟩ : ∃ wf, set5 v3 N 0 (.int .i64 5) (.int .i64 0) (.string ⟨#[]⟩) (.slice P3 2 p3) (.slice P4 2 p4) = wf := ⟨_, rfl⟩
        rw [hwf] at bf qf hbl
        unfold set5 at hwf
        simp only [Nat.zero_add] at hwf
        have QF := Lib.hid (Q2.out.trans qf)
        have BF := Lib.hid bf
        have AF : Hid (Ap P3 P4 p3 p4 wf) := Lib.hid (ap_but (HAP.out.stays (QAL.out)) bz hbl)
        refine Go.wpAnyH_ready (rs := [4]) (by kernel_rfl) (by simp) ?_
        refine Go.AllReadyH.cons rfl (fun K hK => ?_) Go.AllReadyH.nil
        rw [if_pos (by rfl)]
        go_simp
        try rw [hwf]
        refine hK.out _ _ (sees.out _ QF.out) (fun hHeld => ?_)
        clear hK K hHeld
        refine Go.wpAnyH_done (by kernel_rfl) ?_ _
        clear z0 z1 z2 z3 z4 f0 f1 f2 f3 f4 hwf bz bf qf hbl
        go_wp2_with fail
        go_meet
        exact ⟨N, P3, p3, P4, p4, rfl, Lib.hid ⟨Q6.out.trans QF.out, BM6.out.stays QF.out, BX.out.stays QF.out, BF.out, AM6.out.stays QF.out, AF.out⟩⟩
      · rw [if_pos (by rfl)]
        go_simp
        obtain ⟨N, hN⟩ : ∃ N, v1.heap.size = N := ⟨_, rfl⟩
        obtain ⟨v2, hv2⟩ : ∃ x, v1.alloc (.cells #[.int .i64 0, .int .i64 0, .string ⟨#[]⟩, .slice none 0 0, .slice none 0 0] 26) = x := ⟨_, rfl⟩
        have qa : Q v1 v2 := by rw [← hv2]; exact Q.box _ _
        have ba : Bk N #[.int .i64 0, .int .i64 0, .string ⟨#[]⟩, .slice none 0 0, .slice none 0 0] 26 v2 := by rw [← hv2, ← hN]; exact Bk.new _ _ _
        have Q2 := Lib.hid (Q1.out.trans qa)
        have BA := Lib.hid ba
        have QAL := Lib.hid qa
        have HNN := Lib.hid hN
        have hNs : v1.heap.size = N := hN
        clear hN
        rw [hv2]
        try rw [hNs]
        refine hK.out _ _ (sees.out _ Q2.out) (fun hHeld => ?_)
        clear hK K qa ba hHeld hv2
        refine Go.wpAnyH_ready (rs := [2]) (by kernel_rfl) (by simp) ?_
        refine Go.AllReadyH.cons rfl (fun K hK => ?_) Go.AllReadyH.nil
        rw [if_pos (by rfl)]
        go_simp
        refine (cPut.out _ Q2.out _ _ _ _).mono ?_
        rintro e v3 ⟨P3, p3, P4, p4, rfl, hAp, q2⟩
        have Q3 := Lib.hid (Q2.out.trans q2)
        have QP := Lib.hid q2
        have HAP := Lib.hid hAp
        refine hK.out _ _ (sees.out _ Q3.out) (fun hHeld => ?_)
        clear hK K q2 hHeld hAp
        have bz := BA.out.stays (QP.out)
        have z0 := bz.at 0 _ rfl
        have z1 := bz.at 1 _ rfl
        have z2 := bz.at 2 _ rfl
        have z3 := bz.at 3 _ rfl
        have z4 := bz.at 4 _ rfl
        have f0 := bz.frozen 0
        have f1 := bz.frozen 1
        have f2 := bz.frozen 2
        have f3 := bz.frozen 3
        have f4 := bz.frozen 4
        obtain ⟨bf, qf⟩ := store5 (k := 5) (n := 0) (s := ⟨#[]⟩) (s3 := .slice P3 2 p3) (s4 := .slice P4 2 p4) HNN.out.symm bz (QAL.out.trans (QP.out))
        have hbl := set5_block v3 N 0 (.int .i64 5) (.int .i64 0) (.string ⟨#[]⟩) (.slice P3 2 p3) (.slice P4 2 p4)
        obtain ⟨wf, hwf⟩ : ∃ wf, set5 v3 N 0 (.int .i64 5) (.int .i64 0) (.string ⟨#[]⟩) (.slice P3 2 p3) (.slice P4 2 p4) = wf := ⟨_, rfl⟩
        rw [hwf] at bf qf hbl
        unfold set5 at hwf
        simp only [Nat.zero_add] at hwf
        have QF := Lib.hid (Q1.out.trans qf)
        have BF := Lib.hid bf
        have AF : Hid (Ap P3 P4 p3 p4 wf) := Lib.hid (ap_but (HAP.out.stays (Q.refl _)) bz hbl)
        refine Go.wpAnyH_ready (rs := [4]) (by kernel_rfl) (by simp) ?_
        refine Go.AllReadyH.cons rfl (fun K hK => ?_) Go.AllReadyH.nil
        rw [if_pos (by rfl)]
        go_simp
        try rw [hwf]
        refine hK.out _ _ (sees.out _ QF.out) (fun hHeld => ?_)
        clear hK K hHeld
        refine Go.wpAnyH_done (by kernel_rfl) ?_ _
        clear z0 z1 z2 z3 z4 f0 f1 f2 f3 f4 hwf bz bf qf hbl
        go_wp2_with fail
        go_meet
        exact ⟨N, P3, p3, P4, p4, rfl, Lib.hid ⟨Q6.out.trans QF.out, BM6.out.stays QF.out, BX.out.stays QF.out, BF.out, AM6.out.stays QF.out, AF.out⟩⟩
    · rw [if_pos (by rfl)]
      go_simp
      obtain ⟨N, hN⟩ : ∃ N, wd.heap.size = N := ⟨_, rfl⟩
      obtain ⟨v1, hv1⟩ : ∃ x, wd.alloc (.cells #[.int .i64 0, .int .i64 0, .string ⟨#[]⟩, .slice none 0 0, .slice none 0 0] 26) = x := ⟨_, rfl⟩
      have qa : Q wd v1 := by rw [← hv1]; exact Q.box _ _
      have ba : Bk N #[.int .i64 0, .int .i64 0, .string ⟨#[]⟩, .slice none 0 0, .slice none 0 0] 26 v1 := by rw [← hv1, ← hN]; exact Bk.new _ _ _
      have Q1 := Lib.hid (QD6.out.trans qa)
      have BA := Lib.hid ba
      have QAL := Lib.hid qa
      have HNN := Lib.hid hN
      have hNs : wd.heap.size = N := hN
      clear hN
      rw [hv1]
      try rw [hNs]
      refine hK.out _ _ (sees.out _ Q1.out) (fun hHeld => ?_)
      clear hK K qa ba hHeld hv1
      refine Go.wpAnyH_ready (rs := [1]) (by kernel_rfl) (by simp) ?_
      refine Go.AllReadyH.cons rfl (fun K hK => ?_) Go.AllReadyH.nil
      rw [if_pos (by rfl)]
      go_simp
      refine (cNu.out _).mono ?_
      rintro e v2 ⟨N3, n3, N4, n4, rfl, q1⟩
      have Q2 := Lib.hid (Q1.out.trans q1)
      refine hK.out _ _ (sees.out _ Q2.out) (fun hHeld => ?_)
      have QN := Lib.hid q1
      clear hK K q1 hHeld
      refine Go.wpAnyH_ready (rs := [2]) (by kernel_rfl) (by simp) ?_
      refine Go.AllReadyH.cons rfl (fun K hK => ?_) Go.AllReadyH.nil
      rw [if_pos (by rfl)]
      go_simp
      refine (cPut.out _ Q2.out _ _ _ _).mono ?_
      rintro e v3 ⟨P3, p3, P4, p4, rfl, hAp, q2⟩
      have Q3 := Lib.hid (Q2.out.trans q2)
      have QP := Lib.hid q2
      have HAP := Lib.hid hAp
      refine hK.out _ _ (sees.out _ Q3.out) (fun hHeld => ?_)
      clear hK K q2 hHeld hAp
      have bz := BA.out.stays (QN.out.trans QP.out)
      have z0 := bz.at 0 _ rfl
      have z1 := bz.at 1 _ rfl
      have z2 := bz.at 2 _ rfl
      have z3 := bz.at 3 _ rfl
      have z4 := bz.at 4 _ rfl
      have f0 := bz.frozen 0
      have f1 := bz.frozen 1
      have f2 := bz.frozen 2
      have f3 := bz.frozen 3
      have f4 := bz.frozen 4
      obtain ⟨bf, qf⟩ := store5 (k := 5) (n := 0) (s := ⟨#[]⟩) (s3 := .slice P3 2 p3) (s4 := .slice P4 2 p4) HNN.out.symm bz (QAL.out.trans (QN.out.trans QP.out))
      have hbl := set5_block v3 N 0 (.int .i64 5) (.int .i64 0) (.string ⟨#[]⟩) (.slice P3 2 p3) (.slice P4 2 p4)
      obtain ⟨wf, hwf⟩ : ∃ wf, set5 v3 N 0 (.int .i64 5) (.int .i64 0) (.string ⟨#[]⟩) (.slice P3 2 p3) (.slice P4 2 p4) = wf := ⟨_, rfl⟩
      rw [hwf] at bf qf hbl
      unfold set5 at hwf
      simp only [Nat.zero_add] at hwf
      have QF := Lib.hid (QD6.out.trans qf)
      have BF := Lib.hid bf
      have AF : Hid (Ap P3 P4 p3 p4 wf) := Lib.hid (ap_but (HAP.out.stays (Q.refl _)) bz hbl)
      refine Go.wpAnyH_ready (rs := [4]) (by kernel_rfl) (by simp) ?_
      refine Go.AllReadyH.cons rfl (fun K hK => ?_) Go.AllReadyH.nil
      rw [if_pos (by rfl)]
      go_simp
      try rw [hwf]
      refine hK.out _ _ (sees.out _ QF.out) (fun hHeld => ?_)
      clear hK K hHeld
      refine Go.wpAnyH_done (by kernel_rfl) ?_ _
      clear z0 z1 z2 z3 z4 f0 f1 f2 f3 f4 hwf bz bf qf hbl
      go_wp2_with fail
      go_meet
      exact ⟨N, P3, p3, P4, p4, rfl, Lib.hid ⟨Q6.out.trans QF.out, BM6.out.stays QF.out, BX.out.stays QF.out, BF.out, AM6.out.stays QF.out, AF.out⟩⟩
  case rest =>
    obtain ⟨N, P3, p3, P4, p4, rfl, H3⟩ := hcut
    have k1 : Hid (∀ w', Hid (Aw w P XP M3 M4 X3 X4 m3 m4 x3 x4 N P3 P4 p3 p4 w') → Calls Tryz.prog 12 #[.agg #[.int .i64 5, .int .i64 0, .string ⟨#[]⟩, .slice M3 2 m3, .slice M4 2 m4]] w' fun e w'' => e = .returned (.int .i64 0) ∧ Aw w P XP M3 M4 X3 X4 m3 m4 x3 x4 N P3 P4 p3 p4 w'') := Lib.hid (fun w' h => (check_exa h.out.am (h.out.q.fx FX.out)).mono fun _ _ g => ⟨g.1, h.out.stays g.2⟩)
    have k2 : Hid (∀ w', Hid (Aw w P XP M3 M4 X3 X4 m3 m4 x3 x4 N P3 P4 p3 p4 w') → Calls Tryz.prog 22 #[.int .i64 1] w' fun e w'' => ∃ A c B d, e = .returned (.agg #[.int .i64 2, .int .i64 1, .string ⟨#[]⟩, .slice A 0 c, .slice B 0 d]) ∧ Aw w P XP M3 M4 X3 X4 m3 m4 x3 x4 N P3 P4 p3 p4 w'') := Lib.hid (fun w' h => (number_any 1 w').mono fun _ _ g => by
      obtain ⟨A, c, B, d, g1, g2⟩ := leaf_ex g
      exact ⟨A, c, B, d, g1, h.out.stays g2⟩)
    have k3 : Hid (∀ w', Hid (Aw w P XP M3 M4 X3 X4 m3 m4 x3 x4 N P3 P4 p3 p4 w') → ∀ (A B : Option Addr) (c d : Nat), Calls Tryz.prog 34 #[.agg #[.int .i64 2, .int .i64 1, .string ⟨#[]⟩, .slice X3 0 x3, .slice X4 0 x4], .agg #[.int .i64 2, .int .i64 1, .string ⟨#[]⟩, .slice A 0 c, .slice B 0 d]] w' fun e w'' => e = .returned (.bool true) ∧ Aw w P XP M3 M4 X3 X4 m3 m4 x3 x4 N P3 P4 p3 p4 w'') := Lib.hid (fun w' h A B c d => (equal_exa _ _ _ _ _ _ _ _ w').mono fun _ _ g => ⟨g.1, h.out.stays g.2⟩)
    have k4 : Hid (∀ w', Hid (Aw w P XP M3 M4 X3 X4 m3 m4 x3 x4 N P3 P4 p3 p4 w') → Calls Tryz.prog 37 #[.agg #[.int .i64 5, .int .i64 0, .string ⟨#[]⟩, .slice M3 2 m3, .slice M4 2 m4]] w' fun e w'' => e = .returned (.bool false) ∧ Aw w P XP M3 M4 X3 X4 m3 m4 x3 x4 N P3 P4 p3 p4 w'') := Lib.hid (fun w' h => (known_exm h.out.am).mono fun _ _ g => ⟨g.1, h.out.stays g.2⟩)
    have k5 : Hid (∀ w', Hid (Aw w P XP M3 M4 X3 X4 m3 m4 x3 x4 N P3 P4 p3 p4 w') → Calls Tryz.prog 37 #[.agg #[.int .i64 5, .int .i64 0, .string ⟨#[]⟩, .slice P3 2 p3, .slice P4 2 p4]] w' fun e w'' => e = .returned (.bool true) ∧ Aw w P XP M3 M4 X3 X4 m3 m4 x3 x4 N P3 P4 p3 p4 w'') := Lib.hid (fun w' h => (known_exp h.out.ap).mono fun _ _ g => ⟨g.1, h.out.stays g.2⟩)
    have k6 : Hid (∀ w', Hid (Aw w P XP M3 M4 X3 X4 m3 m4 x3 x4 N P3 P4 p3 p4 w') → Calls Tryz.prog 39 #[.agg #[.int .i64 5, .int .i64 0, .string ⟨#[]⟩, .slice P3 2 p3, .slice P4 2 p4], .agg #[.int .i64 5, .int .i64 0, .string ⟨#[]⟩, .slice M3 2 m3, .slice M4 2 m4]] w' fun e w'' => e = .returned (.bool true) ∧ Aw w P XP M3 M4 X3 X4 m3 m4 x3 x4 N P3 P4 p3 p4 w'') := Lib.hid (fun w' h => (refines_pm h.out.ap h.out.am).mono fun _ _ g => ⟨g.1, h.out.stays g.2⟩)
    have k7 : Hid (∀ w', Hid (Aw w P XP M3 M4 X3 X4 m3 m4 x3 x4 N P3 P4 p3 p4 w') → Calls Tryz.prog 39 #[.agg #[.int .i64 5, .int .i64 0, .string ⟨#[]⟩, .slice M3 2 m3, .slice M4 2 m4], .agg #[.int .i64 5, .int .i64 0, .string ⟨#[]⟩, .slice P3 2 p3, .slice P4 2 p4]] w' fun e w'' => e = .returned (.bool false) ∧ Aw w P XP M3 M4 X3 X4 m3 m4 x3 x4 N P3 P4 p3 p4 w'') := Lib.hid (fun w' h => (refines_mp h.out.ap h.out.am).mono fun _ _ g => ⟨g.1, h.out.stays g.2⟩)
    have k8 : Hid (∀ w', Hid (Aw w P XP M3 M4 X3 X4 m3 m4 x3 x4 N P3 P4 p3 p4 w') → Calls Tryz.prog 41 #[.agg #[.int .i64 5, .int .i64 0, .string ⟨#[]⟩, .slice M3 2 m3, .slice M4 2 m4]] w' fun e w'' => e = .returned (.int .i64 3) ∧ Aw w P XP M3 M4 X3 X4 m3 m4 x3 x4 N P3 P4 p3 p4 w'') := Lib.hid (fun w' h => (nodes_exa h.out.am).mono fun _ _ g => ⟨g.1, h.out.stays g.2⟩)
    have k9 : Hid (∀ w', Hid (Aw w P XP M3 M4 X3 X4 m3 m4 x3 x4 N P3 P4 p3 p4 w') → Calls Tryz.prog 16 #[] w' fun e w'' => ∃ A c B d, e = .returned (.agg #[.int .i64 0, .int .i64 0, .string ⟨#[]⟩, .slice A 0 c, .slice B 0 d]) ∧ Aw w P XP M3 M4 X3 X4 m3 m4 x3 x4 N P3 P4 p3 p4 w'') := Lib.hid (fun w' h => (null_any w').mono fun _ _ g => by
      obtain ⟨A, c, B, d, g1, g2⟩ := leaf_ex g
      exact ⟨A, c, B, d, g1, h.out.stays g2⟩)
    have k10 : Hid (∀ w', Hid (Aw w P XP M3 M4 X3 X4 m3 m4 x3 x4 N P3 P4 p3 p4 w') → Calls Tryz.prog 20 #[.bool false] w' fun e w'' => ∃ A c B d, e = .returned (.agg #[.int .i64 1, .int .i64 0, .string ⟨#[]⟩, .slice A 0 c, .slice B 0 d]) ∧ Aw w P XP M3 M4 X3 X4 m3 m4 x3 x4 N P3 P4 p3 p4 w'') := Lib.hid (fun w' h => (bool_any false w').mono fun _ _ g => by
      obtain ⟨A, c, B, d, g1, g2⟩ := leaf_ex g
      exact ⟨A, c, B, d, g1, h.out.stays g2⟩)
    have k11 : Hid (∀ w', Hid (Aw w P XP M3 M4 X3 X4 m3 m4 x3 x4 N P3 P4 p3 p4 w') → ∀ (A B : Option Addr) (c d : Nat) (A' B' : Option Addr) (c' d' : Nat), Calls Tryz.prog 35 #[.agg #[.int .i64 0, .int .i64 0, .string ⟨#[]⟩, .slice A 0 c, .slice B 0 d], .agg #[.int .i64 1, .int .i64 0, .string ⟨#[]⟩, .slice A' 0 c', .slice B' 0 d']] w' fun e w'' => e = .returned (.int .i64 (-1)) ∧ Aw w P XP M3 M4 X3 X4 m3 m4 x3 x4 N P3 P4 p3 p4 w'') := Lib.hid (fun w' h A B c d A' B' c' d' => (compare_exa _ _ _ _ _ _ _ _ w').mono fun _ _ g => ⟨g.1, h.out.stays g.2⟩)
    have k12 : Hid (∀ w', Hid (Aw w P XP M3 M4 X3 X4 m3 m4 x3 x4 N P3 P4 p3 p4 w') → Calls Tryz.prog 12 #[.agg #[.int .i64 9, .int .i64 0, .string ⟨#[]⟩, .slice none 0 0, .slice none 0 0]] w' fun e w'' => e = .returned (.int .i64 1) ∧ Aw w P XP M3 M4 X3 X4 m3 m4 x3 x4 N P3 P4 p3 p4 w'') := Lib.hid (fun w' h => (check_ex9 w' (h.out.q.fx FX.out)).mono fun _ _ g => ⟨g.1, h.out.stays g.2⟩)
    have H3q := Lib.hid H3.out.q
    clear cNu cF cPut AM6 BM6 Q6 BX hXP hw6
    go_wp2_with fail
    refine Go.wp_region_held_drew (S := (fun w' => Hid (Aw w P XP M3 M4 X3 X4 m3 m4 x3 x4 N P3 P4 p3 p4 w') ∧ w'.cell? ⟨P, 0, none⟩ = some (.int .i64 5) ∧ w'.cell? ⟨P, 1, none⟩ = some (.int .i64 0) ∧ w'.cell? ⟨P, 2, none⟩ = some (.string ⟨#[]⟩) ∧ w'.cell? ⟨P, 3, none⟩ = some (.slice M3 2 m3) ∧ w'.cell? ⟨P, 4, none⟩ = some (.slice M4 2 m4) ∧ w'.cell? ⟨XP, 0, none⟩ = some (.int .i64 2) ∧ w'.cell? ⟨XP, 1, none⟩ = some (.int .i64 1) ∧ w'.cell? ⟨XP, 2, none⟩ = some (.string ⟨#[]⟩) ∧ w'.cell? ⟨XP, 3, none⟩ = some (.slice X3 0 x3) ∧ w'.cell? ⟨XP, 4, none⟩ = some (.slice X4 0 x4) ∧ w'.cell? ⟨N, 0, none⟩ = some (.int .i64 5) ∧ w'.cell? ⟨N, 1, none⟩ = some (.int .i64 0) ∧ w'.cell? ⟨N, 2, none⟩ = some (.string ⟨#[]⟩) ∧ w'.cell? ⟨N, 3, none⟩ = some (.slice P3 2 p3) ∧ w'.cell? ⟨N, 4, none⟩ = some (.slice P4 2 p4))) (by kernel_rfl) (Aw.seen (H3.out.stays (Q.drewN _ 1))) (fun hHeld => ?_)
    refine Go.wpAnyH_take (i := 0) (oi := _) (v := ?_) rfl (by kernel_rfl) (by kernel_rfl) (by kernel_rfl) (fun _ _ _ h => h) (Or.inl ⟨by rfl, ?_⟩) (by assumption) ?_
    rotate_left 1
    · intro wx hSw
      go_simp <;> with_reducible rfl
    simp only [Act.put, List.getElem_toArray, List.getElem_cons_zero, List.setIfInBounds_toArray, List.set_cons_zero, List.set_cons_succ]
    refine Go.wpAnyH_take (i := 1) (oi := _) (v := ?_) rfl (by kernel_rfl) (by kernel_rfl) (by kernel_rfl) (fun _ _ _ h => h) (Or.inl ⟨by rfl, ?_⟩) (by assumption) ?_
    rotate_left 1
    · intro wx hSw
      go_simp <;> with_reducible rfl
    simp only [Act.put, List.getElem_toArray, List.getElem_cons_zero, List.getElem_cons_succ, List.setIfInBounds_toArray, List.set_cons_zero, List.set_cons_succ]
    refine Go.wpAnyH_take (i := 2) (oi := _) (v := ?_) rfl (by kernel_rfl) (by kernel_rfl) (by kernel_rfl) (fun _ _ _ h => h) (Or.inl ⟨by rfl, ?_⟩) (by assumption) ?_
    rotate_left 1
    · intro wx hSw
      go_simp <;> with_reducible rfl
    simp only [Act.put, List.getElem_toArray, List.getElem_cons_zero, List.getElem_cons_succ, List.setIfInBounds_toArray, List.set_cons_zero, List.set_cons_succ]
    refine Go.wpAnyH_take (i := 3) (oi := _) (v := ?_) rfl (by kernel_rfl) (by kernel_rfl) (by kernel_rfl) (fun _ _ _ h => h) (Or.inl ⟨by rfl, ?_⟩) (by assumption) ?_
    rotate_left 1
    · intro wx hSw
      go_simp <;> with_reducible rfl
    simp only [Act.put, List.getElem_toArray, List.getElem_cons_zero, List.getElem_cons_succ, List.setIfInBounds_toArray, List.set_cons_zero, List.set_cons_succ]
    refine Go.wpAnyH_ready (rs := [4]) (by kernel_rfl) (by simp) ?_
    refine Go.AllReadyH.cons rfl (fun K hK => ?_) Go.AllReadyH.nil
    rw [if_pos (by rfl)]
    go_simp
    refine (k1.out _ hHeld.1).mono ?_
    rintro e v4 ⟨rfl, h4⟩
    refine hK.out _ _ (Aw.seen h4) (fun hHeld => ?_)
    clear hK K
    refine Go.wpAnyH_take (i := 5) (oi := _) (v := ?_) rfl (by kernel_rfl) (by kernel_rfl) (by kernel_rfl) (fun _ _ _ h => h) (Or.inl ⟨by rfl, ?_⟩) (by assumption) ?_
    rotate_left 1
    · intro wx hSw
      go_simp <;> with_reducible rfl
    simp only [Act.put, List.getElem_toArray, List.getElem_cons_zero, List.getElem_cons_succ, List.setIfInBounds_toArray, List.set_cons_zero, List.set_cons_succ]
    refine Go.wpAnyH_take (i := 6) (oi := _) (v := ?_) rfl (by kernel_rfl) (by kernel_rfl) (by kernel_rfl) (fun _ _ _ h => h) (Or.inl ⟨by rfl, ?_⟩) (by assumption) ?_
    rotate_left 1
    · intro wx hSw
      go_simp <;> with_reducible rfl
    simp only [Act.put, List.getElem_toArray, List.getElem_cons_zero, List.getElem_cons_succ, List.setIfInBounds_toArray, List.set_cons_zero, List.set_cons_succ]
    refine Go.wpAnyH_take (i := 7) (oi := _) (v := ?_) rfl (by kernel_rfl) (by kernel_rfl) (by kernel_rfl) (fun _ _ _ h => h) (Or.inl ⟨by rfl, ?_⟩) (by assumption) ?_
    rotate_left 1
    · intro wx hSw
      go_simp <;> with_reducible rfl
    simp only [Act.put, List.getElem_toArray, List.getElem_cons_zero, List.getElem_cons_succ, List.setIfInBounds_toArray, List.set_cons_zero, List.set_cons_succ]
    refine Go.wpAnyH_take (i := 8) (oi := _) (v := ?_) rfl (by kernel_rfl) (by kernel_rfl) (by kernel_rfl) (fun _ _ _ h => h) (Or.inl ⟨by rfl, ?_⟩) (by assumption) ?_
    rotate_left 1
    · intro wx hSw
      go_simp <;> with_reducible rfl
    simp only [Act.put, List.getElem_toArray, List.getElem_cons_zero, List.getElem_cons_succ, List.setIfInBounds_toArray, List.set_cons_zero, List.set_cons_succ]
    refine Go.wpAnyH_take (i := 9) (oi := _) (v := ?_) rfl (by kernel_rfl) (by kernel_rfl) (by kernel_rfl) (fun _ _ _ h => h) (Or.inl ⟨by rfl, ?_⟩) (by assumption) ?_
    rotate_left 1
    · intro wx hSw
      go_simp <;> with_reducible rfl
    simp only [Act.put, List.getElem_toArray, List.getElem_cons_zero, List.getElem_cons_succ, List.setIfInBounds_toArray, List.set_cons_zero, List.set_cons_succ]
    refine Go.wpAnyH_take (i := 10) (oi := _) (v := ?_) rfl (by kernel_rfl) (by kernel_rfl) (by kernel_rfl) (fun _ _ _ h => h) (Or.inl ⟨by rfl, ?_⟩) (by assumption) ?_
    rotate_left 1
    · intro wx hSw
      go_simp <;> with_reducible rfl
    simp only [Act.put, List.getElem_toArray, List.getElem_cons_zero, List.getElem_cons_succ, List.setIfInBounds_toArray, List.set_cons_zero, List.set_cons_succ]
    refine Go.wpAnyH_take (i := 11) (oi := _) (v := ?_) rfl (by kernel_rfl) (by kernel_rfl) (by kernel_rfl) (fun _ _ _ h => h) (Or.inl ⟨by rfl, ?_⟩) (by assumption) ?_
    rotate_left 1
    · intro wx hSw
      go_simp <;> with_reducible rfl
    simp only [Act.put, List.getElem_toArray, List.getElem_cons_zero, List.getElem_cons_succ, List.setIfInBounds_toArray, List.set_cons_zero, List.set_cons_succ]
    refine Go.wpAnyH_ready (rs := [12]) (by kernel_rfl) (by simp) ?_
    refine Go.AllReadyH.cons rfl (fun K hK => ?_) Go.AllReadyH.nil
    rw [if_pos (by rfl)]
    go_simp
    refine (k2.out _ hHeld.1).mono ?_
    rintro e v12 ⟨Y3, y3, Y4, y4, rfl, h12⟩
    refine hK.out _ _ (Aw.seen h12) (fun hHeld => ?_)
    clear hK K
    refine Go.wpAnyH_ready (rs := [13]) (by kernel_rfl) (by simp) ?_
    refine Go.AllReadyH.cons rfl (fun K hK => ?_) Go.AllReadyH.nil
    rw [if_pos (by rfl)]
    go_simp
    refine (k3.out _ hHeld.1 Y3 Y4 y3 y4).mono ?_
    rintro e v13 ⟨rfl, h13⟩
    refine hK.out _ _ (Aw.seen h13) (fun hHeld => ?_)
    clear hK K
    refine Go.wpAnyH_take (i := 14) (oi := _) (v := ?_) rfl (by kernel_rfl) (by kernel_rfl) (by kernel_rfl) (fun _ _ _ h => h) (Or.inl ⟨by rfl, ?_⟩) (by assumption) ?_
    rotate_left 1
    · intro wx hSw
      go_simp <;> with_reducible rfl
    simp only [Act.put, List.getElem_toArray, List.getElem_cons_zero, List.getElem_cons_succ, List.setIfInBounds_toArray, List.set_cons_zero, List.set_cons_succ]
    refine Go.wpAnyH_take (i := 15) (oi := _) (v := ?_) rfl (by kernel_rfl) (by kernel_rfl) (by kernel_rfl) (fun _ _ _ h => h) (Or.inl ⟨by rfl, ?_⟩) (by assumption) ?_
    rotate_left 1
    · intro wx hSw
      go_simp <;> with_reducible rfl
    simp only [Act.put, List.getElem_toArray, List.getElem_cons_zero, List.getElem_cons_succ, List.setIfInBounds_toArray, List.set_cons_zero, List.set_cons_succ]
    refine Go.wpAnyH_take (i := 16) (oi := _) (v := ?_) rfl (by kernel_rfl) (by kernel_rfl) (by kernel_rfl) (fun _ _ _ h => h) (Or.inl ⟨by rfl, ?_⟩) (by assumption) ?_
    rotate_left 1
    · intro wx hSw
      go_simp <;> with_reducible rfl
    simp only [Act.put, List.getElem_toArray, List.getElem_cons_zero, List.getElem_cons_succ, List.setIfInBounds_toArray, List.set_cons_zero, List.set_cons_succ]
    refine Go.wpAnyH_ready (rs := [17]) (by kernel_rfl) (by simp) ?_
    refine Go.AllReadyH.cons rfl (fun K hK => ?_) Go.AllReadyH.nil
    rw [if_pos (by rfl)]
    go_simp
    refine (k4.out _ hHeld.1).mono ?_
    rintro e v17 ⟨rfl, h17⟩
    refine hK.out _ _ (Aw.seen h17) (fun hHeld => ?_)
    clear hK K
    refine Go.wpAnyH_take (i := 18) (oi := _) (v := ?_) rfl (by kernel_rfl) (by kernel_rfl) (by kernel_rfl) (fun _ _ _ h => h) (Or.inl ⟨by rfl, ?_⟩) (by assumption) ?_
    rotate_left 1
    · intro wx hSw
      go_simp <;> with_reducible rfl
    simp only [Act.put, List.getElem_toArray, List.getElem_cons_zero, List.getElem_cons_succ, List.setIfInBounds_toArray, List.set_cons_zero, List.set_cons_succ]
    refine Go.wpAnyH_take (i := 19) (oi := _) (v := ?_) rfl (by kernel_rfl) (by kernel_rfl) (by kernel_rfl) (fun _ _ _ h => h) (Or.inl ⟨by rfl, ?_⟩) (by assumption) ?_
    rotate_left 1
    · intro wx hSw
      go_simp <;> with_reducible rfl
    simp only [Act.put, List.getElem_toArray, List.getElem_cons_zero, List.getElem_cons_succ, List.setIfInBounds_toArray, List.set_cons_zero, List.set_cons_succ]
    refine Go.wpAnyH_take (i := 20) (oi := _) (v := ?_) rfl (by kernel_rfl) (by kernel_rfl) (by kernel_rfl) (fun _ _ _ h => h) (Or.inl ⟨by rfl, ?_⟩) (by assumption) ?_
    rotate_left 1
    · intro wx hSw
      go_simp <;> with_reducible rfl
    simp only [Act.put, List.getElem_toArray, List.getElem_cons_zero, List.getElem_cons_succ, List.setIfInBounds_toArray, List.set_cons_zero, List.set_cons_succ]
    refine Go.wpAnyH_take (i := 21) (oi := _) (v := ?_) rfl (by kernel_rfl) (by kernel_rfl) (by kernel_rfl) (fun _ _ _ h => h) (Or.inl ⟨by rfl, ?_⟩) (by assumption) ?_
    rotate_left 1
    · intro wx hSw
      go_simp <;> with_reducible rfl
    simp only [Act.put, List.getElem_toArray, List.getElem_cons_zero, List.getElem_cons_succ, List.setIfInBounds_toArray, List.set_cons_zero, List.set_cons_succ]
    refine Go.wpAnyH_ready (rs := [22]) (by kernel_rfl) (by simp) ?_
    refine Go.AllReadyH.cons rfl (fun K hK => ?_) Go.AllReadyH.nil
    rw [if_pos (by rfl)]
    go_simp
    refine (k5.out _ hHeld.1).mono ?_
    rintro e v22 ⟨rfl, h22⟩
    refine hK.out _ _ (Aw.seen h22) (fun hHeld => ?_)
    clear hK K
    refine Go.wpAnyH_take (i := 23) (oi := _) (v := ?_) rfl (by kernel_rfl) (by kernel_rfl) (by kernel_rfl) (fun _ _ _ h => h) (Or.inl ⟨by rfl, ?_⟩) (by assumption) ?_
    rotate_left 1
    · intro wx hSw
      go_simp <;> with_reducible rfl
    simp only [Act.put, List.getElem_toArray, List.getElem_cons_zero, List.getElem_cons_succ, List.setIfInBounds_toArray, List.set_cons_zero, List.set_cons_succ]
    refine Go.wpAnyH_take (i := 24) (oi := _) (v := ?_) rfl (by kernel_rfl) (by kernel_rfl) (by kernel_rfl) (fun _ _ _ h => h) (Or.inl ⟨by rfl, ?_⟩) (by assumption) ?_
    rotate_left 1
    · intro wx hSw
      go_simp <;> with_reducible rfl
    simp only [Act.put, List.getElem_toArray, List.getElem_cons_zero, List.getElem_cons_succ, List.setIfInBounds_toArray, List.set_cons_zero, List.set_cons_succ]
    refine Go.wpAnyH_take (i := 25) (oi := _) (v := ?_) rfl (by kernel_rfl) (by kernel_rfl) (by kernel_rfl) (fun _ _ _ h => h) (Or.inl ⟨by rfl, ?_⟩) (by assumption) ?_
    rotate_left 1
    · intro wx hSw
      go_simp <;> with_reducible rfl
    simp only [Act.put, List.getElem_toArray, List.getElem_cons_zero, List.getElem_cons_succ, List.setIfInBounds_toArray, List.set_cons_zero, List.set_cons_succ]
    refine Go.wpAnyH_take (i := 26) (oi := _) (v := ?_) rfl (by kernel_rfl) (by kernel_rfl) (by kernel_rfl) (fun _ _ _ h => h) (Or.inl ⟨by rfl, ?_⟩) (by assumption) ?_
    rotate_left 1
    · intro wx hSw
      go_simp <;> with_reducible rfl
    simp only [Act.put, List.getElem_toArray, List.getElem_cons_zero, List.getElem_cons_succ, List.setIfInBounds_toArray, List.set_cons_zero, List.set_cons_succ]
    refine Go.wpAnyH_ready (rs := [27]) (by kernel_rfl) (by simp) ?_
    refine Go.AllReadyH.cons rfl (fun K hK => ?_) Go.AllReadyH.nil
    rw [if_pos (by rfl)]
    go_simp
    refine (k6.out _ hHeld.1).mono ?_
    rintro e v27 ⟨rfl, h27⟩
    refine hK.out _ _ (Aw.seen h27) (fun hHeld => ?_)
    clear hK K
    refine Go.wpAnyH_take (i := 28) (oi := _) (v := ?_) rfl (by kernel_rfl) (by kernel_rfl) (by kernel_rfl) (fun _ _ _ h => h) (Or.inl ⟨by rfl, ?_⟩) (by assumption) ?_
    rotate_left 1
    · intro wx hSw
      go_simp <;> with_reducible rfl
    simp only [Act.put, List.getElem_toArray, List.getElem_cons_zero, List.getElem_cons_succ, List.setIfInBounds_toArray, List.set_cons_zero, List.set_cons_succ]
    refine Go.wpAnyH_take (i := 29) (oi := _) (v := ?_) rfl (by kernel_rfl) (by kernel_rfl) (by kernel_rfl) (fun _ _ _ h => h) (Or.inl ⟨by rfl, ?_⟩) (by assumption) ?_
    rotate_left 1
    · intro wx hSw
      go_simp <;> with_reducible rfl
    simp only [Act.put, List.getElem_toArray, List.getElem_cons_zero, List.getElem_cons_succ, List.setIfInBounds_toArray, List.set_cons_zero, List.set_cons_succ]
    refine Go.wpAnyH_take (i := 30) (oi := _) (v := ?_) rfl (by kernel_rfl) (by kernel_rfl) (by kernel_rfl) (fun _ _ _ h => h) (Or.inl ⟨by rfl, ?_⟩) (by assumption) ?_
    rotate_left 1
    · intro wx hSw
      go_simp <;> with_reducible rfl
    simp only [Act.put, List.getElem_toArray, List.getElem_cons_zero, List.getElem_cons_succ, List.setIfInBounds_toArray, List.set_cons_zero, List.set_cons_succ]
    refine Go.wpAnyH_take (i := 31) (oi := _) (v := ?_) rfl (by kernel_rfl) (by kernel_rfl) (by kernel_rfl) (fun _ _ _ h => h) (Or.inl ⟨by rfl, ?_⟩) (by assumption) ?_
    rotate_left 1
    · intro wx hSw
      go_simp <;> with_reducible rfl
    simp only [Act.put, List.getElem_toArray, List.getElem_cons_zero, List.getElem_cons_succ, List.setIfInBounds_toArray, List.set_cons_zero, List.set_cons_succ]
    refine Go.wpAnyH_ready (rs := [32]) (by kernel_rfl) (by simp) ?_
    refine Go.AllReadyH.cons rfl (fun K hK => ?_) Go.AllReadyH.nil
    rw [if_pos (by rfl)]
    go_simp
    refine (k7.out _ hHeld.1).mono ?_
    rintro e v32 ⟨rfl, h32⟩
    refine hK.out _ _ (Aw.seen h32) (fun hHeld => ?_)
    clear hK K
    refine Go.wpAnyH_take (i := 33) (oi := _) (v := ?_) rfl (by kernel_rfl) (by kernel_rfl) (by kernel_rfl) (fun _ _ _ h => h) (Or.inl ⟨by rfl, ?_⟩) (by assumption) ?_
    rotate_left 1
    · intro wx hSw
      go_simp <;> with_reducible rfl
    simp only [Act.put, List.getElem_toArray, List.getElem_cons_zero, List.getElem_cons_succ, List.setIfInBounds_toArray, List.set_cons_zero, List.set_cons_succ]
    refine Go.wpAnyH_take (i := 34) (oi := _) (v := ?_) rfl (by kernel_rfl) (by kernel_rfl) (by kernel_rfl) (fun _ _ _ h => h) (Or.inl ⟨by rfl, ?_⟩) (by assumption) ?_
    rotate_left 1
    · intro wx hSw
      go_simp <;> with_reducible rfl
    simp only [Act.put, List.getElem_toArray, List.getElem_cons_zero, List.getElem_cons_succ, List.setIfInBounds_toArray, List.set_cons_zero, List.set_cons_succ]
    refine Go.wpAnyH_take (i := 35) (oi := _) (v := ?_) rfl (by kernel_rfl) (by kernel_rfl) (by kernel_rfl) (fun _ _ _ h => h) (Or.inl ⟨by rfl, ?_⟩) (by assumption) ?_
    rotate_left 1
    · intro wx hSw
      go_simp <;> with_reducible rfl
    simp only [Act.put, List.getElem_toArray, List.getElem_cons_zero, List.getElem_cons_succ, List.setIfInBounds_toArray, List.set_cons_zero, List.set_cons_succ]
    refine Go.wpAnyH_take (i := 36) (oi := _) (v := ?_) rfl (by kernel_rfl) (by kernel_rfl) (by kernel_rfl) (fun _ _ _ h => h) (Or.inl ⟨by rfl, ?_⟩) (by assumption) ?_
    rotate_left 1
    · intro wx hSw
      go_simp <;> with_reducible rfl
    simp only [Act.put, List.getElem_toArray, List.getElem_cons_zero, List.getElem_cons_succ, List.setIfInBounds_toArray, List.set_cons_zero, List.set_cons_succ]
    refine Go.wpAnyH_ready (rs := [37]) (by kernel_rfl) (by simp) ?_
    refine Go.AllReadyH.cons rfl (fun K hK => ?_) Go.AllReadyH.nil
    rw [if_pos (by rfl)]
    go_simp
    refine (k8.out _ hHeld.1).mono ?_
    rintro e v37 ⟨rfl, h37⟩
    refine hK.out _ _ (Aw.seen h37) (fun hHeld => ?_)
    clear hK K
    refine Go.wpAnyH_take (i := 38) (oi := _) (v := ?_) rfl (by kernel_rfl) (by kernel_rfl) (by kernel_rfl) (fun _ _ _ h => h) (Or.inl ⟨by rfl, ?_⟩) (by assumption) ?_
    rotate_left 1
    · intro wx hSw
      go_simp <;> with_reducible rfl
    simp only [Act.put, List.getElem_toArray, List.getElem_cons_zero, List.getElem_cons_succ, List.setIfInBounds_toArray, List.set_cons_zero, List.set_cons_succ]
    refine Go.wpAnyH_take (i := 39) (oi := _) (v := ?_) rfl (by kernel_rfl) (by kernel_rfl) (by kernel_rfl) (fun _ _ _ h => h) (Or.inl ⟨by rfl, ?_⟩) (by assumption) ?_
    rotate_left 1
    · intro wx hSw
      go_simp <;> with_reducible rfl
    simp only [Act.put, List.getElem_toArray, List.getElem_cons_zero, List.getElem_cons_succ, List.setIfInBounds_toArray, List.set_cons_zero, List.set_cons_succ]
    refine Go.wpAnyH_take (i := 40) (oi := _) (v := ?_) rfl (by kernel_rfl) (by kernel_rfl) (by kernel_rfl) (fun _ _ _ h => h) (Or.inl ⟨by rfl, ?_⟩) (by assumption) ?_
    rotate_left 1
    · intro wx hSw
      go_simp <;> with_reducible rfl
    simp only [Act.put, List.getElem_toArray, List.getElem_cons_zero, List.getElem_cons_succ, List.setIfInBounds_toArray, List.set_cons_zero, List.set_cons_succ]
    refine Go.wpAnyH_ready (rs := [41]) (by kernel_rfl) (by simp) ?_
    refine Go.AllReadyH.cons rfl (fun K hK => ?_) Go.AllReadyH.nil
    rw [if_pos (by rfl)]
    go_simp
    refine (k9.out _ hHeld.1).mono ?_
    rintro e v41 ⟨Z3, z3, Z4, z4, rfl, h41⟩
    refine hK.out _ _ (Aw.seen h41) (fun hHeld => ?_)
    clear hK K
    refine Go.wpAnyH_ready (rs := [42]) (by kernel_rfl) (by simp) ?_
    refine Go.AllReadyH.cons rfl (fun K hK => ?_) Go.AllReadyH.nil
    rw [if_pos (by rfl)]
    go_simp
    refine (k10.out _ hHeld.1).mono ?_
    rintro e v42 ⟨U3, u3, U4, u4, rfl, h42⟩
    refine hK.out _ _ (Aw.seen h42) (fun hHeld => ?_)
    clear hK K
    refine Go.wpAnyH_ready (rs := [43]) (by kernel_rfl) (by simp) ?_
    refine Go.AllReadyH.cons rfl (fun K hK => ?_) Go.AllReadyH.nil
    rw [if_pos (by rfl)]
    go_simp
    refine (k11.out _ hHeld.1 Z3 Z4 z3 z4 U3 U4 u3 u4).mono ?_
    rintro e v43 ⟨rfl, h43⟩
    refine hK.out _ _ (Aw.seen h43) (fun hHeld => ?_)
    clear hK K
    refine Go.wpAnyH_take (i := 44) (oi := _) (v := ?_) rfl (by kernel_rfl) (by kernel_rfl) (by kernel_rfl) (fun _ _ _ h => h) (Or.inl ⟨by rfl, ?_⟩) (by assumption) ?_
    rotate_left 1
    · intro wx hSw
      go_simp <;> with_reducible rfl
    simp only [Act.put, List.getElem_toArray, List.getElem_cons_zero, List.getElem_cons_succ, List.setIfInBounds_toArray, List.set_cons_zero, List.set_cons_succ]
    refine Go.wpAnyH_take (i := 45) (oi := _) (v := ?_) rfl (by kernel_rfl) (by kernel_rfl) (by kernel_rfl) (fun _ _ _ h => h) (Or.inl ⟨by rfl, ?_⟩) (by assumption) ?_
    rotate_left 1
    · intro wx hSw
      go_simp <;> with_reducible rfl
    simp only [Act.put, List.getElem_toArray, List.getElem_cons_zero, List.getElem_cons_succ, List.setIfInBounds_toArray, List.set_cons_zero, List.set_cons_succ]
    refine Go.wpAnyH_take (i := 46) (oi := _) (v := ?_) rfl (by kernel_rfl) (by kernel_rfl) (by kernel_rfl) (fun _ _ _ h => h) (Or.inl ⟨by rfl, ?_⟩) (by assumption) ?_
    rotate_left 1
    · intro wx hSw
      go_simp <;> with_reducible rfl
    simp only [Act.put, List.getElem_toArray, List.getElem_cons_zero, List.getElem_cons_succ, List.setIfInBounds_toArray, List.set_cons_zero, List.set_cons_succ]
    refine Go.wpAnyH_take (i := 47) (oi := _) (v := ?_) rfl (by kernel_rfl) (by kernel_rfl) (by kernel_rfl) (fun _ _ _ h => h) (Or.inl ⟨by rfl, ?_⟩) (by assumption) ?_
    rotate_left 1
    · intro wx hSw
      go_simp <;> with_reducible rfl
    simp only [Act.put, List.getElem_toArray, List.getElem_cons_zero, List.getElem_cons_succ, List.setIfInBounds_toArray, List.set_cons_zero, List.set_cons_succ]
    refine Go.wpAnyH_ready (rs := [48]) (by kernel_rfl) (by simp) ?_
    refine Go.AllReadyH.cons rfl (fun K hK => ?_) Go.AllReadyH.nil
    rw [if_pos (by rfl)]
    go_simp
    refine (k12.out _ hHeld.1).mono ?_
    rintro e v48 ⟨rfl, h48⟩
    refine hK.out _ _ (Aw.seen h48) (fun hHeld => ?_)
    clear hK K
    refine Go.wpAnyH_take (i := 49) (oi := _) (v := ?_) rfl (by kernel_rfl) (by kernel_rfl) (by kernel_rfl) (fun _ _ _ h => h) (Or.inl ⟨by rfl, ?_⟩) (by assumption) ?_
    rotate_left 1
    · intro wx hSw
      go_simp <;> with_reducible rfl
    simp only [Act.put, List.getElem_toArray, List.getElem_cons_zero, List.getElem_cons_succ, List.setIfInBounds_toArray, List.set_cons_zero, List.set_cons_succ]
    refine Go.wpAnyH_take (i := 50) (oi := _) (v := ?_) rfl (by kernel_rfl) (by kernel_rfl) (by kernel_rfl) (fun _ _ _ h => h) (Or.inl ⟨by rfl, ?_⟩) (by assumption) ?_
    rotate_left 1
    · intro wx hSw
      go_simp <;> with_reducible rfl
    simp only [Act.put, List.getElem_toArray, List.getElem_cons_zero, List.getElem_cons_succ, List.setIfInBounds_toArray, List.set_cons_zero, List.set_cons_succ]
    refine Go.wpAnyH_take (i := 51) (oi := _) (v := ?_) rfl (by kernel_rfl) (by kernel_rfl) (by kernel_rfl) (fun _ _ _ h => h) (Or.inl ⟨by rfl, ?_⟩) (by assumption) ?_
    rotate_left 1
    · intro wx hSw
      go_simp <;> with_reducible rfl
    simp only [Act.put, List.getElem_toArray, List.getElem_cons_zero, List.getElem_cons_succ, List.setIfInBounds_toArray, List.set_cons_zero]
    refine Go.wpAnyH_done (by kernel_rfl) ?_ _
    go_wp2_with fail
    go_ret
    exact ⟨rfl, hHeld.1.out.q⟩

end Go.Proofs.YtjmchjphdfbhiaaGreatDoor.val
