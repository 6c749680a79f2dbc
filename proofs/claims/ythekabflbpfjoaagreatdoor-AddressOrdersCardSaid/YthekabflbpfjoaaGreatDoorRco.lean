/- The reference's Compare. -/
import Derived.Test.YthekabflbpfjoaaGreatDoorAcg
namespace Go.Proofs.YthekabflbpfjoaaGreatDoor.adr
open Go.RowKit
open Go.Proofs.YthekabflbpfjoaaGreatDoor

set_option maxRecDepth 100000 in
set_option maxHeartbeats 16000000 in
theorem refCompare_any (A A' : Option Addr) (n n' c c' : Nat) (ms ps : List St) (r q : Rs) (w : World) (hn : n = ms.length) (hn' : n' = ps.length) (hI : In A ms w) (hI' : In A' ps w) (hl : n ≤ 1000) :
    Calls Tryz.prog 21 #[rv (.slice A n c) r, rv (.slice A' n' c') q] w fun e w' => e = .returned (.int .i64 (cA ms ps r q)) ∧ Q w w' := by
  have HN := Lib.hid hn
  have HN' := Lib.hid hn'
  have HI := Lib.hid hI
  have HI' := Lib.hid hI'
  have hl2 : Hid (n ≤ 1000) := Lib.hid hl
  clear hI hI' hn hn' hl
  obtain ⟨d, ty, nm, kd, m, t⟩ := r
  obtain ⟨d', ty', nm', kd', m', t'⟩ := q
  unfold rv
  simp only at *
  obtain ⟨ANS, hA⟩ : ∃ z, cA ms ps ⟨d, ty, nm, kd, m, t⟩ ⟨d', ty', nm', kd', m', t'⟩ = z := ⟨_, rfl⟩
  rw [hA]
  have HA : Hid ((if cL cSt (ms.drop 0) (ps.drop 0) = 0 then cRs ⟨d, ty, nm, kd, m, t⟩ ⟨d', ty', nm', kd', m', t'⟩ else cL cSt (ms.drop 0) (ps.drop 0)) = ANS) := Lib.hid hA
  clear hA
  go_enter Tryz.func21, Tryz.ntmps21
  go_wp2_with fail
  have LN := Lib.hid (L2.new A A' n n' c c' d d' ty nm ty' nm' kd m kd' m' t t' w)
  generalize (w.alloc (.cells #[.slice A n c, .bool d, .string ty, .string nm, .int .i64 kd, .int .i64 m, .string t] 27)).alloc (.cells #[.slice A' n' c', .bool d', .string ty', .string nm', .int .i64 kd', .int .i64 m', .string t'] 27) = w1 at *
  go_loopw [5] (fun i wr => ∃ k : Nat, k ≤ n ∧ k ≤ n' ∧ i = .int .i64 k ∧ Hid (L2 w.heap.size (w.heap.size + 1) A A' n n' c c' d d' ty nm ty' nm' kd m kd' m' t t' w wr) ∧ Hid ((if cL cSt (ms.drop k) (ps.drop k) = 0 then cRs ⟨d, ty, nm, kd, m, t⟩ ⟨d', ty', nm', kd', m', t'⟩ else cL cSt (ms.drop k) (ps.drop k)) = ANS)) (fun i _ => n - (intOf i).toNat)
  case atStart => exact ⟨0, Nat.zero_le _, Nat.zero_le _, rfl, LN, HA⟩
  case round =>
    clear LN HA
    obtain ⟨k, hk, hk', rfl, LL, HZ⟩ := hrel
    by_cases hlt : k < n ∧ k < n'
    · have hlt1 : k < ms.length := by rw [← HN.out]; exact hlt.1
      have hlt2 : k < ps.length := by rw [← HN'.out]; exact hlt.2
      obtain ⟨b, o, rfl, hb, hcc⟩ := (HI.out.stays LL.out.1) (by intro e; rw [e] at hlt1; cases hlt1)
      obtain ⟨g0, g1, g2, g3⟩ := hcc k hlt1
      obtain ⟨b', o', rfl, hb', hcc'⟩ := (HI'.out.stays LL.out.1) (by intro e; rw [e] at hlt2; cases hlt2)
      obtain ⟨g0', g1', g2', g3'⟩ := hcc' k hlt2
      have f0 : (0 : Int) ≤ (k : Int) := by omega
      have f1 : (k : Int) < (n : Int) := by omega
      have f2 : (k : Int) < (n' : Int) := by omega
      have hz := HZ.out
      rw [cL_drop cSt ms ps k hlt1 hlt2] at hz
      have HY := Lib.hid hz
      clear hcc hcc' HI HI' hk hk' hz HZ hlt
      generalize ms[k] = x at *
      generalize ps[k] = y at *
      obtain ⟨xn, xk, xm, xt⟩ := x
      obtain ⟨yn, yk, ym, yt⟩ := y
      simp only at g0 g1 g2 g3 g0' g1' g2' g3'
      have l0 := LL.out.2.1.at 0 (.slice (some ⟨b, o, none⟩) n c) rfl
      have l0' := LL.out.2.2.at 0 (.slice (some ⟨b', o', none⟩) n' c') rfl
      go_wp2_with fail
      have sees : Hid (∀ w', Hid (Q wr w') → (Hid (Q wr w') ∧ w'.cell? ⟨w.heap.size, 0, none⟩ = some (.slice (some ⟨b, o, none⟩) n c) ∧ w'.cell? ⟨b, o + k * 4, none⟩ = some (.string xn) ∧ w'.cell? ⟨b, o + k * 4 + 1, none⟩ = some (.int .i64 xk) ∧ w'.cell? ⟨b, o + k * 4 + 2, none⟩ = some (.int .i64 xm) ∧ w'.cell? ⟨b, o + k * 4 + 3, none⟩ = some (.string xt) ∧ w'.cell? ⟨w.heap.size + 1, 0, none⟩ = some (.slice (some ⟨b', o', none⟩) n' c') ∧ w'.cell? ⟨b', o' + k * 4, none⟩ = some (.string yn) ∧ w'.cell? ⟨b', o' + k * 4 + 1, none⟩ = some (.int .i64 yk) ∧ w'.cell? ⟨b', o' + k * 4 + 2, none⟩ = some (.int .i64 ym) ∧ w'.cell? ⟨b', o' + k * 4 + 3, none⟩ = some (.string yt))) := Lib.hid (fun w' h => by
        have hw0 : w.heap.size < wr.heap.size := LL.out.2.1.lt
        have hw1 : w.heap.size + 1 < wr.heap.size := LL.out.2.2.lt
        exact ⟨h, (Below.cell h.out (p := ⟨w.heap.size, 0, none⟩) hw0).trans l0, (Below.cell h.out (p := ⟨b, o + k * 4, none⟩) hb).trans g0, (Below.cell h.out (p := ⟨b, o + k * 4 + 1, none⟩) hb).trans g1, (Below.cell h.out (p := ⟨b, o + k * 4 + 2, none⟩) hb).trans g2, (Below.cell h.out (p := ⟨b, o + k * 4 + 3, none⟩) hb).trans g3,
          (Below.cell h.out (p := ⟨w.heap.size + 1, 0, none⟩) hw1).trans l0', (Below.cell h.out (p := ⟨b', o' + k * 4, none⟩) hb').trans g0', (Below.cell h.out (p := ⟨b', o' + k * 4 + 1, none⟩) hb').trans g1', (Below.cell h.out (p := ⟨b', o' + k * 4 + 2, none⟩) hb').trans g2', (Below.cell h.out (p := ⟨b', o' + k * 4 + 3, none⟩) hb').trans g3'⟩)
      have h0 : Hid (Q wr wr.drew) := Lib.hid (Q.drewN wr 1)
      refine Go.wp_region_held_drew (S := fun w' => Hid (Q wr w') ∧ w'.cell? ⟨w.heap.size, 0, none⟩ = some (.slice (some ⟨b, o, none⟩) n c) ∧ w'.cell? ⟨b, o + k * 4, none⟩ = some (.string xn) ∧ w'.cell? ⟨b, o + k * 4 + 1, none⟩ = some (.int .i64 xk) ∧ w'.cell? ⟨b, o + k * 4 + 2, none⟩ = some (.int .i64 xm) ∧ w'.cell? ⟨b, o + k * 4 + 3, none⟩ = some (.string xt) ∧ w'.cell? ⟨w.heap.size + 1, 0, none⟩ = some (.slice (some ⟨b', o', none⟩) n' c') ∧ w'.cell? ⟨b', o' + k * 4, none⟩ = some (.string yn) ∧ w'.cell? ⟨b', o' + k * 4 + 1, none⟩ = some (.int .i64 yk) ∧ w'.cell? ⟨b', o' + k * 4 + 2, none⟩ = some (.int .i64 ym) ∧ w'.cell? ⟨b', o' + k * 4 + 3, none⟩ = some (.string yt)) (by kernel_rfl) (sees.out _ h0) (fun hHeld => ?_)
      clear hb hb' l0 l0' g0 g1 g2 g3 g0' g1' g2' g3'
      refine Go.wpAnyH_take (i := 0) (oi := _) (v := ?_) rfl (by kernel_rfl) (by kernel_rfl) (by kernel_rfl) (fun _ _ _ h => h) (Or.inl ⟨by rfl, ?_⟩) (by assumption) ?_
      rotate_left 1
      · intro wx hSw
        go_simp <;> with_reducible rfl
      simp only [Act.put, List.getElem_toArray, List.getElem_cons_zero, List.setIfInBounds_toArray, List.set_cons_zero, List.set_cons_succ]
      refine Go.wpAnyH_take (i := 1) (oi := _) (v := ?_) rfl (by kernel_rfl) (by kernel_rfl) (by kernel_rfl) (fun _ _ _ h => h) (Or.inl ⟨by rfl, ?_⟩) (by assumption) ?_
      rotate_left 1
      · intro wx hSw
        go_simp <;> with_reducible rfl
      simp only [Act.put, List.getElem_toArray, List.getElem_cons_zero, List.getElem_cons_succ, List.setIfInBounds_toArray, List.set_cons_zero, List.set_cons_succ]
      refine Go.wpAnyH_take (i := 2) (oi := _) (v := ?_) rfl (by kernel_rfl) (by kernel_rfl) (by kernel_rfl) (fun _ _ _ h => h) (Or.inl ⟨by rfl, ?_⟩) (by assumption) ?_
      rotate_left 1
      · intro wx hSw
        go_simp <;> with_reducible rfl
      simp only [Act.put, List.getElem_toArray, List.getElem_cons_zero, List.getElem_cons_succ, List.setIfInBounds_toArray, List.set_cons_zero, List.set_cons_succ]
      refine Go.wpAnyH_take (i := 3) (oi := _) (v := ?_) rfl (by kernel_rfl) (by kernel_rfl) (by kernel_rfl) (fun _ _ _ h => h) (Or.inl ⟨by rfl, ?_⟩) (by assumption) ?_
      rotate_left 1
      · intro wx hSw
        go_simp <;> with_reducible rfl
      simp only [Act.put, List.getElem_toArray, List.getElem_cons_zero, List.getElem_cons_succ, List.setIfInBounds_toArray, List.set_cons_zero, List.set_cons_succ]
      refine Go.wpAnyH_take (i := 4) (oi := _) (v := ?_) rfl (by kernel_rfl) (by kernel_rfl) (by kernel_rfl) (fun _ _ _ h => h) (Or.inl ⟨by rfl, ?_⟩) (by assumption) ?_
      rotate_left 1
      · intro wx hSw
        go_simp <;> with_reducible rfl
      simp only [Act.put, List.getElem_toArray, List.getElem_cons_zero, List.getElem_cons_succ, List.setIfInBounds_toArray, List.set_cons_zero, List.set_cons_succ]
      refine Go.wpAnyH_take (i := 5) (oi := _) (v := ?_) rfl (by kernel_rfl) (by kernel_rfl) (by kernel_rfl) (fun _ _ _ h => h) (Or.inl ⟨by rfl, ?_⟩) (by assumption) ?_
      rotate_left 1
      · intro wx hSw
        go_simp <;> with_reducible rfl
      simp only [Act.put, List.getElem_toArray, List.getElem_cons_zero, List.getElem_cons_succ, List.setIfInBounds_toArray, List.set_cons_zero, List.set_cons_succ]
      refine Go.wpAnyH_take (i := 6) (oi := _) (v := ?_) rfl (by kernel_rfl) (by kernel_rfl) (by kernel_rfl) (fun _ _ _ h => h) (Or.inl ⟨by rfl, ?_⟩) (by assumption) ?_
      rotate_left 1
      · intro wx hSw
        go_simp <;> with_reducible rfl
      simp only [Act.put, List.getElem_toArray, List.getElem_cons_zero, List.getElem_cons_succ, List.setIfInBounds_toArray, List.set_cons_zero, List.set_cons_succ]
      refine Go.wpAnyH_take (i := 7) (oi := _) (v := ?_) rfl (by kernel_rfl) (by kernel_rfl) (by kernel_rfl) (fun _ _ _ h => h) (Or.inl ⟨by rfl, ?_⟩) (by assumption) ?_
      rotate_left 1
      · intro wx hSw
        go_simp <;> with_reducible rfl
      simp only [Act.put, List.getElem_toArray, List.getElem_cons_zero, List.getElem_cons_succ, List.setIfInBounds_toArray, List.set_cons_zero, List.set_cons_succ]
      refine Go.wpAnyH_take (i := 8) (oi := _) (v := ?_) rfl (by kernel_rfl) (by kernel_rfl) (by kernel_rfl) (fun _ _ _ h => h) (Or.inl ⟨by rfl, ?_⟩) (by assumption) ?_
      rotate_left 1
      · intro wx hSw
        go_simp <;> with_reducible rfl
      simp only [Act.put, List.getElem_toArray, List.getElem_cons_zero, List.getElem_cons_succ, List.setIfInBounds_toArray, List.set_cons_zero, List.set_cons_succ]
      refine Go.wpAnyH_take (i := 9) (oi := _) (v := ?_) rfl (by kernel_rfl) (by kernel_rfl) (by kernel_rfl) (fun _ _ _ h => h) (Or.inl ⟨by rfl, ?_⟩) (by assumption) ?_
      rotate_left 1
      · intro wx hSw
        go_simp <;> with_reducible rfl
      simp only [Act.put, List.getElem_toArray, List.getElem_cons_zero, List.getElem_cons_succ, List.setIfInBounds_toArray, List.set_cons_zero, List.set_cons_succ]
      refine Go.wpAnyH_ready (rs := [10, 11]) (by kernel_rfl) (by simp) ?_
      refine Go.AllReadyH.cons rfl (fun Kx hK => ?_) (Go.AllReadyH.cons rfl (fun Kx hK => ?_) Go.AllReadyH.nil)
      · go_simp
        refine hK.out _ _ (sees.out _ (Lib.hid ((Q.drewN wr 1).trans (Q.alloc _ _)))) (fun hHeld => ?_)
        clear hK Kx
        try simp only [Act.put, List.getElem_toArray, List.getElem_cons_zero, List.getElem_cons_succ, List.setIfInBounds_toArray, List.set_cons_zero, List.set_cons_succ]
        refine Go.wpAnyH_ready (rs := [11]) (by kernel_rfl) (by simp) ?_
        refine Go.AllReadyH.cons rfl (fun Kx hK => ?_) Go.AllReadyH.nil
        go_simp
        refine hK.out _ _ (sees.out _ (Lib.hid (((Q.drewN wr 1).trans (Q.alloc _ _)).trans (Q.alloc _ _)))) (fun hHeld => ?_)
        clear hK Kx
        try simp only [Act.put, List.getElem_toArray, List.getElem_cons_zero, List.getElem_cons_succ, List.setIfInBounds_toArray, List.set_cons_zero, List.set_cons_succ]
        refine Go.wpAnyH_ready (rs := [12]) (by kernel_rfl) (by simp) ?_
        refine Go.AllReadyH.cons rfl (fun Kx hK => ?_) Go.AllReadyH.nil
        go_simp
        refine hK.out _ _ (sees.out _ (Lib.hid ((two_alloc _ _ _).trans (Q.drewN _ 1)))) (fun hHeld => ?_)
        clear hK Kx
        try simp only [Act.put, List.getElem_toArray, List.getElem_cons_zero, List.getElem_cons_succ, List.setIfInBounds_toArray, List.set_cons_zero, List.set_cons_succ]
        refine Go.wpAnyH_ready (rs := [13]) (by kernel_rfl) (by simp) ?_
        refine Go.AllReadyH.cons rfl (fun Kx hK => ?_) Go.AllReadyH.nil
        go_simp
        refine hK.out _ _ (sees.out _ (Lib.hid ((two_alloc _ _ _).trans (Q.drewN _ 1)))) (fun hHeld => ?_)
        clear hK Kx
        try simp only [Act.put, List.getElem_toArray, List.getElem_cons_zero, List.getElem_cons_succ, List.setIfInBounds_toArray, List.set_cons_zero, List.set_cons_succ]
        refine Go.wpAnyH_done (by kernel_rfl) ?_ _
        have L4 := Lib.hid (LL.out.stays ((two_alloc wr (.cells #[.string xn, .int .i64 xk, .int .i64 xm, .string xt] 44) (.cells #[.string yn, .int .i64 yk, .int .i64 ym, .string yt] 44)).trans (Q.drewN _ 1)))
        have C6 := Lib.hid (((Bk.new #[.string xn, .int .i64 xk, .int .i64 xm, .string xt] 44 wr).stays (Q.alloc _ (.cells #[.string yn, .int .i64 yk, .int .i64 ym, .string yt] 44))).stays (Q.drewN _ 1))
        have cc := (Bk.new #[.string yn, .int .i64 yk, .int .i64 ym, .string yt] 44 (wr.alloc (.cells #[.string xn, .int .i64 xk, .int .i64 xm, .string xt] 44))).stays (Q.drewN _ 1)
        have e8 : (wr.alloc (.cells #[.string xn, .int .i64 xk, .int .i64 xm, .string xt] 44)).heap.size = wr.heap.size + 1 := by simp
        rw [e8] at cc
        have C7 := Lib.hid cc
        clear cc e8
        replace L4 : Hid (L2 w.heap.size (w.heap.size + 1) (some ⟨b, o, none⟩) (some ⟨b', o', none⟩) n n' c c' d d' ty nm ty' nm' kd m kd' m' t t' w ((wr.alloc (.cells #[.string xn, .int .i64 xk, .int .i64 xm, .string xt] 44)).alloc (.cells #[.string yn, .int .i64 yk, .int .i64 ym, .string yt] 44)).drew) := L4
        replace C6 : Hid (Bk (wr.heap.size) #[.string xn, .int .i64 xk, .int .i64 xm, .string xt] 44 ((wr.alloc (.cells #[.string xn, .int .i64 xk, .int .i64 xm, .string xt] 44)).alloc (.cells #[.string yn, .int .i64 yk, .int .i64 ym, .string yt] 44)).drew) := C6
        replace C7 : Hid (Bk (wr.heap.size + 1) #[.string yn, .int .i64 yk, .int .i64 ym, .string yt] 44 ((wr.alloc (.cells #[.string xn, .int .i64 xk, .int .i64 xm, .string xt] 44)).alloc (.cells #[.string yn, .int .i64 yk, .int .i64 ym, .string yt] 44)).drew) := C7
        generalize ((wr.alloc (.cells #[.string xn, .int .i64 xk, .int .i64 xm, .string xt] 44)).alloc (.cells #[.string yn, .int .i64 yk, .int .i64 ym, .string yt] 44)).drew = v4 at *
        clear LL sees hHeld h0
        have c0 := C6.out.at 0 (.string xn) rfl
        have c1 := C6.out.at 1 (.int .i64 xk) rfl
        have c2 := C6.out.at 2 (.int .i64 xm) rfl
        have c3 := C6.out.at 3 (.string xt) rfl
        have e0 := C7.out.at 0 (.string yn) rfl
        have e1 := C7.out.at 1 (.int .i64 yk) rfl
        have e2 := C7.out.at 2 (.int .i64 ym) rfl
        have e3 := C7.out.at 3 (.string yt) rfl
        clear C6 C7
        cases s0 : (xn.toList == yn.toList) with
        | false =>
          have hne := cT_not xn yn s0
          have hAns : ANS = cT xn yn := by
            have h1 := HY.out
            have h2 : cSt ⟨xn, xk, xm, xt⟩ ⟨yn, yk, ym, yt⟩ = cT xn yn := by unfold cSt; rw [orL_two, if_neg hne]
            rw [h2, if_neg hne, if_neg hne] at h1
            exact h1.symm
          have cX := Lib.hid (fun w' => refWords_any xn yn w')
          rw [cW_eq, ← hAns] at cX
          clear HY hne hAns
          go_wp2_with fail
          refine (cX.out _).mono ?_; rintro e w5 ⟨rfl, rfl⟩
          go_wp2_with fail
          go_ret
          exact ⟨rfl, L4.out.1⟩
        | true =>
        have hT0 := cT_self xn yn s0
        have hSt : cSt ⟨xn, xk, xm, xt⟩ ⟨yn, yk, ym, yt⟩ = cKo ⟨xk, xm, xt⟩ ⟨yk, ym, yt⟩ := by unfold cSt; rw [orL_two, if_pos hT0, orL_one]
        have hz := HY.out
        rw [hSt] at hz
        clear HY hSt hT0
        have hne : ¬ ((⟨xk, xm, xt⟩ : K) = ⟨yk, ym, yt⟩) → ANS = cKo ⟨xk, xm, xt⟩ ⟨yk, ym, yt⟩ := fun h => by
          have h1 : ¬ cKo ⟨xk, xm, xt⟩ ⟨yk, ym, yt⟩ = 0 := fun e => h ((tot_cKo.zero _ _).1 e)
          rw [if_neg h1, if_neg h1] at hz
          exact hz.symm
        have heq : ((⟨xk, xm, xt⟩ : K) = ⟨yk, ym, yt⟩) → (if cL cSt (ms.drop (k + 1)) (ps.drop (k + 1)) = 0 then cRs ⟨d, ty, nm, kd, m, t⟩ ⟨d', ty', nm', kd', m', t'⟩ else cL cSt (ms.drop (k + 1)) (ps.drop (k + 1))) = ANS := fun h => by
          have h1 : cKo ⟨xk, xm, xt⟩ ⟨yk, ym, yt⟩ = 0 := (tot_cKo.zero _ _).2 h
          rw [if_pos h1] at hz
          exact hz
        replace hne := Lib.hid hne
        replace heq := Lib.hid heq
        clear hz
        have cX := Lib.hid (fun w' => refCompareKeys_any ⟨xk, xm, xt⟩ ⟨yk, ym, yt⟩ w')
        rw [cKy_eq] at cX
        simp only at cX
        cases s1 : (xk == yk) with
        | false =>
          have hAns := hne.out (fun e => by injection e with e1 e2 e3; rw [e1] at s1; simp at s1)
          rw [← hAns] at cX
          clear hne heq hAns
          go_wp2_with fail
          refine (cX.out _).mono ?_; rintro e w5 ⟨rfl, q5⟩
          go_wp2_with fail
          go_ret
          exact ⟨rfl, L4.out.1.trans q5⟩
        | true =>
        cases s2 : (xm == ym) with
        | false =>
          have hAns := hne.out (fun e => by injection e with e1 e2 e3; rw [e2] at s2; simp at s2)
          rw [← hAns] at cX
          clear hne heq hAns
          go_wp2_with fail
          refine (cX.out _).mono ?_; rintro e w5 ⟨rfl, q5⟩
          go_wp2_with fail
          go_ret
          exact ⟨rfl, L4.out.1.trans q5⟩
        | true =>
        cases s3 : (xt.toList == yt.toList) with
        | false =>
          have hAns := hne.out (fun e => by injection e with e1 e2 e3; rw [e3] at s3; simp at s3)
          rw [← hAns] at cX
          clear hne heq hAns
          go_wp2_with fail
          refine (cX.out _).mono ?_; rintro e w5 ⟨rfl, q5⟩
          go_wp2_with fail
          go_ret
          exact ⟨rfl, L4.out.1.trans q5⟩
        | true =>
          have HX := Lib.hid (heq.out (by rw [beq_iff_eq.1 s1, beq_iff_eq.1 s2, (tl_iff xt yt).1 s3]))
          have f3 : (k : Int) ≤ 1000 := by have := hl2.out; omega
          clear hne heq cX
          go_wp2_with fail
          go_roundw
          case rel => exact ⟨k + 1, by omega, by omega, by go_num, L4, HX⟩
          case measure => simp [intOf]; omega
      · go_simp
        refine hK.out _ _ (sees.out _ (Lib.hid ((Q.drewN wr 1).trans (Q.alloc _ _)))) (fun hHeld => ?_)
        clear hK Kx
        try simp only [Act.put, List.getElem_toArray, List.getElem_cons_zero, List.getElem_cons_succ, List.setIfInBounds_toArray, List.set_cons_zero, List.set_cons_succ]
        refine Go.wpAnyH_ready (rs := [10]) (by kernel_rfl) (by simp) ?_
        refine Go.AllReadyH.cons rfl (fun Kx hK => ?_) Go.AllReadyH.nil
        go_simp
        refine hK.out _ _ (sees.out _ (Lib.hid (((Q.drewN wr 1).trans (Q.alloc _ _)).trans (Q.alloc _ _)))) (fun hHeld => ?_)
        clear hK Kx
        try simp only [Act.put, List.getElem_toArray, List.getElem_cons_zero, List.getElem_cons_succ, List.setIfInBounds_toArray, List.set_cons_zero, List.set_cons_succ]
        refine Go.wpAnyH_ready (rs := [12]) (by kernel_rfl) (by simp) ?_
        refine Go.AllReadyH.cons rfl (fun Kx hK => ?_) Go.AllReadyH.nil
        go_simp
        refine hK.out _ _ (sees.out _ (Lib.hid ((two_alloc _ _ _).trans (Q.drewN _ 1)))) (fun hHeld => ?_)
        clear hK Kx
        try simp only [Act.put, List.getElem_toArray, List.getElem_cons_zero, List.getElem_cons_succ, List.setIfInBounds_toArray, List.set_cons_zero, List.set_cons_succ]
        refine Go.wpAnyH_ready (rs := [13]) (by kernel_rfl) (by simp) ?_
        refine Go.AllReadyH.cons rfl (fun Kx hK => ?_) Go.AllReadyH.nil
        go_simp
        refine hK.out _ _ (sees.out _ (Lib.hid ((two_alloc _ _ _).trans (Q.drewN _ 1)))) (fun hHeld => ?_)
        clear hK Kx
        try simp only [Act.put, List.getElem_toArray, List.getElem_cons_zero, List.getElem_cons_succ, List.setIfInBounds_toArray, List.set_cons_zero, List.set_cons_succ]
        refine Go.wpAnyH_done (by kernel_rfl) ?_ _
        have L4 := Lib.hid (LL.out.stays ((two_alloc wr (.cells #[.string yn, .int .i64 yk, .int .i64 ym, .string yt] 44) (.cells #[.string xn, .int .i64 xk, .int .i64 xm, .string xt] 44)).trans (Q.drewN _ 1)))
        have C7 := Lib.hid (((Bk.new #[.string yn, .int .i64 yk, .int .i64 ym, .string yt] 44 wr).stays (Q.alloc _ (.cells #[.string xn, .int .i64 xk, .int .i64 xm, .string xt] 44))).stays (Q.drewN _ 1))
        have cc := (Bk.new #[.string xn, .int .i64 xk, .int .i64 xm, .string xt] 44 (wr.alloc (.cells #[.string yn, .int .i64 yk, .int .i64 ym, .string yt] 44))).stays (Q.drewN _ 1)
        have e8 : (wr.alloc (.cells #[.string yn, .int .i64 yk, .int .i64 ym, .string yt] 44)).heap.size = wr.heap.size + 1 := by simp
        rw [e8] at cc
        have C6 := Lib.hid cc
        clear cc e8
        replace L4 : Hid (L2 w.heap.size (w.heap.size + 1) (some ⟨b, o, none⟩) (some ⟨b', o', none⟩) n n' c c' d d' ty nm ty' nm' kd m kd' m' t t' w ((wr.alloc (.cells #[.string yn, .int .i64 yk, .int .i64 ym, .string yt] 44)).alloc (.cells #[.string xn, .int .i64 xk, .int .i64 xm, .string xt] 44)).drew) := L4
        replace C6 : Hid (Bk (wr.heap.size + 1) #[.string xn, .int .i64 xk, .int .i64 xm, .string xt] 44 ((wr.alloc (.cells #[.string yn, .int .i64 yk, .int .i64 ym, .string yt] 44)).alloc (.cells #[.string xn, .int .i64 xk, .int .i64 xm, .string xt] 44)).drew) := C6
        replace C7 : Hid (Bk (wr.heap.size) #[.string yn, .int .i64 yk, .int .i64 ym, .string yt] 44 ((wr.alloc (.cells #[.string yn, .int .i64 yk, .int .i64 ym, .string yt] 44)).alloc (.cells #[.string xn, .int .i64 xk, .int .i64 xm, .string xt] 44)).drew) := C7
        generalize ((wr.alloc (.cells #[.string yn, .int .i64 yk, .int .i64 ym, .string yt] 44)).alloc (.cells #[.string xn, .int .i64 xk, .int .i64 xm, .string xt] 44)).drew = v4 at *
        clear LL sees hHeld h0
        have c0 := C6.out.at 0 (.string xn) rfl
        have c1 := C6.out.at 1 (.int .i64 xk) rfl
        have c2 := C6.out.at 2 (.int .i64 xm) rfl
        have c3 := C6.out.at 3 (.string xt) rfl
        have e0 := C7.out.at 0 (.string yn) rfl
        have e1 := C7.out.at 1 (.int .i64 yk) rfl
        have e2 := C7.out.at 2 (.int .i64 ym) rfl
        have e3 := C7.out.at 3 (.string yt) rfl
        clear C6 C7
        cases s0 : (xn.toList == yn.toList) with
        | false =>
          have hne := cT_not xn yn s0
          have hAns : ANS = cT xn yn := by
            have h1 := HY.out
            have h2 : cSt ⟨xn, xk, xm, xt⟩ ⟨yn, yk, ym, yt⟩ = cT xn yn := by unfold cSt; rw [orL_two, if_neg hne]
            rw [h2, if_neg hne, if_neg hne] at h1
            exact h1.symm
          have cX := Lib.hid (fun w' => refWords_any xn yn w')
          rw [cW_eq, ← hAns] at cX
          clear HY hne hAns
          go_wp2_with fail
          refine (cX.out _).mono ?_; rintro e w5 ⟨rfl, rfl⟩
          go_wp2_with fail
          go_ret
          exact ⟨rfl, L4.out.1⟩
        | true =>
        have hT0 := cT_self xn yn s0
        have hSt : cSt ⟨xn, xk, xm, xt⟩ ⟨yn, yk, ym, yt⟩ = cKo ⟨xk, xm, xt⟩ ⟨yk, ym, yt⟩ := by unfold cSt; rw [orL_two, if_pos hT0, orL_one]
        have hz := HY.out
        rw [hSt] at hz
        clear HY hSt hT0
        have hne : ¬ ((⟨xk, xm, xt⟩ : K) = ⟨yk, ym, yt⟩) → ANS = cKo ⟨xk, xm, xt⟩ ⟨yk, ym, yt⟩ := fun h => by
          have h1 : ¬ cKo ⟨xk, xm, xt⟩ ⟨yk, ym, yt⟩ = 0 := fun e => h ((tot_cKo.zero _ _).1 e)
          rw [if_neg h1, if_neg h1] at hz
          exact hz.symm
        have heq : ((⟨xk, xm, xt⟩ : K) = ⟨yk, ym, yt⟩) → (if cL cSt (ms.drop (k + 1)) (ps.drop (k + 1)) = 0 then cRs ⟨d, ty, nm, kd, m, t⟩ ⟨d', ty', nm', kd', m', t'⟩ else cL cSt (ms.drop (k + 1)) (ps.drop (k + 1))) = ANS := fun h => by
          have h1 : cKo ⟨xk, xm, xt⟩ ⟨yk, ym, yt⟩ = 0 := (tot_cKo.zero _ _).2 h
          rw [if_pos h1] at hz
          exact hz
        replace hne := Lib.hid hne
        replace heq := Lib.hid heq
        clear hz
        have cX := Lib.hid (fun w' => refCompareKeys_any ⟨xk, xm, xt⟩ ⟨yk, ym, yt⟩ w')
        rw [cKy_eq] at cX
        simp only at cX
        cases s1 : (xk == yk) with
        | false =>
          have hAns := hne.out (fun e => by injection e with e1 e2 e3; rw [e1] at s1; simp at s1)
          rw [← hAns] at cX
          clear hne heq hAns
          go_wp2_with fail
          refine (cX.out _).mono ?_; rintro e w5 ⟨rfl, q5⟩
          go_wp2_with fail
          go_ret
          exact ⟨rfl, L4.out.1.trans q5⟩
        | true =>
        cases s2 : (xm == ym) with
        | false =>
          have hAns := hne.out (fun e => by injection e with e1 e2 e3; rw [e2] at s2; simp at s2)
          rw [← hAns] at cX
          clear hne heq hAns
          go_wp2_with fail
          refine (cX.out _).mono ?_; rintro e w5 ⟨rfl, q5⟩
          go_wp2_with fail
          go_ret
          exact ⟨rfl, L4.out.1.trans q5⟩
        | true =>
        cases s3 : (xt.toList == yt.toList) with
        | false =>
          have hAns := hne.out (fun e => by injection e with e1 e2 e3; rw [e3] at s3; simp at s3)
          rw [← hAns] at cX
          clear hne heq hAns
          go_wp2_with fail
          refine (cX.out _).mono ?_; rintro e w5 ⟨rfl, q5⟩
          go_wp2_with fail
          go_ret
          exact ⟨rfl, L4.out.1.trans q5⟩
        | true =>
          have HX := Lib.hid (heq.out (by rw [beq_iff_eq.1 s1, beq_iff_eq.1 s2, (tl_iff xt yt).1 s3]))
          have f3 : (k : Int) ≤ 1000 := by have := hl2.out; omega
          clear hne heq cX
          go_wp2_with fail
          go_roundw
          case rel => exact ⟨k + 1, by omega, by omega, by go_num, L4, HX⟩
          case measure => simp [intOf]; omega
    · have hex : ((k : Int) < (n : Int) → False) ∧ k = n ∨ (k : Int) < (n : Int) ∧ ¬ (k : Int) < (n' : Int) ∧ k = n' := by omega
      have hz := HZ.out
      have h1 := HN.out
      have h2 := HN'.out
      have hcl : cL cSt (ms.drop k) (ps.drop k) = cI n n' := by
        have := cL_end cSt ms ps k (by omega) (by omega) (by omega)
        rw [this, ← h1, ← h2]
      rw [hcl] at hz
      clear hcl HZ h1 h2 HI HI' hk hk' hlt
      have HZ := Lib.hid hz
      clear hz
      rcases hex with ⟨f1, f2⟩ | ⟨f1, f2, f3⟩
      · have f4 : ¬ (k : Int) < (n : Int) := f1
        clear f1 f2
        obtain ⟨_, a0, a1, a2, a3, a4, a5, a6, b0, b1, b2, b3, b4, b5, b6⟩ := L2.seen LL.out
        by_cases hnn : n = n'
        rotate_left 1
        · have hb0 : ((n : Int) != (n' : Int)) = true := by rw [bne_iff_ne]; omega
          have hne : ¬ cI n n' = 0 := fun e => hnn (by have := (tot_cI.zero _ _).1 e; omega)
          have hAns : cI n n' = ANS := by have := HZ.out; rwa [if_neg hne] at this
          have cX := Lib.hid (fun w' => refOrder_any (n : Int) (n' : Int) w')
          rw [hAns] at cX
          clear hnn hne hAns HZ
          go_wp2_with fail
          refine (cX.out _).mono ?_; rintro e w5 ⟨rfl, rfl⟩
          go_wp2_with fail
          go_ret
          exact ⟨rfl, LL.out.1⟩
        have hb0 : ((n : Int) != (n' : Int)) = false := by rw [bne_eq_false_iff_eq]; omega
        have hR : cRs ⟨d, ty, nm, kd, m, t⟩ ⟨d', ty', nm', kd', m', t'⟩ = ANS := by
          have := HZ.out
          rwa [if_pos ((tot_cI.zero _ _).2 (by omega))] at this
        unfold cRs at hR
        rw [orL_two, orL_two, orL_two, orL_one] at hR
        clear HZ hnn
        cases hdd : (d == d') with
        | false =>
          have hAns : (if d' then (-1 : Int) else 1) = ANS := by
            rw [← hR]
            cases d <;> cases d' <;> first | rfl | cases hdd
          clear hR
          cases d <;> cases d' <;> first | (cases hdd; done) | skip
          all_goals
            subst hAns
            go_wp2_with fail
            go_ret
            exact ⟨rfl, LL.out.1⟩
        | true =>
        obtain rfl : d = d' := by simpa using hdd
        rw [if_pos ((tot_cB.zero d d).2 rfl)] at hR
        cases hty : (ty.toList == ty'.toList) with
        | false =>
          have hne := cT_not ty ty' hty
          rw [if_neg hne] at hR
          have cX := Lib.hid (fun w' => refWords_any ty ty' w')
          rw [cW_eq, hR] at cX
          clear hR hne
          cases d
          all_goals
            go_wp2_with fail
            refine (cX.out _).mono ?_; rintro e w5 ⟨rfl, rfl⟩
            go_wp2_with fail
            go_ret
            exact ⟨rfl, LL.out.1⟩
        | true =>
        rw [if_pos (cT_self ty ty' hty)] at hR
        cases hnm : (nm.toList == nm'.toList) with
        | false =>
          have hne := cT_not nm nm' hnm
          rw [if_neg hne] at hR
          have cX := Lib.hid (fun w' => refWords_any nm nm' w')
          rw [cW_eq, hR] at cX
          clear hR hne
          cases d
          all_goals
            go_wp2_with fail
            refine (cX.out _).mono ?_; rintro e w5 ⟨rfl, rfl⟩
            go_wp2_with fail
            go_ret
            exact ⟨rfl, LL.out.1⟩
        | true =>
          rw [if_pos (cT_self nm nm' hnm)] at hR
          have cX := Lib.hid (fun w' => refCompareKeys_any ⟨kd, m, t⟩ ⟨kd', m', t'⟩ w')
          rw [cKy_eq, hR] at cX
          simp only at cX
          clear hR
          cases d
          all_goals
            go_wp2_with fail
            refine (cX.out _).mono ?_; rintro e w5 ⟨rfl, q5⟩
            go_wp2_with fail
            go_ret
            exact ⟨rfl, LL.out.1.trans q5⟩
      · clear f2
        have f4 : ¬ (k : Int) < (n' : Int) := by omega
        clear f3
        obtain ⟨_, a0, a1, a2, a3, a4, a5, a6, b0, b1, b2, b3, b4, b5, b6⟩ := L2.seen LL.out
        by_cases hnn : n = n'
        rotate_left 1
        · have hb0 : ((n : Int) != (n' : Int)) = true := by rw [bne_iff_ne]; omega
          have hne : ¬ cI n n' = 0 := fun e => hnn (by have := (tot_cI.zero _ _).1 e; omega)
          have hAns : cI n n' = ANS := by have := HZ.out; rwa [if_neg hne] at this
          have cX := Lib.hid (fun w' => refOrder_any (n : Int) (n' : Int) w')
          rw [hAns] at cX
          clear hnn hne hAns HZ
          go_wp2_with fail
          refine (cX.out _).mono ?_; rintro e w5 ⟨rfl, rfl⟩
          go_wp2_with fail
          go_ret
          exact ⟨rfl, LL.out.1⟩
        have hb0 : ((n : Int) != (n' : Int)) = false := by rw [bne_eq_false_iff_eq]; omega
        have hR : cRs ⟨d, ty, nm, kd, m, t⟩ ⟨d', ty', nm', kd', m', t'⟩ = ANS := by
          have := HZ.out
          rwa [if_pos ((tot_cI.zero _ _).2 (by omega))] at this
        unfold cRs at hR
        rw [orL_two, orL_two, orL_two, orL_one] at hR
        clear HZ hnn
        cases hdd : (d == d') with
        | false =>
          have hAns : (if d' then (-1 : Int) else 1) = ANS := by
            rw [← hR]
            cases d <;> cases d' <;> first | rfl | cases hdd
          clear hR
          cases d <;> cases d' <;> first | (cases hdd; done) | skip
          all_goals
            subst hAns
            go_wp2_with fail
            go_ret
            exact ⟨rfl, LL.out.1⟩
        | true =>
        obtain rfl : d = d' := by simpa using hdd
        rw [if_pos ((tot_cB.zero d d).2 rfl)] at hR
        cases hty : (ty.toList == ty'.toList) with
        | false =>
          have hne := cT_not ty ty' hty
          rw [if_neg hne] at hR
          have cX := Lib.hid (fun w' => refWords_any ty ty' w')
          rw [cW_eq, hR] at cX
          clear hR hne
          cases d
          all_goals
            go_wp2_with fail
            refine (cX.out _).mono ?_; rintro e w5 ⟨rfl, rfl⟩
            go_wp2_with fail
            go_ret
            exact ⟨rfl, LL.out.1⟩
        | true =>
        rw [if_pos (cT_self ty ty' hty)] at hR
        cases hnm : (nm.toList == nm'.toList) with
        | false =>
          have hne := cT_not nm nm' hnm
          rw [if_neg hne] at hR
          have cX := Lib.hid (fun w' => refWords_any nm nm' w')
          rw [cW_eq, hR] at cX
          clear hR hne
          cases d
          all_goals
            go_wp2_with fail
            refine (cX.out _).mono ?_; rintro e w5 ⟨rfl, rfl⟩
            go_wp2_with fail
            go_ret
            exact ⟨rfl, LL.out.1⟩
        | true =>
          rw [if_pos (cT_self nm nm' hnm)] at hR
          have cX := Lib.hid (fun w' => refCompareKeys_any ⟨kd, m, t⟩ ⟨kd', m', t'⟩ w')
          rw [cKy_eq, hR] at cX
          simp only at cX
          clear hR
          cases d
          all_goals
            go_wp2_with fail
            refine (cX.out _).mono ?_; rintro e w5 ⟨rfl, q5⟩
            go_wp2_with fail
            go_ret
            exact ⟨rfl, LL.out.1.trans q5⟩

end Go.Proofs.YthekabflbpfjoaaGreatDoor.adr
