/- Compare, Equal and Refines. -/
import Derived.Test.YtjmchjphdfbhiaaGreatDoorVpv
import Derived.Test.YtjmchjphdfbhiaaGreatDoorVca
namespace Go.Proofs.YtjmchjphdfbhiaaGreatDoor.val
open Go.RowKit
open Go.Proofs.YtjmchjphdfbhiaaGreatDoor
/-! ### Compare -/
def HasO (p B : Nat) (_ : Nat) (c : Int) (w : World) : Prop := B1 p (.int .i64 c) 3 w ∧ p < B
set_option maxRecDepth 100000 in
set_option maxHeartbeats 4000000 in
theorem cmpVisits (w0 : World) (a p B : Nat) (hp : a ≤ p) : VisitsP stepO (HasO p B) w0 a B 59 #[.pointer (some ⟨p, 0, none⟩)] := by
  intro i s x y A A' C C' n n' m m' c c' d d' w hi q ⟨h1, h2⟩ hB hn hn' hm hm' ln ln' lm lm' ka ka' ia ia'
  have cF' := Lib.hid (fun w' (q' : Q w w') => compareFirst_any A A' C C' n n' m m' c c' d d' x y w' hn hn' hm hm' (ka.stays q') (ka'.stays q') (ia.stays q') (ia'.stays q') ln lm)
  obtain ⟨R, hR⟩ : ∃ R, cF x y = R := ⟨_, rfl⟩
  have e : stepO s x y = (R, if R = 0 then 0 else 2) := by rw [← hR]; rfl
  rw [e]
  rw [hR] at cF'
  obtain ⟨wb, hwb⟩ : ∃ wb, (w.alloc (.cells #[.slice A n c, .slice C m d] 70)).alloc (.cells #[.slice A' n' c', .slice C' m' d'] 70) = wb := ⟨_, rfl⟩
  have qb : Q w wb := by rw [← hwb]; exact two_box _ _ _
  have bx : Bk w.heap.size #[.slice A n c, .slice C m d] 70 wb := by rw [← hwb]; exact (Bk.new _ _ _).stays (Q.box _ _)
  have by' : Bk (w.heap.size + 1) #[.slice A' n' c', .slice C' m' d'] 70 wb := by rw [← hwb, ← size_alloc w (.cells #[.slice A n c, .slice C m d] 70)]; exact Bk.new _ _ _
  have x0 := bx.at 0 _ rfl
  have x1 := bx.at 1 _ rfl
  have y0 := by'.at 0 _ rfl
  have y1 := by'.at 1 _ rfl
  have b1 := Lib.hid (h1.stays qb)
  have QB := Lib.hid qb
  have h2' := Lib.hid h2
  have hp' := Lib.hid hp
  clear h1 hB hn hn' hm hm' ln ln' lm lm' ka ka' ia ia' e hR hi q qb bx by' h2 hp
  by_cases h0 : R = 0
  · subst h0
    rw [if_pos rfl]
    show Calls _ _ #[_, _, _] _ _
    go_enter Tryz.func59, Tryz.ntmps59
    go_wp2_with fail
    refine (cF'.out _ QB.out).mono ?_
    rintro e w1 ⟨rfl, q1⟩
    have g1 := b1.out.stays q1
    have z0 := g1.at
    have f0 := g1.frozen
    have z1 := (g1.set (.int .i64 0)).at
    have F : Hid (HasO p B (i + 1) 0 (w1.setCell ⟨p, 0, none⟩ (.int .i64 0)) ∧ Mid a B w (w1.setCell ⟨p, 0, none⟩ (.int .i64 0))) := ⟨⟨g1.set _, h2'.out⟩, (Mid.of (QB.out.trans q1)).set hp'.out h2'.out _⟩
    clear x0 x1 y0 y1 g1 q1
    go_wp2_with fail
    go_ret
    exact ⟨rfl, F.out⟩
  · rw [if_neg h0]
    have hz : (R != 0) = true := by simpa using h0
    clear h0
    show Calls _ _ #[_, _, _] _ _
    go_enter Tryz.func59, Tryz.ntmps59
    go_wp2_with fail
    refine (cF'.out _ QB.out).mono ?_
    rintro e w1 ⟨rfl, q1⟩
    have g1 := b1.out.stays q1
    have z0 := g1.at
    have f0 := g1.frozen
    have z1 := (g1.set (.int .i64 R)).at
    have F : Hid (HasO p B (i + 1) R (w1.setCell ⟨p, 0, none⟩ (.int .i64 R)) ∧ Mid a B w (w1.setCell ⟨p, 0, none⟩ (.int .i64 R))) := ⟨⟨g1.set _, h2'.out⟩, (Mid.of (QB.out.trans q1)).set hp'.out h2'.out _⟩
    clear x0 x1 y0 y1 g1 q1
    go_wp2_with fail
    go_ret
    exact ⟨rfl, F.out⟩
theorem stepO_two (s : Int) (x y : En) : (stepO s x y).2 ≤ 2 := by
  unfold stepO
  show (if cF x y = 0 then 0 else 2) ≤ 2
  split <;> omega
theorem stepR_two (s : Bool) (x y : En) : (stepR s x y).2 ≤ 2 := by
  unfold stepR
  split
  · exact Nat.le_succ 1
  · split
    · exact Nat.zero_le 2
    · exact Nat.le_refl 2

/-- A value in memory with the world in which its items lie. -/
structure At (v : V) (c3 c4 : Value) (w0 : World) : Prop where
  is : Is c3 v.items w0
  kk : Ks c4 v.keys w0
  wf : Wf v
set_option maxRecDepth 100000 in
set_option maxHeartbeats 4000000 in
theorem compare_any (u v : V) (c3 c4 d3 d4 : Value) (w w0 : World) (q : Q w0 w) (h : At u c3 c4 w0) (g : At v d3 d4 w0) (hu : sane u) (hv : sane v) (hn : nodes u ≤ 100000) :
    Calls Tryz.prog 35 #[.agg #[.int .i64 u.kind, .int .i64 u.num, .string u.str, c3, c4], .agg #[.int .i64 v.kind, .int .i64 v.num, .string v.str, d3, d4]] w fun e w' => e = .returned (.int .i64 (cV u v)) ∧ Q w w' := by
  have hsz := q.size
  have cV' := fun (w' : World) (q' : Q w0 w') (hs : HasO (w.heap.size + 1 + 1) w'.heap.size 0 0 w') => visitPairs_any stepO (HasO (w.heap.size + 1 + 1) w'.heap.size) w0 w.heap.size q.size 59 #[.pointer (some ⟨w.heap.size + 1 + 1, 0, none⟩)] 0 u v c3 c4 d3 d4 w' (enters_of Tryz.func59 (by kernel_rfl) rfl) (cmpVisits w0 _ _ _ (by omega)) (fun k s w1 w2 hb h => ⟨h.1.kept (hb.block _ h.2), h.2⟩) (fun k s w1 h => h) stepO_two q' h.is h.kk h.wf g.is g.kk g.wf hs
  rw [cmp_all u v hu hv 262144 (by omega)] at cV'
  obtain ⟨A3, k3, rfl, -⟩ := h.is.shape
  obtain ⟨A4, k4, rfl, -⟩ := h.kk.shape
  obtain ⟨B3, l3, rfl, -⟩ := g.is.shape
  obtain ⟨B4, l4, rfl, -⟩ := g.kk.shape
  have CV := Lib.hid cV'
  have q0 := Lib.hid q
  clear cV' hsz h g hu hv hn q
  generalize cV u v = R at *
  generalize u.kind = xk at *
  generalize u.num = xn at *
  generalize u.str = xs at *
  generalize u.items.length = n3 at *
  generalize u.keys.length = n4 at *
  generalize v.kind = yk at *
  generalize v.num = yn at *
  generalize v.str = ys at *
  generalize v.items.length = m3 at *
  generalize v.keys.length = m4 at *
  go_enter Tryz.func35, Tryz.ntmps35
  go_wp2_with fail
  have qb := (((Q.box w (.cells #[.int .i64 xk, .int .i64 xn, .string xs, .slice A3 n3 k3, .slice A4 n4 k4] 26)).trans (Q.box _ (.cells #[.int .i64 yk, .int .i64 yn, .string ys, .slice B3 m3 l3, .slice B4 m4 l4] 26))).trans (Q.box _ (.cells #[.int .i64 0] 3)))
  have bb := B1.made ((w.alloc (.cells #[.int .i64 xk, .int .i64 xn, .string xs, .slice A3 n3 k3, .slice A4 n4 k4] 26)).alloc (.cells #[.int .i64 yk, .int .i64 yn, .string ys, .slice B3 m3 l3, .slice B4 m4 l4] 26)) (w.heap.size + 1 + 1) (.int .i64 0) 3 (by simp only [size_alloc])
  refine (CV.out _ (q0.out.trans qb) ⟨bb, bb.lt⟩).mono ?_
  rintro e w2 ⟨rfl, ⟨k, hk⟩, m2⟩
  have y0 := hk.1.at
  have qf : Hid (Q w w2) := m2.fin qb
  clear bb qb hk m2
  go_wp2_with fail
  go_ret
  exact ⟨rfl, qf.out⟩
theorem equal_any (u v : V) (c3 c4 d3 d4 : Value) (w w0 : World) (q : Q w0 w) (h : At u c3 c4 w0) (g : At v d3 d4 w0) (hu : sane u) (hv : sane v) (hn : nodes u ≤ 100000) :
    Calls Tryz.prog 34 #[.agg #[.int .i64 u.kind, .int .i64 u.num, .string u.str, c3, c4], .agg #[.int .i64 v.kind, .int .i64 v.num, .string v.str, d3, d4]] w fun e w' => e = .returned (.bool (decide (cV u v = 0))) ∧ Q w w' := by
  have cC := Lib.hid (fun w' (q' : Q w w') => compare_any u v c3 c4 d3 d4 w' w0 (q.trans q') h g hu hv hn)
  obtain ⟨A3, k3, rfl, -⟩ := h.is.shape
  obtain ⟨A4, k4, rfl, -⟩ := h.kk.shape
  obtain ⟨B3, l3, rfl, -⟩ := g.is.shape
  obtain ⟨B4, l4, rfl, -⟩ := g.kk.shape
  rw [← int_beq]
  clear h g hu hv hn q
  generalize cV u v = R at *
  generalize u.kind = xk at *
  generalize u.num = xn at *
  generalize u.str = xs at *
  generalize u.items.length = n3 at *
  generalize u.keys.length = n4 at *
  generalize v.kind = yk at *
  generalize v.num = yn at *
  generalize v.str = ys at *
  generalize v.items.length = m3 at *
  generalize v.keys.length = m4 at *
  go_enter Tryz.func34, Tryz.ntmps34
  go_wp2_with fail
  have qb := two_box w (.cells #[.int .i64 xk, .int .i64 xn, .string xs, .slice A3 n3 k3, .slice A4 n4 k4] 26) (.cells #[.int .i64 yk, .int .i64 yn, .string ys, .slice B3 m3 l3, .slice B4 m4 l4] 26)
  refine (cC.out _ qb).mono ?_
  rintro e w1 ⟨rfl, q1⟩
  have qf := Lib.hid (qb.trans q1)
  clear qb q1
  go_wp2_with fail
  go_ret
  exact ⟨rfl, qf.out⟩
/-! ### Refines -/
def HasR (p B : Nat) (_ : Nat) (c : Bool) (w : World) : Prop := B1 p (.bool c) 4 w ∧ p < B
theorem stepR_eq (s : Bool) (x y : En) : stepR s x y = if (unkE y && decide (x.2.length = 1) && decide (x.1 = y.1)) = true then (s, 1) else if cF x y = 0 then (s, 0) else (false, 2) := rfl
set_option maxRecDepth 100000 in
set_option maxHeartbeats 8000000 in
theorem refVisits (w0 : World) (a p B : Nat) (hp : a ≤ p) : VisitsP stepR (HasR p B) w0 a B 64 #[.pointer (some ⟨p, 0, none⟩)] := by
  intro i s x y A A' C C' n n' m m' c c' d d' w hi q ⟨h1, h2⟩ hB hn hn' hm hm' ln ln' lm lm' ka ka' ia ia'
  have cF' := Lib.hid (fun w' (q' : Q w w') => compareFirst_any A A' C C' n n' m m' c c' d d' x y w' hn hn' hm hm' (ka.stays q') (ka'.stays q') (ia.stays q') (ia'.stays q') ln lm)
  have cE := Lib.hid (fun w' (q' : Q w w') => equalKeys_any A A' n n' c c' x.1 y.1 w' hn hn' (ka.stays q') (ka'.stays q') (by omega) (by omega))
  have cU : Hid (∀ w', Q w w' → Calls Tryz.prog 65 #[.agg #[.slice A' n' c', .slice C' m' d']] w' fun e w'' => e = .returned (.bool (unkE y)) ∧ Q w' w'') := Lib.hid (fun w' q' => by
    obtain ⟨yk, yl⟩ := y
    cases yl with
    | nil =>
      obtain rfl : m' = 0 := hm'
      exact isUnknown_nil _ _ _ _ _ _
    | cons v t =>
      obtain ⟨b, o, rfl, g⟩ := (ia'.stays q') (by simp)
      obtain ⟨A3, n3, k3, A4, n4, k4, g⟩ := g 0 (by simp)
      have hm1 : (0 : Int) < (m' : Int) := by rw [hm']; show (0 : Int) < ((t.length + 1 : Nat) : Int); omega
      have ga := g.a
      rw [show o + 0 * 5 = o by omega] at ga
      have e : unkE (yk, v :: t) = (v.kind == 6) := by rw [int_beq]; rfl
      rw [e]
      exact isUnknown_cons _ _ _ _ _ _ _ _ _ hm1 ga)
  rw [stepR_eq]
  obtain ⟨R, hR⟩ : ∃ R, cF x y = R := ⟨_, rfl⟩
  obtain ⟨U, hU⟩ : ∃ U, unkE y = U := ⟨_, rfl⟩
  obtain ⟨E, hE⟩ : ∃ E, decide (x.1 = y.1) = E := ⟨_, rfl⟩
  have hm1 : decide (x.2.length = 1) = ((m : Int) == 1) := by rw [← hm, int_beq]; exact decide_eq_decide.2 (by omega)
  rw [hR, hU, hE, hm1]
  rw [hR] at cF'
  rw [hE] at cE
  rw [hU] at cU
  obtain ⟨⟨S', r⟩, hres⟩ : ∃ z : Bool × Nat, (if (U && ((m : Int) == 1) && E) = true then (s, 1) else if R = 0 then (s, 0) else (false, 2)) = z := ⟨_, rfl⟩
  rw [hres]
  have hRA : Hid ((U && ((m : Int) == 1) && E) = true → S' = s ∧ r = 1) := fun h => by
    rw [if_pos h] at hres
    simp only [Prod.mk.injEq] at hres
    exact ⟨hres.1.symm, hres.2.symm⟩
  have hRB : Hid ((U && ((m : Int) == 1) && E) = false → R = 0 → S' = s ∧ r = 0) := fun h h0 => by
    rw [h, if_neg (by decide), if_pos h0] at hres
    simp only [Prod.mk.injEq] at hres
    exact ⟨hres.1.symm, hres.2.symm⟩
  have hRC : Hid ((U && ((m : Int) == 1) && E) = false → ¬ R = 0 → S' = false ∧ r = 2) := fun h h0 => by
    rw [h, if_neg (by decide), if_neg h0] at hres
    simp only [Prod.mk.injEq] at hres
    exact ⟨hres.1.symm, hres.2.symm⟩
  clear hres
  obtain ⟨wb, hwb⟩ : ∃ wb, (w.alloc (.cells #[.slice A n c, .slice C m d] 70)).alloc (.cells #[.slice A' n' c', .slice C' m' d'] 70) = wb := ⟨_, rfl⟩
  have qb : Q w wb := by rw [← hwb]; exact two_box _ _ _
  have bx : Bk w.heap.size #[.slice A n c, .slice C m d] 70 wb := by rw [← hwb]; exact (Bk.new _ _ _).stays (Q.box _ _)
  have by' : Bk (w.heap.size + 1) #[.slice A' n' c', .slice C' m' d'] 70 wb := by rw [← hwb, ← size_alloc w (.cells #[.slice A n c, .slice C m d] 70)]; exact Bk.new _ _ _
  have x0 := bx.at 0 _ rfl
  have x1 := bx.at 1 _ rfl
  have y0 := by'.at 0 _ rfl
  have y1 := by'.at 1 _ rfl
  have BX := Lib.hid bx
  have BY := Lib.hid by'
  have h1' := Lib.hid h1
  have QB := Lib.hid qb
  have h2' := Lib.hid h2
  have hp' := Lib.hid hp
  clear h1 hB hn hn' hm hm' ln ln' lm lm' ka ka' ia ia' hR hU hE hi q qb bx by' h2 hp hm1
  cases U with
  | false =>
    have hUE : Hid ((false && ((m : Int) == 1) && E) = false) := by show _ = _; rw [Bool.false_and, Bool.false_and]
    show Calls _ _ #[_, _, _] _ _
    go_enter Tryz.func64, Tryz.ntmps64
    go_wp2_with fail
    refine (cU.out _ QB.out).mono ?_
    rintro e w1 ⟨rfl, q1⟩
    have Q1 := Lib.hid (QB.out.trans q1)
    have bx1 := BX.out.stays q1
    have by1 := BY.out.stays q1
    clear x0 x1 y0 y1 q1
    have x0 := bx1.at 0 _ rfl
    have x1 := bx1.at 1 _ rfl
    have y0 := by1.at 0 _ rfl
    have y1 := by1.at 1 _ rfl
    have BX1 := Lib.hid bx1
    have BY1 := Lib.hid by1
    clear bx1 by1
    go_wp2_with fail
    refine (cF'.out _ (Q1.out)).mono ?_
    rintro e w3 ⟨rfl, q3⟩
    have QW := Lib.hid ((Q1.out).trans q3)
    have g1 := h1'.out.stays QW.out
    have z0 := g1.at
    have f0 := g1.frozen
    clear q3 x0 x1 y0 y1
    by_cases h0 : R = 0
    · subst h0
      obtain ⟨e1, e2⟩ := hRB.out hUE.out rfl
      subst e1 e2
      have F : Hid (HasR p B (i + 1) S' w3 ∧ Mid a B w w3) := ⟨⟨g1, h2'.out⟩, Mid.of QW.out⟩
      clear g1 z0 f0
      go_wp2_with fail
      go_ret
      exact ⟨rfl, F.out⟩
    · obtain ⟨e1, e2⟩ := hRC.out hUE.out h0
      subst e1 e2
      have hz : (R == 0) = false := by simpa using h0
      have F : Hid (HasR p B (i + 1) false (w3.setCell ⟨p, 0, none⟩ (.bool false)) ∧ Mid a B w (w3.setCell ⟨p, 0, none⟩ (.bool false))) := ⟨⟨g1.set _, h2'.out⟩, (Mid.of QW.out).set hp'.out h2'.out _⟩
      clear g1 h0
      go_wp2_with fail
      go_ret
      exact ⟨rfl, F.out⟩
  | true =>
    cases hm1 : ((m : Int) == 1) with
    | false =>
      have hUE : Hid ((true && ((m : Int) == 1) && E) = false) := by show _ = _; rw [hm1, Bool.true_and, Bool.false_and]
      show Calls _ _ #[_, _, _] _ _
      go_enter Tryz.func64, Tryz.ntmps64
      go_wp2_with fail
      refine (cU.out _ QB.out).mono ?_
      rintro e w1 ⟨rfl, q1⟩
      have Q1 := Lib.hid (QB.out.trans q1)
      have bx1 := BX.out.stays q1
      have by1 := BY.out.stays q1
      clear x0 x1 y0 y1 q1
      have x0 := bx1.at 0 _ rfl
      have x1 := bx1.at 1 _ rfl
      have y0 := by1.at 0 _ rfl
      have y1 := by1.at 1 _ rfl
      have BX1 := Lib.hid bx1
      have BY1 := Lib.hid by1
      clear bx1 by1
      go_wp2_with fail
      refine (cF'.out _ (Q1.out)).mono ?_
      rintro e w3 ⟨rfl, q3⟩
      have QW := Lib.hid ((Q1.out).trans q3)
      have g1 := h1'.out.stays QW.out
      have z0 := g1.at
      have f0 := g1.frozen
      clear q3 x0 x1 y0 y1
      by_cases h0 : R = 0
      · subst h0
        obtain ⟨e1, e2⟩ := hRB.out hUE.out rfl
        subst e1 e2
        have F : Hid (HasR p B (i + 1) S' w3 ∧ Mid a B w w3) := ⟨⟨g1, h2'.out⟩, Mid.of QW.out⟩
        clear g1 z0 f0
        go_wp2_with fail
        go_ret
        exact ⟨rfl, F.out⟩
      · obtain ⟨e1, e2⟩ := hRC.out hUE.out h0
        subst e1 e2
        have hz : (R == 0) = false := by simpa using h0
        have F : Hid (HasR p B (i + 1) false (w3.setCell ⟨p, 0, none⟩ (.bool false)) ∧ Mid a B w (w3.setCell ⟨p, 0, none⟩ (.bool false))) := ⟨⟨g1.set _, h2'.out⟩, (Mid.of QW.out).set hp'.out h2'.out _⟩
        clear g1 h0
        go_wp2_with fail
        go_ret
        exact ⟨rfl, F.out⟩
    | true =>
      show Calls _ _ #[_, _, _] _ _
      go_enter Tryz.func64, Tryz.ntmps64
      go_wp2_with fail
      refine (cU.out _ QB.out).mono ?_
      rintro e w1 ⟨rfl, q1⟩
      have Q1 := Lib.hid (QB.out.trans q1)
      have bx1 := BX.out.stays q1
      have by1 := BY.out.stays q1
      clear x0 x1 y0 y1 q1
      have x0 := bx1.at 0 _ rfl
      have x1 := bx1.at 1 _ rfl
      have y0 := by1.at 0 _ rfl
      have y1 := by1.at 1 _ rfl
      have BX1 := Lib.hid bx1
      have BY1 := Lib.hid by1
      clear bx1 by1
      go_wp2_with fail
      refine (cE.out _ Q1.out).mono ?_
      rintro e w2 ⟨rfl, q2⟩
      have Q2 := Lib.hid (Q1.out.trans q2)
      have bx2 := BX1.out.stays q2
      have by2 := BY1.out.stays q2
      clear x0 x1 y0 y1 q2
      have x0 := bx2.at 0 _ rfl
      have x1 := bx2.at 1 _ rfl
      have y0 := by2.at 0 _ rfl
      have y1 := by2.at 1 _ rfl
      clear bx2 by2
      cases E with
      | true =>
        obtain ⟨e1, e2⟩ := hRA.out (by rw [hm1]; rfl)
        subst e1 e2
        have F : Hid (HasR p B (i + 1) S' w2 ∧ Mid a B w w2) := ⟨⟨h1'.out.stays Q2.out, h2'.out⟩, Mid.of Q2.out⟩
        go_wp2_with fail
        go_ret
        exact ⟨rfl, F.out⟩
      | false =>
        have hUE : Hid ((true && ((m : Int) == 1) && false) = false) := by show _ = _; rw [hm1]; rfl
        go_wp2_with fail
        refine (cF'.out _ (Q2.out)).mono ?_
        rintro e w3 ⟨rfl, q3⟩
        have QW := Lib.hid ((Q2.out).trans q3)
        have g1 := h1'.out.stays QW.out
        have z0 := g1.at
        have f0 := g1.frozen
        clear q3 x0 x1 y0 y1
        by_cases h0 : R = 0
        · subst h0
          obtain ⟨e1, e2⟩ := hRB.out hUE.out rfl
          subst e1 e2
          have F : Hid (HasR p B (i + 1) S' w3 ∧ Mid a B w w3) := ⟨⟨g1, h2'.out⟩, Mid.of QW.out⟩
          clear g1 z0 f0
          go_wp2_with fail
          go_ret
          exact ⟨rfl, F.out⟩
        · obtain ⟨e1, e2⟩ := hRC.out hUE.out h0
          subst e1 e2
          have hz : (R == 0) = false := by simpa using h0
          have F : Hid (HasR p B (i + 1) false (w3.setCell ⟨p, 0, none⟩ (.bool false)) ∧ Mid a B w (w3.setCell ⟨p, 0, none⟩ (.bool false))) := ⟨⟨g1.set _, h2'.out⟩, (Mid.of QW.out).set hp'.out h2'.out _⟩
          clear g1 h0
          go_wp2_with fail
          go_ret
          exact ⟨rfl, F.out⟩
set_option maxRecDepth 100000 in
set_option maxHeartbeats 4000000 in
theorem refines_any (u v : V) (c3 c4 d3 d4 : Value) (w w0 : World) (q : Q w0 w) (h : At u c3 c4 w0) (g : At v d3 d4 w0) (hu : sane u) (hv : sane v) (hn : nodes u ≤ 100000) :
    Calls Tryz.prog 39 #[.agg #[.int .i64 u.kind, .int .i64 u.num, .string u.str, c3, c4], .agg #[.int .i64 v.kind, .int .i64 v.num, .string v.str, d3, d4]] w fun e w' => e = .returned (.bool (refB u v)) ∧ Q w w' := by
  have hsz := q.size
  have cV' := fun (w' : World) (q' : Q w0 w') (hs : HasR (w.heap.size + 1 + 1) w'.heap.size 0 true w') => visitPairs_any stepR (HasR (w.heap.size + 1 + 1) w'.heap.size) w0 w.heap.size q.size 64 #[.pointer (some ⟨w.heap.size + 1 + 1, 0, none⟩)] true u v c3 c4 d3 d4 w' (enters_of Tryz.func64 (by kernel_rfl) rfl) (refVisits w0 _ _ _ (by omega)) (fun k s w1 w2 hb h => ⟨h.1.kept (hb.block _ h.2), h.2⟩) (fun k s w1 h => h) stepR_two q' h.is h.kk h.wf g.is g.kk g.wf hs
  rw [ref_all u v hu hv 262144 (by omega)] at cV'
  obtain ⟨A3, k3, rfl, -⟩ := h.is.shape
  obtain ⟨A4, k4, rfl, -⟩ := h.kk.shape
  obtain ⟨B3, l3, rfl, -⟩ := g.is.shape
  obtain ⟨B4, l4, rfl, -⟩ := g.kk.shape
  have CV := Lib.hid cV'
  have q0 := Lib.hid q
  clear cV' hsz h g hu hv hn q
  generalize refB u v = R at *
  generalize u.kind = xk at *
  generalize u.num = xn at *
  generalize u.str = xs at *
  generalize u.items.length = n3 at *
  generalize u.keys.length = n4 at *
  generalize v.kind = yk at *
  generalize v.num = yn at *
  generalize v.str = ys at *
  generalize v.items.length = m3 at *
  generalize v.keys.length = m4 at *
  go_enter Tryz.func39, Tryz.ntmps39
  go_wp2_with fail
  have qb := (((Q.box w (.cells #[.int .i64 xk, .int .i64 xn, .string xs, .slice A3 n3 k3, .slice A4 n4 k4] 26)).trans (Q.box _ (.cells #[.int .i64 yk, .int .i64 yn, .string ys, .slice B3 m3 l3, .slice B4 m4 l4] 26))).trans (Q.box _ (.cells #[.bool true] 4)))
  have bb := B1.made ((w.alloc (.cells #[.int .i64 xk, .int .i64 xn, .string xs, .slice A3 n3 k3, .slice A4 n4 k4] 26)).alloc (.cells #[.int .i64 yk, .int .i64 yn, .string ys, .slice B3 m3 l3, .slice B4 m4 l4] 26)) (w.heap.size + 1 + 1) (.bool true) 4 (by simp only [size_alloc])
  refine (CV.out _ (q0.out.trans qb) ⟨bb, bb.lt⟩).mono ?_
  rintro e w2 ⟨rfl, ⟨k, hk⟩, m2⟩
  have y0 := hk.1.at
  have qf : Hid (Q w w2) := m2.fin qb
  clear bb qb hk m2
  go_wp2_with fail
  go_ret
  exact ⟨rfl, qf.out⟩

end Go.Proofs.YtjmchjphdfbhiaaGreatDoor.val
