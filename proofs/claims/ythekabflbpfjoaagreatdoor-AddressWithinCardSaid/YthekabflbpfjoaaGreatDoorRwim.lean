/- The reference's Within. -/
import Derived.Test.YthekabflbpfjoaaGreatDoorRpwm
import Derived.Deep.RegionHeld3
namespace Go.Proofs.YthekabflbpfjoaaGreatDoor.adr
open Go.RowKit
open Go.Proofs.YthekabflbpfjoaaGreatDoor

/-- Whether a key of a place matches a key, as the reference asks. -/
def mtB (p k : K) : Bool := (p.kind == 0) || ((p.kind == k.kind) && (p.num == k.num) && (p.str.toList == k.str.toList))
theorem mtB_iff (p k : K) (hp : okK p = true) : mtB p k = true ↔ (p = K.zero ∨ k = p) := by
  unfold mtB
  rw [Bool.or_eq_true, Bool.and_eq_true, Bool.and_eq_true, beq_iff_eq, beq_iff_eq, beq_iff_eq, tl_iff]
  constructor
  · rintro (h | ⟨⟨h1, h2⟩, h3⟩)
    · rcases okK_cases p hp with h0 | ⟨h1, _⟩ | ⟨h1, _⟩
      · exact .inl h0
      · omega
      · omega
    · right
      obtain ⟨a, b, c⟩ := p
      obtain ⟨a', b', c'⟩ := k
      simp only at h1 h2 h3
      rw [h1, h2, h3]
  · rintro (rfl | rfl)
    · exact .inl rfl
    · exact .inr ⟨⟨rfl, rfl⟩, rfl⟩
theorem pq_some {l : List UInt8} {ms : List St} {x : Option Rs} (h : pq l = some (ms, x)) : full l = some (ms, x) ∧ ms.length ≤ 16 ∧ (∀ s ∈ ms, okK s.key = true) ∧ (∀ r, x = some r → okK r.key = true ∧ r.type.data.toList ≠ []) := by
  unfold pq at h
  cases hf : full l with
  | none => rw [hf] at h; cases h
  | some y =>
    rw [hf] at h
    simp only at h
    split at h
    · rename_i hl
      injection h with h
      subst h
      obtain ⟨h1, h2, _⟩ := full_inv _ l ms x (Nat.le_refl _) hf
      refine ⟨rfl, hl, fun s hs => (chkN_ok (chkS_mem ms h1 s hs)).2, fun r hr => ?_⟩
      obtain ⟨g1, _⟩ := h2 r hr
      obtain ⟨t1, t2⟩ := chkR_ok g1
      exact ⟨(chkN_ok t2).2, ((isId_iff _).1 (isTy_id t1)).1⟩
    · cases h
theorem wi_pq {l p : List UInt8} (hE : pErr l = 0) {ps : List St} {x : Option Rs} (h : pq p = some (ps, x)) : Wi l p ↔ Bl (pMods l) (pRes l) ps (x.getD Rs.zero) := by
  obtain ⟨h1, h2, _⟩ := pq_some h
  constructor
  · rintro ⟨_, ps', x', g1, _, g3⟩
    rw [h1] at g1
    injection g1 with g1
    injection g1 with g1 g2
    subst g1 g2
    exact g3
  · intro g
    exact ⟨hE, ps, x, h1, h2, g⟩
theorem wi_none {l p : List UInt8} (h : pq p = none) : ¬ Wi l p := by
  rintro ⟨_, ps, x, g1, g2, _⟩
  unfold pq at h
  rw [g1] at h
  simp only at h
  rw [if_pos g2] at h
  cases h
/-- What is left to ask behind the steps. -/
theorem bl_path {ms ps : List St} {r : Rs} (hl : ps.length ≤ ms.length) (hm : ∀ (j : Nat) (h : j < ms.length) (h' : j < ps.length), Mt ms[j] ps[j]) : Bl ms r ps ((none : Option Rs).getD Rs.zero) :=
  ⟨⟨hl, fun i h h' => by
    have hi : i < ms.length := by omega
    have := hm i hi h'
    simpa using this⟩, .inl rfl⟩
theorem bl_step {ms ps : List St} {r q : Rs} {k : Nat} (h : k < ms.length) (h' : k < ps.length) (hn : ¬ Mt ms[k] ps[k]) : ¬ Bl ms r ps q := by
  rintro ⟨⟨hl, hm⟩, _⟩
  apply hn
  have := hm k (by rw [List.length_take]; omega) h'
  simpa using this
theorem bl_res {ms ps : List St} {r q : Rs} (hq : q.type.data.toList ≠ []) (hl : ps.length ≤ ms.length) (hm : ∀ (j : Nat) (h : j < ms.length) (h' : j < ps.length), Mt ms[j] ps[j]) :
    Bl ms r ps q ↔ (ms.length = ps.length ∧ r.data = q.data ∧ r.type = q.type ∧ Mt ⟨r.name, r.key⟩ ⟨q.name, q.key⟩) := by
  constructor
  · rintro ⟨_, h | h⟩
    · exact absurd h hq
    · exact h
  · intro h
    exact ⟨(bl_path (r := r) hl hm).1, .inr h⟩

set_option maxRecDepth 100000 in
set_option maxHeartbeats 32000000 in
theorem refWithin_any (s p : ByteArray) (w : World) (hs : s.size ≤ 3000) (hp : p.size ≤ 3000) :
    Calls Tryz.prog 23 #[.string s, .string p] w (WiEnds s.data.toList p.data.toList w) := by
  have cA : Hid (∀ w', Calls Tryz.prog 16 #[.string s] w' (PsE s.data.toList w')) := Lib.hid (fun w' => refParse_any s w' hs)
  have cP : Hid (∀ w', Calls Tryz.prog 53 #[.string p] w' (PpE p.data.toList w')) := Lib.hid (fun w' => refParsePlace_any p w' hp)
  have cM : Hid (∀ (p k : K) w', Calls Tryz.prog 54 #[.agg #[.int .i64 p.kind, .int .i64 p.num, .string p.str], .agg #[.int .i64 k.kind, .int .i64 k.num, .string k.str]] w' fun e w'' => e = .returned (.bool (mtB p k)) ∧ Q w' w'') := Lib.hid (fun p k w' => refMatches_any p k w')
  have hWN := Lib.hid (fun (h : pErr s.data.toList ≠ 0) => (fun (x : Wi s.data.toList p.data.toList) => h x.1))
  have hWP := Lib.hid (fun (h : pErr s.data.toList = 0) (ps : List St) (x : Option Rs) (h2 : pq p.data.toList = some (ps, x)) => wi_pq (l := s.data.toList) h h2)
  have hW0 := Lib.hid (fun (h : pq p.data.toList = none) => wi_none (l := s.data.toList) h)
  have hPQ := Lib.hid (fun (ps : List St) (x : Option Rs) (h : pq p.data.toList = some (ps, x)) => pq_some h)
  have hML := Lib.hid (pMods_len s.data.toList)
  unfold PsE at cA
  unfold PpE at cP
  generalize s.data.toList = L at *
  generalize p.data.toList = P at *
  obtain ⟨E, hE0⟩ : ∃ e, pErr L = e := ⟨_, rfl⟩
  obtain ⟨MS, hMS0⟩ : ∃ e, pMods L = e := ⟨_, rfl⟩
  obtain ⟨RS, hRS0⟩ : ∃ e, pRes L = e := ⟨_, rfl⟩
  rw [hE0, hMS0, hRS0] at cA hWP
  rw [hE0] at hWN
  rw [hMS0] at hML
  clear hE0 hMS0 hRS0
  obtain ⟨d, ty, nm, kd, m, t⟩ := RS
  unfold rv at *
  simp only at *
  go_enter Tryz.func23, Tryz.ntmps23
  go_wp2_with fail
  refine (cA.out _).mono ?_; rintro e w1 ⟨A, n, c, rfl, hv, q1⟩
  have HN := Lib.hid hv.len
  have qa := Q.alloc w1 (.cells #[.slice A n c, .bool d, .string ty, .string nm, .int .i64 kd, .int .i64 m, .string t] 27)
  have B5 := Lib.hid (Bk.new #[.slice A n c, .bool d, .string ty, .string nm, .int .i64 kd, .int .i64 m, .string t] 27 w1)
  have HI := Lib.hid (hv.in.stays qa)
  have QQ := Lib.hid (q1.trans qa)
  clear hv q1 qa cA
  go_wp2_with fail
  refine (cP.out _).mono ?_; rintro e w2 ⟨A2, n2, c2, ⟨d2, ty2, nm2, kd2, m2, t2⟩, wh, ok, rfl, hpp, q2⟩
  have qa := q2.trans (Q.alloc w2 (.cells #[.slice A2 n2 c2, .bool d2, .string ty2, .string nm2, .int .i64 kd2, .int .i64 m2, .string t2, .bool wh] 63))
  have B7 : Hid (Pl w2.heap.size (.slice A2 n2 c2) (.bool d2) (.string ty2) (.string nm2) (.int .i64 kd2) (.int .i64 m2) (.string t2) (.bool wh) (w2.alloc (.cells #[.slice A2 n2 c2, .bool d2, .string ty2, .string nm2, .int .i64 kd2, .int .i64 m2, .string t2, .bool wh] 63))) := Lib.hid (Bk.new _ _ _)
  replace B5 := Lib.hid (B5.out.stays qa)
  replace HI := Lib.hid (HI.out.stays qa)
  replace QQ := Lib.hid (QQ.out.trans qa)
  have HPP := Lib.hid hpp
  clear hpp qa cP
  simp only
  obtain ⟨p5, hp5⟩ : ∃ z, w1.heap.size = z := ⟨_, rfl⟩
  rw [hp5] at B5
  obtain ⟨p7, hp7⟩ : ∃ z, w2.heap.size = z := ⟨_, rfl⟩
  rw [hp7] at B7
  have x0 := B5.out.at 0 (.slice A n c) rfl
  obtain ⟨l0, l1, l2, l3, l4, l5, l6, l7⟩ := B7.out.cells
  cases hEE : (E != 0) with
  | true =>
    have hno := Lib.hid (hWN.out (by simpa using hEE))
    clear hWN hWP hW0 hPQ HPP B5 B7 HI HN hML
    go_wp2_with fail
    go_ret
    exact WiEnds.no hno QQ.out
  | false =>
  have e0 : E = 0 := by simpa using hEE
  cases hq : pq P with
  | none =>
    have hz := HPP.out
    rw [hq] at hz
    have : ok = false := hz
    subst this
    have hno := Lib.hid (hW0.out hq)
    clear hWN hWP hW0 hPQ HPP B5 B7 HI HN hML hz e0
    go_wp2_with fail
    go_ret
    exact WiEnds.no hno QQ.out
  | some y =>
  obtain ⟨ps, x⟩ := y
  have hz := HPP.out
  rw [hq] at hz
  obtain ⟨h1, hv, hr, hw⟩ := hz
  subst h1
  obtain ⟨_, hpl, hpk, hpr⟩ := hPQ.out ps x hq
  have HW := Lib.hid (hWP.out e0 ps x hq)
  have HN2 := Lib.hid hv.len
  have HI2 := Lib.hid (hv.in.stays (Q.alloc w2 (.cells #[.slice A2 n2 c2, .bool d2, .string ty2, .string nm2, .int .i64 kd2, .int .i64 m2, .string t2, .bool wh] 63)))
  have HPL := Lib.hid hpl
  have HPK := Lib.hid hpk
  have HR := Lib.hid hpr
  have HX := Lib.hid hr
  have HWH := Lib.hid hw
  clear hWN hWP hW0 hPQ HPP hv hr hw hpl hpk hpr hq e0
  by_cases hlen : n < n2
  · have hno : Hid (¬ Wi L P) := Lib.hid (fun g => by have h := ((HW.out.1 g).1).1; have h1 := HN.out; have h2 := HN2.out; omega)
    have f1 : (n : Int) < (n2 : Int) := by omega
    clear HW HN HN2 HI2 HPL HPK HR HX HWH B5 B7 HI hML hlen
    go_wp2_with fail
    go_ret
    exact WiEnds.no hno QQ.out
  have f1 : ¬ (n : Int) < (n2 : Int) := by omega
  obtain ⟨w3, hw3⟩ : ∃ W, (w2.alloc (.cells #[.slice A2 n2 c2, .bool d2, .string ty2, .string nm2, .int .i64 kd2, .int .i64 m2, .string t2, .bool wh] 63)) = W := ⟨_, rfl⟩
  rw [hw3] at QQ B5 B7 HI HI2 x0 l0
  clear l1 l2 l3 l4 l5 l6 l7
  go_wp2_with fail
  clear x0 l0 hw3 hp5 hp7
  go_loopw [9] (fun i wr => ∃ k : Nat, k ≤ n2 ∧ i = .int .i64 k ∧ Hid (Q w wr) ∧ Hid (Bk p5 #[.slice A n c, .bool d, .string ty, .string nm, .int .i64 kd, .int .i64 m, .string t] 27 wr) ∧ Hid (Pl p7 (.slice A2 n2 c2) (.bool d2) (.string ty2) (.string nm2) (.int .i64 kd2) (.int .i64 m2) (.string t2) (.bool wh) wr) ∧ Hid (In A MS wr) ∧ Hid (In A2 ps wr) ∧ Hid (∀ (j : Nat) (h : j < MS.length) (h' : j < ps.length), j < k → Mt MS[j] ps[j])) (fun i _ => n2 - (intOf i).toNat)
  case atStart => exact ⟨0, Nat.zero_le _, rfl, QQ, B5, B7, HI, HI2, Lib.hid (fun j _ _ h => absurd h (Nat.not_lt_zero _))⟩
  case round =>
    clear QQ B5 B7 HI HI2
    obtain ⟨k, hk, rfl, QQ, B5, B7, HI, HI2, HH⟩ := hrel
    have x0 := B5.out.at 0 (.slice A n c) rfl
    have l0 := B7.out.cells.1
    by_cases hlt : k < n2
    · have hlt1 : k < MS.length := by have h1 := HN.out; omega
      have hlt2 : k < ps.length := by have h2 := HN2.out; omega
      obtain ⟨b, o, rfl, hb, hcc⟩ := HI.out (by intro e; rw [e] at hlt1; cases hlt1)
      obtain ⟨g0, g1, g2, g3⟩ := hcc k hlt1
      obtain ⟨b', o', rfl, hb', hcc'⟩ := HI2.out (by intro e; rw [e] at hlt2; cases hlt2)
      obtain ⟨g0', g1', g2', g3'⟩ := hcc' k hlt2
      have f0 : (0 : Int) ≤ (k : Int) := by omega
      have f2 : (k : Int) < (n : Int) := by have h1 := HN.out; omega
      have f3 : (k : Int) < (n2 : Int) := by omega
      have f4 : (k : Int) ≤ 16 := by have h2 := HN2.out; have h3 := HPL.out; omega
      have hky := HPK.out _ (List.getElem_mem hlt2)
      have hnext : Hid (Mt MS[k] ps[k] → ∀ (j : Nat) (h : j < MS.length) (h' : j < ps.length), j < k + 1 → Mt MS[j] ps[j]) := Lib.hid (fun e j h h' hj => by
        by_cases ej : j = k
        · subst ej; exact e
        · exact HH.out j h h' (by omega))
      have hstop : Hid (¬ Mt MS[k] ps[k] → ¬ Wi L P) := Lib.hid (fun h g => bl_step hlt1 hlt2 h (HW.out.1 g))
      have lt5 : p5 < wr.heap.size := B5.out.lt
      have lt7 : p7 < wr.heap.size := B7.out.lt
      clear hcc hcc' HH
      generalize MS[k] = x at *
      generalize ps[k] = y at *
      obtain ⟨xn, xk, xm, xt⟩ := x
      obtain ⟨yn, yk, ym, yt⟩ := y
      simp only at g0 g1 g2 g3 g0' g1' g2' g3' hky
      cases s0 : (xn.toList == yn.toList) with
      | false =>
        have hno := Lib.hid (hstop.out (fun h => by have h1 := (tl_iff xn yn).2 h.1; rw [s0] at h1; cases h1))
        clear hstop hnext hky HW HN HN2 HPL HPK HR HX HWH B5 B7 HI HI2 hML hb hb'
        go_wp2_with fail
        go_quiet (fail)
        go_wp2_with fail
        go_ret
        exact WiEnds.no hno (QQ.out.trans (Q.drewN _ _))
      | true =>
        have hMt : Hid (mtB ⟨yk, ym, yt⟩ ⟨xk, xm, xt⟩ = true ↔ Mt ⟨xn, ⟨xk, xm, xt⟩⟩ ⟨yn, ⟨yk, ym, yt⟩⟩) := Lib.hid ((mtB_iff _ _ hky).trans ⟨fun h => ⟨(tl_iff xn yn).1 s0, h⟩, fun h => h.2⟩)
        have cK := Lib.hid (cM.out ⟨yk, ym, yt⟩ ⟨xk, xm, xt⟩)
        simp only at cK
        generalize mtB ⟨yk, ym, yt⟩ ⟨xk, xm, xt⟩ = BM at *
        have sees : Hid (∀ w', Hid (Q wr w') → (Hid (Q wr w') ∧ w'.cell? ⟨p5, 0, none⟩ = some (.slice (some ⟨b, o, none⟩) n c) ∧ w'.cell? ⟨p7, 0, none⟩ = some (.slice (some ⟨b', o', none⟩) n2 c2) ∧ w'.cell? ⟨b, o + k * 4, none⟩ = some (.string xn) ∧ w'.cell? ⟨b, o + k * 4 + 1, none⟩ = some (.int .i64 xk) ∧ w'.cell? ⟨b, o + k * 4 + 2, none⟩ = some (.int .i64 xm) ∧ w'.cell? ⟨b, o + k * 4 + 3, none⟩ = some (.string xt) ∧ w'.cell? ⟨b', o' + k * 4, none⟩ = some (.string yn) ∧ w'.cell? ⟨b', o' + k * 4 + 1, none⟩ = some (.int .i64 yk) ∧ w'.cell? ⟨b', o' + k * 4 + 2, none⟩ = some (.int .i64 ym) ∧ w'.cell? ⟨b', o' + k * 4 + 3, none⟩ = some (.string yt))) := Lib.hid (fun w' h =>
          ⟨h, (Below.cell h.out (p := ⟨p5, 0, none⟩) lt5).trans x0, (Below.cell h.out (p := ⟨p7, 0, none⟩) lt7).trans l0, (Below.cell h.out (p := ⟨b, o + k * 4, none⟩) hb).trans g0, (Below.cell h.out (p := ⟨b, o + k * 4 + 1, none⟩) hb).trans g1, (Below.cell h.out (p := ⟨b, o + k * 4 + 2, none⟩) hb).trans g2, (Below.cell h.out (p := ⟨b, o + k * 4 + 3, none⟩) hb).trans g3,
            (Below.cell h.out (p := ⟨b', o' + k * 4, none⟩) hb').trans g0', (Below.cell h.out (p := ⟨b', o' + k * 4 + 1, none⟩) hb').trans g1', (Below.cell h.out (p := ⟨b', o' + k * 4 + 2, none⟩) hb').trans g2', (Below.cell h.out (p := ⟨b', o' + k * 4 + 3, none⟩) hb').trans g3'⟩)
        have h0 : Hid (Q wr wr.drew) := Lib.hid (Q.drewN wr 1)
        have cK1 : Hid (∀ w', Hid (Q wr w') → Calls Tryz.prog 54 #[.agg #[.int .i64 yk, .int .i64 ym, .string yt], .agg #[.int .i64 xk, .int .i64 xm, .string xt]] w' fun e w'' => e = .returned (.bool BM) ∧ Hid (Q wr w'')) := Lib.hid (fun w' h => (cK.out w').mono fun _ _ ⟨he, hq⟩ => ⟨he, Lib.hid (h.out.trans hq)⟩)
        clear hb hb' g0 g1 g2 g3 g0' g1' g2' g3' lt5 lt7 cK hky
        go_wp2_with fail
        clear x0 l0
        refine Go.wp_region_held_drew (S := fun w' => Hid (Q wr w') ∧ w'.cell? ⟨p5, 0, none⟩ = some (.slice (some ⟨b, o, none⟩) n c) ∧ w'.cell? ⟨p7, 0, none⟩ = some (.slice (some ⟨b', o', none⟩) n2 c2) ∧ w'.cell? ⟨b, o + k * 4, none⟩ = some (.string xn) ∧ w'.cell? ⟨b, o + k * 4 + 1, none⟩ = some (.int .i64 xk) ∧ w'.cell? ⟨b, o + k * 4 + 2, none⟩ = some (.int .i64 xm) ∧ w'.cell? ⟨b, o + k * 4 + 3, none⟩ = some (.string xt) ∧ w'.cell? ⟨b', o' + k * 4, none⟩ = some (.string yn) ∧ w'.cell? ⟨b', o' + k * 4 + 1, none⟩ = some (.int .i64 yk) ∧ w'.cell? ⟨b', o' + k * 4 + 2, none⟩ = some (.int .i64 ym) ∧ w'.cell? ⟨b', o' + k * 4 + 3, none⟩ = some (.string yt)) (by kernel_rfl) (sees.out _ h0) (fun hHeld => ?_)
        refine Go.wpAnyH_take (i := 0) (oi := _) (v := ?_) rfl (by kernel_rfl) (by kernel_rfl) (by kernel_rfl) (fun _ _ _ h => h) (Or.inl ⟨by rfl, ?_⟩) (by assumption) ?_
        rotate_left 1
        · intro wx hSw
          go_simp <;> with_reducible rfl
        simp only [Act.put, List.getElem_toArray, List.getElem_cons_zero, List.setIfInBounds_toArray, List.set_cons_zero, List.set_cons_succ]
        refine Go.wpAnyH_take (i := 1) (oi := _) (v := ?_) rfl (by kernel_rfl) (by kernel_rfl) (by kernel_rfl) (fun _ _ _ h => h) (Or.inl ⟨by rfl, ?_⟩) (by assumption) ?_
        rotate_left 1
        · intro wx hSw
          go_simp <;> with_reducible rfl
        simp only [Act.put, List.getElem_toArray, List.getElem_cons_zero, List.getElem_cons_succ, List.setIfInBounds_toArray, List.set_cons_zero, List.set_cons_succ]
        refine Go.wpAnyH_take (i := 2) (oi := _) (v := ?_) rfl (by kernel_rfl) (by kernel_rfl) (by kernel_rfl) (fun _ _ _ h => h) (Or.inl ⟨by rfl, ?_⟩) (by assumption) ?_
        rotate_left 1
        · intro wx hSw
          go_simp <;> with_reducible rfl
        simp only [Act.put, List.getElem_toArray, List.getElem_cons_zero, List.getElem_cons_succ, List.setIfInBounds_toArray, List.set_cons_zero, List.set_cons_succ]
        refine Go.wpAnyH_take (i := 3) (oi := _) (v := ?_) rfl (by kernel_rfl) (by kernel_rfl) (by kernel_rfl) (fun _ _ _ h => h) (Or.inl ⟨by rfl, ?_⟩) (by assumption) ?_
        rotate_left 1
        · intro wx hSw
          go_simp <;> with_reducible rfl
        simp only [Act.put, List.getElem_toArray, List.getElem_cons_zero, List.getElem_cons_succ, List.setIfInBounds_toArray, List.set_cons_zero, List.set_cons_succ]
        refine Go.wpAnyH_take (i := 4) (oi := _) (v := ?_) rfl (by kernel_rfl) (by kernel_rfl) (by kernel_rfl) (fun _ _ _ h => h) (Or.inl ⟨by rfl, ?_⟩) (by assumption) ?_
        rotate_left 1
        · intro wx hSw
          go_simp <;> with_reducible rfl
        simp only [Act.put, List.getElem_toArray, List.getElem_cons_zero, List.getElem_cons_succ, List.setIfInBounds_toArray, List.set_cons_zero, List.set_cons_succ]
        refine Go.wpAnyH_take (i := 5) (oi := _) (v := ?_) rfl (by kernel_rfl) (by kernel_rfl) (by kernel_rfl) (fun _ _ _ h => h) (Or.inl ⟨by rfl, ?_⟩) (by assumption) ?_
        rotate_left 1
        · intro wx hSw
          go_simp <;> with_reducible rfl
        simp only [Act.put, List.getElem_toArray, List.getElem_cons_zero, List.getElem_cons_succ, List.setIfInBounds_toArray, List.set_cons_zero, List.set_cons_succ]
        refine Go.wpAnyH_take (i := 6) (oi := _) (v := ?_) rfl (by kernel_rfl) (by kernel_rfl) (by kernel_rfl) (fun _ _ _ h => h) (Or.inl ⟨by rfl, ?_⟩) (by assumption) ?_
        rotate_left 1
        · intro wx hSw
          go_simp <;> with_reducible rfl
        simp only [Act.put, List.getElem_toArray, List.getElem_cons_zero, List.getElem_cons_succ, List.setIfInBounds_toArray, List.set_cons_zero, List.set_cons_succ]
        refine Go.wpAnyH_take (i := 7) (oi := _) (v := ?_) rfl (by kernel_rfl) (by kernel_rfl) (by kernel_rfl) (fun _ _ _ h => h) (Or.inl ⟨by rfl, ?_⟩) (by assumption) ?_
        rotate_left 1
        · intro wx hSw
          go_simp <;> with_reducible rfl
        simp only [Act.put, List.getElem_toArray, List.getElem_cons_zero, List.getElem_cons_succ, List.setIfInBounds_toArray, List.set_cons_zero, List.set_cons_succ]
        refine Go.wpAnyH_take (i := 8) (oi := _) (v := ?_) rfl (by kernel_rfl) (by kernel_rfl) (by kernel_rfl) (fun _ _ _ h => h) (Or.inl ⟨by rfl, ?_⟩) (by assumption) ?_
        rotate_left 1
        · intro wx hSw
          go_simp <;> with_reducible rfl
        simp only [Act.put, List.getElem_toArray, List.getElem_cons_zero, List.getElem_cons_succ, List.setIfInBounds_toArray, List.set_cons_zero, List.set_cons_succ]
        refine Go.wpAnyH_take (i := 9) (oi := _) (v := ?_) rfl (by kernel_rfl) (by kernel_rfl) (by kernel_rfl) (fun _ _ _ h => h) (Or.inl ⟨by rfl, ?_⟩) (by assumption) ?_
        rotate_left 1
        · intro wx hSw
          go_simp <;> with_reducible rfl
        simp only [Act.put, List.getElem_toArray, List.getElem_cons_zero, List.getElem_cons_succ, List.setIfInBounds_toArray, List.set_cons_zero, List.set_cons_succ]
        refine Go.wpAnyH_take (i := 10) (oi := _) (v := ?_) rfl (by kernel_rfl) (by kernel_rfl) (by kernel_rfl) (fun _ _ _ h => h) (Or.inl ⟨by rfl, ?_⟩) (by assumption) ?_
        rotate_left 1
        · intro wx hSw
          go_simp <;> with_reducible rfl
        simp only [Act.put, List.getElem_toArray, List.getElem_cons_zero, List.getElem_cons_succ, List.setIfInBounds_toArray, List.set_cons_zero, List.set_cons_succ]
        refine Go.wpAnyH_take (i := 11) (oi := _) (v := ?_) rfl (by kernel_rfl) (by kernel_rfl) (by kernel_rfl) (fun _ _ _ h => h) (Or.inl ⟨by rfl, ?_⟩) (by assumption) ?_
        rotate_left 1
        · intro wx hSw
          go_simp <;> with_reducible rfl
        simp only [Act.put, List.getElem_toArray, List.getElem_cons_zero, List.getElem_cons_succ, List.setIfInBounds_toArray, List.set_cons_zero, List.set_cons_succ]
        refine Go.wpAnyH_take (i := 12) (oi := _) (v := ?_) rfl (by kernel_rfl) (by kernel_rfl) (by kernel_rfl) (fun _ _ _ h => h) (Or.inl ⟨by rfl, ?_⟩) (by assumption) ?_
        rotate_left 1
        · intro wx hSw
          go_simp <;> with_reducible rfl
        simp only [Act.put, List.getElem_toArray, List.getElem_cons_zero, List.getElem_cons_succ, List.setIfInBounds_toArray, List.set_cons_zero, List.set_cons_succ]
        refine Go.wpAnyH_take (i := 13) (oi := _) (v := ?_) rfl (by kernel_rfl) (by kernel_rfl) (by kernel_rfl) (fun _ _ _ h => h) (Or.inl ⟨by rfl, ?_⟩) (by assumption) ?_
        rotate_left 1
        · intro wx hSw
          go_simp <;> with_reducible rfl
        simp only [Act.put, List.getElem_toArray, List.getElem_cons_zero, List.getElem_cons_succ, List.setIfInBounds_toArray, List.set_cons_zero, List.set_cons_succ]
        refine Go.wpAnyH_take (i := 14) (oi := _) (v := ?_) rfl (by kernel_rfl) (by kernel_rfl) (by kernel_rfl) (fun _ _ _ h => h) (Or.inl ⟨by rfl, ?_⟩) (by assumption) ?_
        rotate_left 1
        · intro wx hSw
          go_simp <;> with_reducible rfl
        simp only [Act.put, List.getElem_toArray, List.getElem_cons_zero, List.getElem_cons_succ, List.setIfInBounds_toArray, List.set_cons_zero, List.set_cons_succ]
        refine Go.wpAnyH_take (i := 15) (oi := _) (v := ?_) rfl (by kernel_rfl) (by kernel_rfl) (by kernel_rfl) (fun _ _ _ h => h) (Or.inl ⟨by rfl, ?_⟩) (by assumption) ?_
        rotate_left 1
        · intro wx hSw
          go_simp <;> with_reducible rfl
        simp only [Act.put, List.getElem_toArray, List.getElem_cons_zero, List.getElem_cons_succ, List.setIfInBounds_toArray, List.set_cons_zero, List.set_cons_succ]
        refine Go.wpAnyH_take (i := 16) (oi := _) (v := ?_) rfl (by kernel_rfl) (by kernel_rfl) (by kernel_rfl) (fun _ _ _ h => h) (Or.inl ⟨by rfl, ?_⟩) (by assumption) ?_
        rotate_left 1
        · intro wx hSw
          go_simp <;> with_reducible rfl
        simp only [Act.put, List.getElem_toArray, List.getElem_cons_zero, List.getElem_cons_succ, List.setIfInBounds_toArray, List.set_cons_zero, List.set_cons_succ]
        refine Go.wpAnyH_take (i := 17) (oi := _) (v := ?_) rfl (by kernel_rfl) (by kernel_rfl) (by kernel_rfl) (fun _ _ _ h => h) (Or.inl ⟨by rfl, ?_⟩) (by assumption) ?_
        rotate_left 1
        · intro wx hSw
          go_simp <;> with_reducible rfl
        simp only [Act.put, List.getElem_toArray, List.getElem_cons_zero, List.getElem_cons_succ, List.setIfInBounds_toArray, List.set_cons_zero, List.set_cons_succ]
        refine Go.wpAnyH_take (i := 18) (oi := _) (v := ?_) rfl (by kernel_rfl) (by kernel_rfl) (by kernel_rfl) (fun _ _ _ h => h) (Or.inl ⟨by rfl, ?_⟩) (by assumption) ?_
        rotate_left 1
        · intro wx hSw
          go_simp <;> with_reducible rfl
        simp only [Act.put, List.getElem_toArray, List.getElem_cons_zero, List.getElem_cons_succ, List.setIfInBounds_toArray, List.set_cons_zero, List.set_cons_succ]
        refine Go.wpAnyH_take (i := 19) (oi := _) (v := ?_) rfl (by kernel_rfl) (by kernel_rfl) (by kernel_rfl) (fun _ _ _ h => h) (Or.inl ⟨by rfl, ?_⟩) (by assumption) ?_
        rotate_left 1
        · intro wx hSw
          go_simp <;> with_reducible rfl
        simp only [Act.put, List.getElem_toArray, List.getElem_cons_zero, List.getElem_cons_succ, List.setIfInBounds_toArray, List.set_cons_zero, List.set_cons_succ]
        refine Go.wpAnyH_take (i := 20) (oi := _) (v := ?_) rfl (by kernel_rfl) (by kernel_rfl) (by kernel_rfl) (fun _ _ _ h => h) (Or.inl ⟨by rfl, ?_⟩) (by assumption) ?_
        rotate_left 1
        · intro wx hSw
          go_simp <;> with_reducible rfl
        simp only [Act.put, List.getElem_toArray, List.getElem_cons_zero, List.getElem_cons_succ, List.setIfInBounds_toArray, List.set_cons_zero, List.set_cons_succ]
        refine Go.wpAnyH_take (i := 21) (oi := _) (v := ?_) rfl (by kernel_rfl) (by kernel_rfl) (by kernel_rfl) (fun _ _ _ h => h) (Or.inl ⟨by rfl, ?_⟩) (by assumption) ?_
        rotate_left 1
        · intro wx hSw
          go_simp <;> with_reducible rfl
        simp only [Act.put, List.getElem_toArray, List.getElem_cons_zero, List.getElem_cons_succ, List.setIfInBounds_toArray, List.set_cons_zero, List.set_cons_succ]
        refine Go.wpAnyH_take (i := 22) (oi := _) (v := ?_) rfl (by kernel_rfl) (by kernel_rfl) (by kernel_rfl) (fun _ _ _ h => h) (Or.inl ⟨by rfl, ?_⟩) (by assumption) ?_
        rotate_left 1
        · intro wx hSw
          go_simp <;> with_reducible rfl
        simp only [Act.put, List.getElem_toArray, List.getElem_cons_zero, List.getElem_cons_succ, List.setIfInBounds_toArray, List.set_cons_zero, List.set_cons_succ]
        refine Go.wpAnyH_take (i := 23) (oi := _) (v := ?_) rfl (by kernel_rfl) (by kernel_rfl) (by kernel_rfl) (fun _ _ _ h => h) (Or.inl ⟨by rfl, ?_⟩) (by assumption) ?_
        rotate_left 1
        · intro wx hSw
          go_simp <;> with_reducible rfl
        simp only [Act.put, List.getElem_toArray, List.getElem_cons_zero, List.getElem_cons_succ, List.setIfInBounds_toArray, List.set_cons_zero, List.set_cons_succ]
        refine Go.wpAnyH_take (i := 24) (oi := _) (v := ?_) rfl (by kernel_rfl) (by kernel_rfl) (by kernel_rfl) (fun _ _ _ h => h) (Or.inl ⟨by rfl, ?_⟩) (by assumption) ?_
        rotate_left 1
        · intro wx hSw
          go_simp <;> with_reducible rfl
        simp only [Act.put, List.getElem_toArray, List.getElem_cons_zero, List.getElem_cons_succ, List.setIfInBounds_toArray, List.set_cons_zero, List.set_cons_succ]
        refine Go.wpAnyH_take (i := 25) (oi := _) (v := ?_) rfl (by kernel_rfl) (by kernel_rfl) (by kernel_rfl) (fun _ _ _ h => h) (Or.inl ⟨by rfl, ?_⟩) (by assumption) ?_
        rotate_left 1
        · intro wx hSw
          go_simp <;> with_reducible rfl
        simp only [Act.put, List.getElem_toArray, List.getElem_cons_zero, List.getElem_cons_succ, List.setIfInBounds_toArray, List.set_cons_zero, List.set_cons_succ]
        refine Go.wpAnyH_take (i := 26) (oi := _) (v := ?_) rfl (by kernel_rfl) (by kernel_rfl) (by kernel_rfl) (fun _ _ _ h => h) (Or.inl ⟨by rfl, ?_⟩) (by assumption) ?_
        rotate_left 1
        · intro wx hSw
          go_simp <;> with_reducible rfl
        simp only [Act.put, List.getElem_toArray, List.getElem_cons_zero, List.getElem_cons_succ, List.setIfInBounds_toArray, List.set_cons_zero, List.set_cons_succ]
        refine Go.wpAnyH_take (i := 27) (oi := _) (v := ?_) rfl (by kernel_rfl) (by kernel_rfl) (by kernel_rfl) (fun _ _ _ h => h) (Or.inl ⟨by rfl, ?_⟩) (by assumption) ?_
        rotate_left 1
        · intro wx hSw
          go_simp <;> with_reducible rfl
        simp only [Act.put, List.getElem_toArray, List.getElem_cons_zero, List.getElem_cons_succ, List.setIfInBounds_toArray, List.set_cons_zero, List.set_cons_succ]
        refine Go.wpAnyH_ready (rs := [28]) (by kernel_rfl) (by simp) ?_
        refine Go.AllReadyH.cons rfl (fun K hK => ?_) Go.AllReadyH.nil
        rw [if_pos (by rfl)]
        go_simp
        go_at_call 54
        refine (cK1.out _ hHeld.1).mono ?_
        rintro e v1 ⟨rfl, h1⟩
        refine hK.out _ _ (sees.out _ h1) (fun hHeld => ?_)
        clear hK K
        refine Go.wpAnyH_take (i := 29) (oi := _) (v := ?_) rfl (by kernel_rfl) (by kernel_rfl) (by kernel_rfl) (fun _ _ _ h => h) (Or.inl ⟨by rfl, ?_⟩) (by assumption) ?_
        rotate_left 1
        · intro wx hSw
          go_simp <;> with_reducible rfl
        simp only [Act.put, List.getElem_toArray, List.getElem_cons_zero, List.getElem_cons_succ, List.setIfInBounds_toArray, List.set_cons_zero, List.set_cons_succ]
        refine Go.wpAnyH_take (i := 30) (oi := _) (v := ?_) rfl (by kernel_rfl) (by kernel_rfl) (by kernel_rfl) (fun _ _ _ h => h) (Or.inl ⟨by rfl, ?_⟩) (by assumption) ?_
        rotate_left 1
        · intro wx hSw
          go_simp <;> with_reducible rfl
        simp only [Act.put, List.getElem_toArray, List.getElem_cons_zero, List.getElem_cons_succ, List.setIfInBounds_toArray, List.set_cons_zero, List.set_cons_succ]
        refine Go.wpAnyH_done (by kernel_rfl) ?_ _
        have q1 : Hid (Q wr v1) := h1
        replace B5 := Lib.hid (B5.out.stays q1.out)
        replace B7 := Lib.hid (B7.out.stays q1.out)
        replace HI := Lib.hid (HI.out.stays q1.out)
        replace HI2 := Lib.hid (HI2.out.stays q1.out)
        replace QQ := Lib.hid (QQ.out.trans q1.out)
        clear h1 h0 sees cK1 q1 hHeld
        cases BM with
        | false =>
          have hno := Lib.hid (hstop.out (fun h => by have h1 := hMt.out.2 h; cases h1))
          clear hstop hnext hMt HW HN HN2 HPL HPK HR HX HWH B5 B7 HI HI2 hML
          go_wp2_with fail
          go_ret
          exact WiEnds.no hno QQ.out
        | true =>
          have hnx := Lib.hid (hnext.out (hMt.out.1 rfl))
          clear hstop hnext hMt
          go_wp2_with fail
          go_roundw
          case rel => exact ⟨k + 1, hlt, by go_num, QQ, B5, B7, HI, HI2, hnx⟩
          case measure => simp [intOf]; omega
    · obtain rfl : n2 = k := by omega
      have f5 : ¬ (n2 : Int) < (n2 : Int) := by omega
      have hall : Hid (∀ (j : Nat) (h : j < MS.length) (h' : j < ps.length), Mt MS[j] ps[j]) := Lib.hid (fun j h h' => HH.out j h h' (by have h2 := HN2.out; omega))
      have hle : Hid (ps.length ≤ MS.length) := Lib.hid (by have h1 := HN.out; have h2 := HN2.out; omega)
      clear HH HI HI2 HPL HPK hlt hk
      cases x with
      | none =>
        have hwh : wh = false := HWH.out
        subst hwh
        have hy : Hid (Wi L P) := Lib.hid (HW.out.2 (bl_path hle.out hall.out))
        have l7 := B7.out.cells.2.2.2.2.2.2.2
        clear HW HN HN2 HR HX HWH hML B5 B7 hall hle
        go_wp2_with fail
        go_ret
        exact WiEnds.of (Lib.hid ⟨fun _ => hy.out, fun _ => rfl⟩) QQ.out
      | some r =>
        have hwh : wh = true := HWH.out
        subst hwh
        have hx : (⟨d2, ty2, nm2, ⟨kd2, m2, t2⟩⟩ : Rs) = r := HX.out
        subst hx
        obtain ⟨hok, htn⟩ := HR.out _ rfl
        simp only at hok htn
        have hwi : Hid (Wi L P ↔ (MS.length = ps.length ∧ d = d2 ∧ ty = ty2 ∧ Mt ⟨nm, ⟨kd, m, t⟩⟩ ⟨nm2, ⟨kd2, m2, t2⟩⟩)) := Lib.hid (HW.out.trans (bl_res htn hle.out hall.out))
        obtain ⟨_, l1, l2, l3, l4, l5, l6, l7⟩ := B7.out.cells
        have x1 := B5.out.at 1 (.bool d) rfl
        have x2 := B5.out.at 2 (.string ty) rfl
        have x3 := B5.out.at 3 (.string nm) rfl
        have x4 := B5.out.at 4 (.int .i64 kd) rfl
        have x5 := B5.out.at 5 (.int .i64 m) rfl
        have x6 := B5.out.at 6 (.string t) rfl
        have hnl : (n = n2) ↔ (MS.length = ps.length) := by have h1 := HN.out; have h2 := HN2.out; rw [h1, h2]
        have HNL := Lib.hid hnl
        have hMt : Hid (mtB ⟨kd2, m2, t2⟩ ⟨kd, m, t⟩ = true ↔ ((⟨kd2, m2, t2⟩ : K) = K.zero ∨ (⟨kd, m, t⟩ : K) = ⟨kd2, m2, t2⟩)) := Lib.hid (mtB_iff _ _ hok)
        have cK := Lib.hid (cM.out ⟨kd2, m2, t2⟩ ⟨kd, m, t⟩)
        simp only at cK
        clear HW HN HN2 HR HX HWH hML B5 B7 hall hle hok htn hnl cM
        generalize mtB ⟨kd2, m2, t2⟩ ⟨kd, m, t⟩ = BM at *
        cases a0 : ((n : Int) == (n2 : Int)) with
        | false =>
          have hno : Hid (¬ Wi L P) := Lib.hid (fun g => by have h := HNL.out.2 (hwi.out.1 g).1; rw [beq_eq_false_iff_ne] at a0; omega)
          clear hwi HNL hMt cK
          go_wp2_with fail
          go_ret
          exact WiEnds.no hno QQ.out
        | true =>
        have hnn := HNL.out.1 (by rw [beq_iff_eq] at a0; omega)
        cases a1 : (d == d2) with
        | false =>
          have hno : Hid (¬ Wi L P) := Lib.hid (fun g => by have h := (hwi.out.1 g).2.1; rw [h] at a1; simp at a1)
          clear hwi HNL hMt cK hnn
          cases d <;> cases d2 <;> first | (cases a1; done) | skip
          all_goals
            go_wp2_with fail
            go_ret
            exact WiEnds.no hno QQ.out
        | true =>
        obtain rfl : d = d2 := by simpa using a1
        clear a1
        cases a2 : (ty.toList == ty2.toList) with
        | false =>
          have hno : Hid (¬ Wi L P) := Lib.hid (fun g => by have h := (tl_iff ty ty2).2 (hwi.out.1 g).2.2.1; rw [a2] at h; cases h)
          clear hwi HNL hMt cK hnn
          go_wp2_with fail
          go_ret
          exact WiEnds.no hno QQ.out
        | true =>
        cases a3 : (nm.toList == nm2.toList) with
        | false =>
          have hno : Hid (¬ Wi L P) := Lib.hid (fun g => by have h := (tl_iff nm nm2).2 (hwi.out.1 g).2.2.2.1; rw [a3] at h; cases h)
          clear hwi HNL hMt cK hnn
          go_wp2_with fail
          go_ret
          exact WiEnds.no hno QQ.out
        | true =>
          have hy : Hid (BM = true ↔ Wi L P) := Lib.hid (hMt.out.trans ⟨fun h => hwi.out.2 ⟨hnn, rfl, (tl_iff ty ty2).1 a2, (tl_iff nm nm2).1 a3, h⟩, fun g => (hwi.out.1 g).2.2.2.2⟩)
          clear hwi HNL hMt hnn
          go_wp2_with fail
          refine (cK.out _).mono ?_; rintro e w9 ⟨rfl, q9⟩
          replace QQ := Lib.hid (QQ.out.trans q9)
          clear q9 cK
          go_wp2_with fail
          go_ret
          exact WiEnds.of hy QQ.out

end Go.Proofs.YthekabflbpfjoaaGreatDoor.adr
