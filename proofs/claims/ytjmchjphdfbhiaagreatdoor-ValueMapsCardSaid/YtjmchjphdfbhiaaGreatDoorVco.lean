/- copyOf. -/
import Derived.Test.YtjmchjphdfbhiaaGreatDoorVuq
import Derived.Test.YtjmchjphdfbhiaaGreatDoorVno
import Derived.Deep.LoopGhost
namespace Go.Proofs.YtjmchjphdfbhiaaGreatDoor.val.cp
open Go.RowKit
open Go.Proofs.YtjmchjphdfbhiaaGreatDoor
/-! ### values whose strings can be copied -/
mutual
def Fit : V → Prop
  | ⟨_, _, s, l, ks⟩ => s.size ≤ 281474976710656 ∧ (∀ k ∈ ks, k.size ≤ 281474976710656) ∧ l.length ≤ 1000000 ∧ ks.length ≤ 1000000 ∧ FitL l
def FitL : List V → Prop
  | [] => True
  | v :: t => Fit v ∧ FitL t
end
theorem Fit_iff (v : V) : Fit v ↔ v.str.size ≤ 281474976710656 ∧ (∀ k ∈ v.keys, k.size ≤ 281474976710656) ∧ v.items.length ≤ 1000000 ∧ v.keys.length ≤ 1000000 ∧ FitL v.items := by
  cases v
  rw [Fit]
  rfl
theorem FitL_cons (v : V) (t : List V) : FitL (v :: t) ↔ Fit v ∧ FitL t := by rw [FitL]
theorem FitL_nil : FitL [] := by rw [FitL]; trivial
theorem FitL_mem : ∀ (l : List V), FitL l ↔ ∀ v ∈ l, Fit v
  | [] => ⟨fun _ _ h => (List.not_mem_nil h).elim, fun _ => FitL_nil⟩
  | v :: t => by
    rw [FitL_cons, FitL_mem t]
    simp
/-- What lies below the nodes of a row. -/
def below : List V → Nat
  | [] => 0
  | v :: t => nodesL v.items + below t
theorem below_eq : ∀ l : List V, below l + l.length = nodesL l
  | [] => rfl
  | v :: t => by
    rw [below, nodesL, nodes_eta, List.length_cons, ← below_eq t]
    omega
def belowS : List (List V) → Nat
  | [] => 0
  | l :: r => below l + belowS r
def allS : List (List V) → Nat
  | [] => 0
  | l :: r => nodesL l + allS r
/-- The blocks in which no row lies: the stack's and the result's. -/
def Bad (a : Nat → Prop) (B P1 g : Nat) (b : Nat) : Prop := b = g ∨ b = P1 ∨ (a b ∧ b < B)
/-- A row that the call owns: a block of values of its own. -/
structure Rw (a : Nat → Prop) (B P1 g : Nat) (R n c : Nat) (l : List V) (w : World) : Prop where
  len : n = l.length
  cap : n ≤ c
  pos : 0 < n
  small : n ≤ 1000000
  res : P1 < R
  base : B ≤ R
  ne : R ≠ g
  wl : WL B (Bad a B P1 g) l R 0 w
  own : ∃ cur, w.heap[R]? = some (.cells cur 26 (0, 0))
  fit : FitL l
theorem Rw.nb {a : Nat → Prop} {B P1 g R n c : Nat} {l : List V} {w : World} (h : Rw a B P1 g R n c l w) : ¬ Bad a B P1 g R := fun e => by have := h.res; have := h.ne; have := h.base; rcases e with e | e | e <;> omega
theorem Rw.lt {a : Nat → Prop} {B P1 g R n c : Nat} {l : List V} {w : World} (h : Rw a B P1 g R n c l w) : R < w.heap.size := by
  obtain ⟨cur, hc⟩ := h.own
  exact (Array.getElem?_eq_some_iff.1 hc).1
/-- The rows that are open. -/
def CR (a : Nat → Prop) (B P1 g : Nat) : List Value → List (List V) → World → Prop
  | [], [], _ => True
  | y :: ys, l :: ls, w => (∃ R n c, y = .slice (some ⟨R, 0, none⟩) n c ∧ Rw a B P1 g R n c l w) ∧ CR a B P1 g ys ls w
  | _, _, _ => False
theorem CR.map {a : Nat → Prop} {B P1 g g' : Nat} {w w' : World} (h : ∀ R n c l, Rw a B P1 g R n c l w → Rw a B P1 g' R n c l w') : ∀ (ys : List Value) (ls : List (List V)), CR a B P1 g ys ls w → CR a B P1 g' ys ls w'
  | [], [], _ => trivial
  | _ :: ys, _ :: ls, k => by
    obtain ⟨⟨R, n, c, e, r⟩, k2⟩ := k
    exact ⟨⟨R, n, c, e, h _ _ _ _ r⟩, CR.map h ys ls k2⟩
  | [], _ :: _, h => h.elim
  | _ :: _, [], h => h.elim
theorem CR.len {a : Nat → Prop} {B P1 g : Nat} {w : World} : ∀ (ys : List Value) (ls : List (List V)), CR a B P1 g ys ls w → ys.length = ls.length
  | [], [], _ => rfl
  | _ :: ys, _ :: ls, h => by rw [List.length_cons, List.length_cons, CR.len ys ls h.2]
  | [], _ :: _, h => h.elim
  | _ :: _, [], h => h.elim
theorem CR.few {a : Nat → Prop} {B P1 g : Nat} {w : World} : ∀ {ys : List Value} {ls : List (List V)}, CR a B P1 g ys ls w → ls.length ≤ allS ls
  | [], [], _ => Nat.le_refl _
  | _ :: ys, l :: ls, h => by
    obtain ⟨⟨R, n, c, _, r⟩, h2⟩ := h
    have h3 := CR.few h2
    have h4 := below_eq l
    have h5 := r.pos
    have h6 := r.len
    rw [List.length_cons]
    show ls.length + 1 ≤ nodesL l + allS ls
    omega
  | [], _ :: _, h => h.elim
  | _ :: _, [], h => h.elim
theorem Rw.q {a : Nat → Prop} {B P1 g R n c : Nat} {l : List V} {w w' : World} (h : Rw a B P1 g R n c l w) (q : Q w w') : Rw a B P1 g R n c l w' := by
  obtain ⟨cur, hc⟩ := h.own
  exact ⟨h.len, h.cap, h.pos, h.small, h.res, h.base, h.ne, (Wi.both_stays B _ q).2 _ _ _ h.wl, ⟨cur, (q.block R h.lt).trans hc⟩, h.fit⟩
theorem Rw.upd {a : Nat → Prop} {B P1 g R n c R' i : Nat} {l : List V} {x : V} {w w' : World} (h : Rw a B P1 g R n c l w) (u : Upd B (Bad a B P1 g) R' i x w w') (hb : ∀ j, j ≠ R' → w'.heap[j]? = w.heap[j]?) (ho : ∃ cur, w'.heap[R']? = some (.cells cur 26 (0, 0))) : Rw a B P1 g R n c l w' := by
  refine ⟨h.len, h.cap, h.pos, h.small, h.res, h.base, h.ne, u.wl (.inr rfl) h.nb h.wl, ?_, h.fit⟩
  by_cases e : R = R'
  · rw [e]
    exact ho
  · obtain ⟨cur, hc⟩ := h.own
    exact ⟨cur, (hb R e).trans hc⟩
theorem Rw.but {a : Nat → Prop} {B P1 g g' R n c : Nat} {l : List V} {w w' : World} (h : Rw a B P1 g R n c l w) (hb : ∀ j, j ≠ g → j < w.heap.size → w'.heap[j]? = w.heap[j]? ∧ j ≠ g') : Rw a B P1 g' R n c l w' := by
  obtain ⟨cur, hc⟩ := h.own
  have hR := hb R h.ne h.lt
  exact ⟨h.len, h.cap, h.pos, h.small, h.res, h.base, hR.2, (Wi.both_but fun a u ha hne => ⟨(cell_block (hb a.block (fun e => hne (.inl e)) (cell_lt ha)).1).trans ha, fun e => e.elim (hb a.block (fun e => hne (.inl e)) (cell_lt ha)).2 (fun e => hne (.inr e))⟩).2 _ _ _ h.nb h.wl, ⟨cur, hR.1.trans hc⟩, h.fit⟩
/-- What both loops know: the rows that are open, the value under the root, the result's block. -/
structure Ci (a : Nat → Prop) (w : World) (P1 R0 : Nat) (v : V) (g n cap : Nat) (ys : List Value) (ls : List (List V)) (wr : World) : Prop where
  len : ys.length = n
  own : Ow 23 w.heap.size g cap ys.reverse wr
  rows : CR a w.heap.size P1 g ys ls wr
  root : ∃ c0 c1 c2 c3 c4, C5 R0 0 c0 c1 c2 c3 c4 wr ∧ Wi w.heap.size (Bad a w.heap.size P1 g) v c0 c1 c2 c3 c4 wr
  rne : R0 ≠ g
  rbase : w.heap.size ≤ R0
  pbase : w.heap.size ≤ P1
  plt : P1 < R0
  res : Bk P1 #[.int .i64 0, .int .i64 0, .string ⟨#[]⟩, .slice none 0 0, .slice none 0 0] 26 wr
  q : Q w wr
theorem Ci.glt {a : Nat → Prop} {w : World} {P1 R0 : Nat} {v : V} {g n cap : Nat} {ys : List Value} {ls : List (List V)} {wr : World} (h : Ci a w P1 R0 v g n cap ys ls wr) : w.heap.size ≤ g ∧ g < wr.heap.size := h.own.base
theorem Ci.moved {a : Nat → Prop} {w : World} {P1 R0 : Nat} {v : V} {g n cap : Nat} {ys : List Value} {ls : List (List V)} {wr w' : World} (h : Ci a w P1 R0 v g n cap ys ls wr) (q : Q wr w') : Ci a w P1 R0 v g n cap ys ls w' := by
  obtain ⟨c0, c1, c2, c3, c4, h5, hw⟩ := h.root
  exact ⟨h.len, h.own.kept (q.block g h.glt.2), CR.map (fun R n c l r => r.q q) ys ls h.rows, ⟨c0, c1, c2, c3, c4, h5.stays q, (Wi.both_stays _ _ q).1 _ _ _ _ _ _ hw⟩, h.rne, h.rbase, h.pbase, h.plt, h.res.stays q, h.q.trans q⟩
/-- The cells at the root behind a store of a copied node. -/
theorem Upd.root {B R i R0 : Nat} {gb : Nat → Prop} {x v : V} {w w' : World} (u : Upd B gb R i x w w') (hne : ¬ gb R0) (h : ∃ c0 c1 c2 c3 c4, C5 R0 0 c0 c1 c2 c3 c4 w ∧ Wi B gb v c0 c1 c2 c3 c4 w) : ∃ c0 c1 c2 c3 c4, C5 R0 0 c0 c1 c2 c3 c4 w' ∧ Wi B gb v c0 c1 c2 c3 c4 w' := by
  obtain ⟨c0, c1, c2, c3, c4, h5, hw⟩ := h
  have hl : WL B gb [v] R0 0 w := (WL_cons ..).2 ⟨⟨c0, c1, c2, c3, c4, by simpa using h5.a, by simpa using h5.b, by simpa using h5.c, by simpa using h5.d, by simpa using h5.e, hw⟩, WL_nil _ _ _ _ _⟩
  obtain ⟨d0, d1, d2, d3, d4, g5, gw⟩ := WL.at _ _ _ _ _ _ (u.wl (.inr rfl) hne hl) 0 (by simp)
  exact ⟨d0, d1, d2, d3, d4, by simpa using g5, gw⟩
theorem Ci.upd {a : Nat → Prop} {w : World} {P1 R0 : Nat} {v : V} {g n cap : Nat} {ys : List Value} {ls : List (List V)} {wr w' : World} {R i : Nat} {x : V} (h : Ci a w P1 R0 v g n cap ys ls wr) (u : Upd w.heap.size (Bad a w.heap.size P1 g) R i x wr w') (hP : P1 < R)
    (hb : ∀ j, j ≠ R → w'.heap[j]? = wr.heap[j]?) (ho : ∃ cur, w'.heap[R]? = some (.cells cur 26 (0, 0))) (hw : w'.os = wr.os ∧ w'.tape = wr.tape ∧ w'.output = wr.output ∧ w'.heap.size = wr.heap.size) : Ci a w P1 R0 v g n cap ys ls w' := by
  have hR := u.base
  refine ⟨h.len, h.own.kept (hb g (fun e => u.own (.inl e.symm))), CR.map (fun R n c l r => r.upd u hb ho) ys ls h.rows, Upd.root u (fun e => by have := h.plt; have := h.rbase; have := h.rne; rcases e with e | e | e <;> omega) h.root, h.rne, h.rbase, h.pbase, h.plt, (hb P1 (by omega)).trans h.res, ?_⟩
  exact ⟨hw.1.trans h.q.os, hw.2.1.trans h.q.tape, hw.2.2.1.trans h.q.output, by have := h.q.size; omega, fun j hj => (hb j (by omega)).trans (h.q.block j hj)⟩
theorem Ci.push {a : Nat → Prop} {w : World} {P1 R0 : Nat} {v : V} {g g' n cap cap' : Nat} {ys : List Value} {ls : List (List V)} {wr W w' : World} {F m c : Nat} {l : List V} (h : Ci a w P1 R0 v g n cap ys ls wr) (r : Rw a w.heap.size P1 g F m c l wr) (qW : Q wr W)
    (O : Ow 23 w.heap.size g' cap' (ys.reverse ++ [.slice (some ⟨F, 0, none⟩) m c]) w') (G : W.grownBy w' (some g)) (hg' : g' = g ∨ g' = W.heap.size) : Ci a w P1 R0 v g' (n + 1) cap' (.slice (some ⟨F, 0, none⟩) m c :: ys) (l :: ls) w' := by
  have hg := h.glt
  have hs := qW.size
  have hb : ∀ j, j ≠ g → j < wr.heap.size → w'.heap[j]? = wr.heap[j]? ∧ j ≠ g' := fun j hj hl => ⟨(G.block j (by omega) (by simp only [ne_eq, Option.some.injEq]; omega)).trans (qW.block j hl), by omega⟩
  obtain ⟨c0, c1, c2, c3, c4, h5, hw⟩ := h.root
  have hR0 : R0 < wr.heap.size := cell_lt h5.a
  refine ⟨by rw [List.length_cons, h.len], by rw [List.reverse_cons]; exact O, ⟨⟨F, m, c, rfl, r.but hb⟩, CR.map (fun R n c l r => r.but hb) ys ls h.rows⟩, ⟨c0, c1, c2, c3, c4, h5.kept (hb R0 h.rne hR0).1, ?_⟩, (hb R0 h.rne hR0).2, h.rbase, h.pbase, h.plt, ?_, ?_⟩
  · exact (Wi.both_but fun a u ha hne => ⟨(cell_block (hb a.block (fun e => hne (.inl e)) (cell_lt ha)).1).trans ha, fun e => e.elim (hb a.block (fun e => hne (.inl e)) (cell_lt ha)).2 (fun e => hne (.inr e))⟩).1 _ _ _ _ _ _ hw
  · have hp : P1 ≠ g := by
      intro e
      have hh := h.own
      have hbk := h.res
      rcases hh.2 with ⟨e', _⟩ | ⟨g2, cap2, cur, hv, _, hgc, _⟩
      · cases e'
      · simp only [Value.slice.injEq, Option.some.injEq, Addr.mk.injEq] at hv
        obtain ⟨⟨rfl, _⟩, _, _⟩ := hv
        rw [e] at hbk
        have := hgc.symm.trans hbk
        simp only [Option.some.injEq, Obj.cells.injEq] at this
        exact absurd this.2.1 (by decide)
    exact (hb P1 hp h.res.lt).1.trans h.res
  · have h0 := h.q.size
    exact ⟨G.os.trans (qW.os.trans h.q.os), G.tape.trans (qW.tape.trans h.q.tape), G.output.trans (qW.output.trans h.q.output), by have := G.size; omega, fun j hj => (hb j (by omega) (by omega)).1.trans (h.q.block j hj)⟩

/-- Five cells stored. -/
def set5 (w : World) (R o : Nat) (d0 d1 d2 d3 d4 : Value) : World := ((((w.setCell ⟨R, o, none⟩ d0).setCell ⟨R, o + 1, none⟩ d1).setCell ⟨R, o + 2, none⟩ d2).setCell ⟨R, o + 3, none⟩ d3).setCell ⟨R, o + 4, none⟩ d4
theorem off_ne {R i j : Nat} (h : i ≠ j) : (⟨R, i, none⟩ : Addr) ≠ ⟨R, j, none⟩ := fun e => h (congrArg Addr.off e)
theorem set5_own {w : World} {R o : Nat} {cur : Array Value} (h : w.heap[R]? = some (.cells cur 26 (0, 0))) (d0 d1 d2 d3 d4 : Value) : ∃ cur', (set5 w R o d0 d1 d2 d3 d4).heap[R]? = some (.cells cur' 26 (0, 0)) := by
  have h0 := heap_setCell_same w R o cur 26 d0 h
  have h1 := heap_setCell_same _ R (o + 1) _ 26 d1 h0
  have h2 := heap_setCell_same _ R (o + 2) _ 26 d2 h1
  have h3 := heap_setCell_same _ R (o + 3) _ 26 d3 h2
  have h4 := heap_setCell_same _ R (o + 4) _ 26 d4 h3
  exact ⟨_, h4⟩
theorem set5_block (w : World) (R o : Nat) (d0 d1 d2 d3 d4 : Value) (j : Nat) (hj : j ≠ R) : (set5 w R o d0 d1 d2 d3 d4).heap[j]? = w.heap[j]? :=
  (Below.heap_setCell _ ⟨R, o + 4, none⟩ _ j hj).trans ((Below.heap_setCell _ ⟨R, o + 3, none⟩ _ j hj).trans ((Below.heap_setCell _ ⟨R, o + 2, none⟩ _ j hj).trans ((Below.heap_setCell _ ⟨R, o + 1, none⟩ _ j hj).trans (Below.heap_setCell _ ⟨R, o, none⟩ _ j hj))))
theorem set5_world (w : World) (R o : Nat) (d0 d1 d2 d3 d4 : Value) : (set5 w R o d0 d1 d2 d3 d4).os = w.os ∧ (set5 w R o d0 d1 d2 d3 d4).tape = w.tape ∧ (set5 w R o d0 d1 d2 d3 d4).output = w.output ∧ (set5 w R o d0 d1 d2 d3 d4).heap.size = w.heap.size := by
  simp [set5, World.setCell]
theorem set5_out (w : World) (R o : Nat) (d0 d1 d2 d3 d4 : Value) (a : Addr) (u : Value) (h : w.cell? a = some u) (hn : a.block ≠ R ∨ a.off < o ∨ o + 5 ≤ a.off) : (set5 w R o d0 d1 d2 d3 d4).cell? a = some u := by
  have ne : ∀ i, i < 5 → a ≠ ⟨R, o + i, none⟩ := by
    rintro i hi rfl
    simp only at hn
    omega
  unfold set5
  rw [World.cell?_setCell_other _ _ _ _ (ne 4 (by decide)).symm, World.cell?_setCell_other _ _ _ _ (ne 3 (by decide)).symm, World.cell?_setCell_other _ _ _ _ (ne 2 (by decide)).symm, World.cell?_setCell_other _ _ _ _ (ne 1 (by decide)).symm, World.cell?_setCell_other _ ⟨R, o, none⟩ _ _ (ne 0 (by decide)).symm]
  exact h
theorem set5_at {w : World} {R o : Nat} {c0 c1 c2 c3 c4 : Value} (h : C5 R o c0 c1 c2 c3 c4 w) (d0 d1 d2 d3 d4 : Value) : C5 R o d0 d1 d2 d3 d4 (set5 w R o d0 d1 d2 d3 d4) := by
  unfold set5
  refine ⟨?_, ?_, ?_, ?_, ?_⟩
  · rw [World.cell?_setCell_other _ _ _ _ (off_ne (by omega)), World.cell?_setCell_other _ _ _ _ (off_ne (by omega)), World.cell?_setCell_other _ _ _ _ (off_ne (by omega)), World.cell?_setCell_other _ _ _ _ (off_ne (by omega)), World.cell?_setCell_same _ _ _ h.a]
  · rw [World.cell?_setCell_other _ _ _ _ (off_ne (by omega)), World.cell?_setCell_other _ _ _ _ (off_ne (by omega)), World.cell?_setCell_other _ _ _ _ (off_ne (by omega)), World.cell?_setCell_same _ _ _ ((World.cell?_setCell_other _ _ _ _ (off_ne (by omega))).trans h.b)]
  · rw [World.cell?_setCell_other _ _ _ _ (off_ne (by omega)), World.cell?_setCell_other _ _ _ _ (off_ne (by omega)), World.cell?_setCell_same _ _ _ ((World.cell?_setCell_other _ _ _ _ (off_ne (by omega))).trans ((World.cell?_setCell_other _ _ _ _ (off_ne (by omega))).trans h.c))]
  · rw [World.cell?_setCell_other _ _ _ _ (off_ne (by omega)), World.cell?_setCell_same _ _ _ ((World.cell?_setCell_other _ _ _ _ (off_ne (by omega))).trans ((World.cell?_setCell_other _ _ _ _ (off_ne (by omega))).trans ((World.cell?_setCell_other _ _ _ _ (off_ne (by omega))).trans h.d)))]
  · rw [World.cell?_setCell_same _ _ _ ((World.cell?_setCell_other _ _ _ _ (off_ne (by omega))).trans ((World.cell?_setCell_other _ _ _ _ (off_ne (by omega))).trans ((World.cell?_setCell_other _ _ _ _ (off_ne (by omega))).trans ((World.cell?_setCell_other _ _ _ _ (off_ne (by omega))).trans h.e))))]
/-- The store of a copied node. -/
theorem upd_of {a : Nat → Prop} {B g P1 R k : Nat} {x : V} {A3 A4 : Option Addr} {k3 k4 : Nat} {wr w1 : World} {B3 : Option Addr} {d3 : Nat} {s4 : Value} (hB : B ≤ R) (hne : ¬ Bad a B P1 g R) (hg : g < wr.heap.size) (hp : P1 < wr.heap.size) (h5 : C5 R (k * 5) (.int .i64 x.kind) (.int .i64 x.num) (.string x.str) (.slice A3 x.items.length k3) (.slice A4 x.keys.length k4) wr)
    (hw : Wi B (Bad a B P1 g) x (.int .i64 x.kind) (.int .i64 x.num) (.string x.str) (.slice A3 x.items.length k3) (.slice A4 x.keys.length k4) wr) (N : Noded x A3 A4 wr B3 d3 s4 w1) (hRlt : R < wr.heap.size) :
    Upd B (Bad a B P1 g) R k x w1 (set5 w1 R (k * 5) (.int .i64 x.kind) (.int .i64 x.num) (.string x.str) (.slice B3 x.items.length d3) s4) := by
  have h1 := h5.stays N.q
  have hw1 := (Wi.both_stays B _ N.q).1 _ _ _ _ _ _ hw
  refine ⟨hB, hne, fun a u ha hn => set5_out w1 R (k * 5) _ _ _ _ _ a u ha hn, ⟨_, _, _, _, _, h1, hw1, B3, d3, s4, set5_at h1 _ _ _ _ _, N.le, ?_, ?_⟩⟩
  · obtain ⟨A, c, e, hc, g'⟩ := N.keys
    refine ⟨A, c, e, hc, fun hn => ?_⟩
    obtain ⟨F, e', hF, kl⟩ := g' hn
    refine ⟨F, 0, e', fun e => by rcases e with e | e | e <;> omega, KL.of_at _ _ _ _ fun j hj => ?_⟩
    exact set5_out w1 R (k * 5) _ _ _ _ _ _ _ (KL.at _ _ _ _ kl j hj) (.inl (by simp only; omega))
  · intro hn
    obtain ⟨F, b, o, e1, e2, hF, _, hc⟩ := N.row (List.length_pos_iff.2 hn)
    subst e2
    refine ⟨F, b, o, k3, e1, fun e => by rcases e with e | e | e <;> omega, rfl, fun j u hj hu => ?_⟩
    obtain ⟨_, _, _, ⟨A, c, e3, _, gg⟩, _⟩ := (Wi_iff ..).1 hw
    obtain ⟨b', o', e', _, _, wl⟩ := gg hn
    simp only [Value.slice.injEq] at e3
    rw [← e3.1] at e'
    simp only [Option.some.injEq, Addr.mk.injEq] at e'
    obtain ⟨rfl, rfl, _⟩ := e'
    obtain ⟨u', hu', _⟩ := VL.cells ((Wi.both_vi _ _ _).2 _ _ _ wl) j hj
    have := cell_stays N.q hu'
    have e := hu.symm.trans this
    simp only [Option.some.injEq] at e
    subst e
    exact set5_out w1 R (k * 5) _ _ _ _ _ _ _ (hc j u hj hu') (.inl (by simp only; omega))

set_option maxRecDepth 100000 in
set_option maxHeartbeats 16000000 in
theorem copyOf_gen (v : V) (A3 A4 : Option Addr) (k3 k4 most : Nat) (w : World) (X : Nat → Prop) (hX : Wi w.heap.size (fun b => X b ∨ w.heap.size ≤ b) v (.int .i64 v.kind) (.int .i64 v.num) (.string v.str) (.slice A3 v.items.length k3) (.slice A4 v.keys.length k4) w) (hf : Fit v) (hm : nodesL v.items ≤ most) (hb : most ≤ 1000000000) (hv : nodes v ≤ 900000) :
    Calls Tryz.prog 50 #[.agg #[.int .i64 v.kind, .int .i64 v.num, .string v.str, .slice A3 v.items.length k3, .slice A4 v.keys.length k4], .int .i64 most] w fun e w' => ∃ s3 s4, e = .returned (.agg #[.int .i64 v.kind, .int .i64 v.num, .string v.str, s3, s4]) ∧ (∀ wf : World, (∀ j, j < w'.heap.size → (¬ X j ∨ w.heap.size ≤ j) → wf.heap[j]? = w'.heap[j]?) → Is s3 v.items wf ∧ Ks s4 v.keys wf) ∧ Q w w' := by
  have H0 : Hid (Ci X w (w.heap.size + 1) (w.heap.size + 1 + 1) v (w.heap.size + 1 + 1 + 1) 1 1 [.slice (some ⟨w.heap.size + 1 + 1, 0, none⟩) 1 1] [[v]] ((((w.alloc (.cells #[.int .i64 v.kind, .int .i64 v.num, .string v.str, .slice A3 v.items.length k3, .slice A4 v.keys.length k4] 26)).alloc (.cells #[.int .i64 0, .int .i64 0, .string ⟨#[]⟩, .slice none 0 0, .slice none 0 0] 26)).alloc (.cells #[.int .i64 v.kind, .int .i64 v.num, .string v.str, .slice A3 v.items.length k3, .slice A4 v.keys.length k4] 26)).alloc (.cells #[.slice (some ⟨w.heap.size + 1 + 1, 0, none⟩) 1 1] 23))) := by
    have hx := ((((Q.box w (.cells #[.int .i64 v.kind, .int .i64 v.num, .string v.str, .slice A3 v.items.length k3, .slice A4 v.keys.length k4] 26)).trans (Q.box _ (.cells #[.int .i64 0, .int .i64 0, .string ⟨#[]⟩, .slice none 0 0, .slice none 0 0] 26))).trans (Q.box _ (.cells #[.int .i64 v.kind, .int .i64 v.num, .string v.str, .slice A3 v.items.length k3, .slice A4 v.keys.length k4] 26))).trans (Q.box _ (.cells #[.slice (some ⟨w.heap.size + 1 + 1, 0, none⟩) 1 1] 23)))
    have hv : Wi w.heap.size (Bad X w.heap.size (w.heap.size + 1) (w.heap.size + 1 + 1 + 1)) v (.int .i64 v.kind) (.int .i64 v.num) (.string v.str) (.slice A3 v.items.length k3) (.slice A4 v.keys.length k4) w := (Wi.both_but (gb' := Bad X w.heap.size (w.heap.size + 1) (w.heap.size + 1 + 1 + 1)) fun a u ha hne => ⟨ha, fun e => by
      have := cell_lt ha
      rcases e with e | e | e
      · omega
      · omega
      · exact hne (.inl e.1)⟩).1 _ _ _ _ _ _ hX
    have hv' := (Wi.both_stays w.heap.size _ hx).1 _ _ _ _ _ _ hv
    have c5 : C5 (w.heap.size + 1 + 1) 0 (.int .i64 v.kind) (.int .i64 v.num) (.string v.str) (.slice A3 v.items.length k3) (.slice A4 v.keys.length k4) ((((w.alloc (.cells #[.int .i64 v.kind, .int .i64 v.num, .string v.str, .slice A3 v.items.length k3, .slice A4 v.keys.length k4] 26)).alloc (.cells #[.int .i64 0, .int .i64 0, .string ⟨#[]⟩, .slice none 0 0, .slice none 0 0] 26)).alloc (.cells #[.int .i64 v.kind, .int .i64 v.num, .string v.str, .slice A3 v.items.length k3, .slice A4 v.keys.length k4] 26)).alloc (.cells #[.slice (some ⟨w.heap.size + 1 + 1, 0, none⟩) 1 1] 23)) := (C5.made _ _ _ _ _ _ _ _ (by simp only [size_alloc])).past _
    refine ⟨rfl, ?_, ⟨⟨w.heap.size + 1 + 1, 1, 1, rfl, ⟨rfl, Nat.le_refl _, by decide, by decide, by omega, by omega, by omega, ?_, ?_, (FitL_cons _ _).2 ⟨hf, FitL_nil⟩⟩⟩, trivial⟩, ⟨_, _, _, _, _, c5, hv'⟩, by omega, by omega, by omega, by omega, ?_, hx⟩
    · have h := World.ownsRow_lit (base := w.heap.size) (e := 23) (size := 1) (((w.alloc (.cells #[.int .i64 v.kind, .int .i64 v.num, .string v.str, .slice A3 v.items.length k3, .slice A4 v.keys.length k4] 26)).alloc (.cells #[.int .i64 0, .int .i64 0, .string ⟨#[]⟩, .slice none 0 0, .slice none 0 0] 26)).alloc (.cells #[.int .i64 v.kind, .int .i64 v.num, .string v.str, .slice A3 v.items.length k3, .slice A4 v.keys.length k4] 26)) #[.slice (some ⟨w.heap.size + 1 + 1, 0, none⟩) 1 1] 1 (by simp only [size_alloc]; omega) (by decide) rfl
      simp only [size_alloc] at h
      exact h
    · exact (WL_cons ..).2 ⟨⟨_, _, _, _, _, by simpa using c5.a, by simpa using c5.b, by simpa using c5.c, by simpa using c5.d, by simpa using c5.e, hv'⟩, WL_nil _ _ _ _ _⟩
    · refine ⟨#[.int .i64 v.kind, .int .i64 v.num, .string v.str, .slice A3 v.items.length k3, .slice A4 v.keys.length k4], ?_⟩
      have e : w.heap.size + 1 + 1 = ((w.alloc (.cells #[.int .i64 v.kind, .int .i64 v.num, .string v.str, .slice A3 v.items.length k3, .slice A4 v.keys.length k4] 26)).alloc (.cells #[.int .i64 0, .int .i64 0, .string ⟨#[]⟩, .slice none 0 0, .slice none 0 0] 26)).heap.size := by simp only [size_alloc]
      rw [heap_alloc_old _ _ (by rw [e]; simp), e]
      exact heap_alloc_new _ _
    · have e : w.heap.size + 1 = (w.alloc (.cells #[.int .i64 v.kind, .int .i64 v.num, .string v.str, .slice A3 v.items.length k3, .slice A4 v.keys.length k4] 26)).heap.size := by simp only [size_alloc]
      rw [e]
      exact (Bk.new _ _ _).stays ((Q.box _ _).trans (Q.box _ _))
  have hp : below [v] + belowS [] ≤ most := by
    show nodesL v.items + 0 + 0 ≤ most
    omega
  have HB := Lib.hid hb
  have HNV := Lib.hid hv
  clear hX hf hm hb hv
  obtain ⟨P1, hP1⟩ : ∃ z, w.heap.size + 1 = z := ⟨_, rfl⟩
  have HP := Lib.hid hP1
  go_enter Tryz.func50, Tryz.ntmps50
  go_wp2_with fail
  go_loopg [6, 7] (allS [[v]]) (fun gk lf op wr => ∃ L n g cap : Nat, lf = .int .i64 L ∧ op = .slice (some ⟨g, 0, none⟩) n cap ∧ Hid (L ≤ 1000000000 ∧ ∃ ys ls, Ci X w P1 (P1 + 1) v g n cap ys ls wr ∧ belowS ls ≤ L ∧ allS ls = gk ∧ gk ≤ 900000))
  case atStart =>
    have h := H0.out
    rw [hP1] at h
    exact ⟨most, 1, _, 1, rfl, rfl, Lib.hid ⟨HB.out, _, _, h, hp, rfl, by have := HNV.out; show nodes v + 0 + 0 ≤ 900000; omega⟩⟩
  case round =>
    obtain ⟨L, n, g, cap, rfl, rfl, HI⟩ := hrel
    obtain ⟨hL, ys, ls, I, hbe, hal, hgk9⟩ := HI.out
    clear HI H0 hp
    rcases ys with _ | ⟨y, ys⟩
    · rcases ls with _ | ⟨l, ls⟩
      rotate_left 1
      · exact I.rows.elim
      obtain rfl : n = 0 := I.len.symm
      obtain ⟨c0, c1, c2, c3, c4, h5, hw⟩ := I.root
      obtain ⟨e0, e1, e2, ⟨A5, k5, e3, hle3, -⟩, e4⟩ := (Wi_iff ..).1 hw
      obtain ⟨A6, k6, e4', -⟩ := e4.ks.shape
      subst e0 e1 e2 e3 e4'
      have hol := set5_block wr P1 0 (.int .i64 v.kind) (.int .i64 v.num) (.string v.str) (.slice A5 v.items.length k5) (.slice A6 v.keys.length k6)
      have hwl := set5_world wr P1 0 (.int .i64 v.kind) (.int .i64 v.num) (.string v.str) (.slice A5 v.items.length k5) (.slice A6 v.keys.length k6)
      have hres := I.res
      have z : C5 P1 0 (.int .i64 0) (.int .i64 0) (.string ⟨#[]⟩) (.slice none 0 0) (.slice none 0 0) wr := ⟨hres.at 0 _ rfl, hres.at 1 _ rfl, hres.at 2 _ rfl, hres.at 3 _ rfl, hres.at 4 _ rfl⟩
      have hnew := set5_at z (.int .i64 v.kind) (.int .i64 v.num) (.string v.str) (.slice A5 v.items.length k5) (.slice A6 v.keys.length k6)
      obtain ⟨wf, hwf⟩ : ∃ wf, set5 wr P1 0 (.int .i64 v.kind) (.int .i64 v.num) (.string v.str) (.slice A5 v.items.length k5) (.slice A6 v.keys.length k6) = wf := ⟨_, rfl⟩
      rw [hwf] at hol hwl hnew
      have hW := ((Wi.both_but (gb' := Bad X w.heap.size P1 g) fun a u ha hne => ⟨(cell_block (hol a.block (fun e => hne (.inr (.inl e))))).trans ha, hne⟩).1 _ _ _ _ _ _ hw)
      have FIN : Hid ((∀ wz : World, (∀ j, j < wf.heap.size → (¬ X j ∨ w.heap.size ≤ j) → wz.heap[j]? = wf.heap[j]?) → Is (.slice A5 v.items.length k5) v.items wz ∧ Ks (.slice A6 v.keys.length k6) v.keys wz) ∧ Q w wf) := by
        have hp := I.pbase
        refine ⟨fun wz hz => ?_, ⟨hwl.1.trans I.q.os, hwl.2.1.trans I.q.tape, hwl.2.2.1.trans I.q.output, by have := I.q.size; omega, fun j hj => (hol j (by omega)).trans (I.q.block j hj)⟩⟩
        have hWz := (Wi.both_but (gb' := Bad X w.heap.size P1 g) fun a u ha hne => ⟨(cell_block (hz a.block (cell_lt ha) (by
          by_cases e : X a.block
          rotate_left 1
          · exact .inl e
          · right
            by_cases e2 : w.heap.size ≤ a.block
            · exact e2
            · exact absurd (.inr (.inr ⟨e, by omega⟩)) hne))).trans ha, hne⟩).1 _ _ _ _ _ _ hW
        have hv := (Wi.both_vi _ _ wz).1 _ _ _ _ _ _ hWz
        obtain ⟨-, -, -, his, hks⟩ := hv.parts
        exact ⟨his, hks⟩
      have x0 := h5.a
      have x1 := h5.b
      have x2 := h5.c
      have x3 := h5.d
      have x4 := h5.e
      have z0 := z.a
      have z1 := z.b
      have z2 := z.c
      have z3 := z.d
      have z4 := z.e
      have f0 := hres.frozen 0
      have f1 := hres.frozen 1
      have f2 := hres.frozen 2
      have f3 := hres.frozen 3
      have f4 := hres.frozen 4
      have r0 := hnew.a
      have r1 := hnew.b
      have r2 := hnew.c
      have r3 := hnew.d
      have r4 := hnew.e
      simp only [Nat.zero_add] at x0 x1 x2 x3 x4 z0 z1 z2 z3 z4 r0 r1 r2 r3 r4
      unfold set5 at hwf
      simp only [Nat.zero_add] at hwf
      clear I h5 hw hW hol hwl hres z hnew e4 hle3 hbe hal hgk9 hL
      go_wp2_with fail
      refine bodyPost_ret (by simp [results, Tryz.results50, go_sem, r0, r1, r2, r3, r4]; try rfl) rfl ?_
      exact ⟨_, _, rfl, FIN.out⟩
    · rcases ls with _ | ⟨l, ls⟩
      · exact I.rows.elim
      obtain ⟨⟨R, n1, c1, rfl, rw1⟩, hrows⟩ := I.rows
      obtain ⟨m, hn⟩ : ∃ m, n = m + 1 := ⟨ys.length, I.len.symm⟩
      have hm : ys.length = m := by have := I.len; simp at this; omega
      have hn1 : (n : Int) - 1 = (m : Int) := by omega
      have hcap : (m : Int) ≤ (cap : Int) := by have := I.own.cap; simp at this; omega
      have hz : decide (0 < n) = true := decide_eq_true (by omega)
      have x0 := I.own.at m (.slice (some ⟨R, 0, none⟩) n1 c1) (by simp [hm])
      have hmb : (m : Int) ≤ 9223372036854775806 := by have := I.own.cap; simp at this; unfold maxLen at this; omega
      have I1 : Ci X w P1 (P1 + 1) v g m cap ys ls wr := ⟨hm, by have h := I.own; rw [List.reverse_cons] at h; exact h.drop, hrows, I.root, I.rne, I.rbase, I.pbase, I.plt, I.res, I.q⟩
      have hgk : allS ls + below l + l.length = gk := by rw [← hal]; have := below_eq l; show allS ls + below l + l.length = nodesL l + allS ls; omega
      have hbe2 : below l + belowS ls ≤ L := hbe
      have HR := Lib.hid rw1
      have HI1 := Lib.hid I1
      have HG := Lib.hid hgk
      have HBE := Lib.hid hbe2
      have HL := Lib.hid hL
      have HK9 := Lib.hid hgk9
      clear hgk9
      clear I hbe hal hrows hn hm I1 hgk hbe2 hL rw1
      go_wp2_with fail
      go_loopw [6, 7, 31] (fun lf op i wr => ∃ (k L n g cap : Nat), k ≤ n1 ∧ i = .int .i64 k ∧ lf = .int .i64 L ∧ op = .slice (some ⟨g, 0, none⟩) n cap ∧ Hid (L ≤ 1000000000 ∧ ∃ ys ls, Ci X w P1 (P1 + 1) v g n cap ys ls wr ∧ Rw X w.heap.size P1 g R n1 c1 l wr ∧ below (l.drop k) + belowS ls ≤ L ∧ allS ls + below (l.drop k) + l.length = gk)) (fun _ _ i _ => n1 - (intOf i).toNat)
      case atStart => exact ⟨0, L, m, g, cap, Nat.zero_le _, rfl, rfl, rfl, Lib.hid ⟨HL.out, ys, ls, HI1.out, HR.out, HBE.out, HG.out⟩⟩
      case round =>
        clear HI1 HBE HG HL x0 hn1 hcap hz hmb
        obtain ⟨k, L2, n2, g2, cap2, hk, rfl, rfl, rfl, HX⟩ := hrel
        obtain ⟨hL, ys2, ls2, I, rwr, hbe, hal⟩ := HX.out
        clear HX
        by_cases hlt : k < n1
        · have hkl : k < l.length := by rw [← rwr.len]; exact hlt
          obtain ⟨c0', c1', c2', c3', c4', h5, hw⟩ := WL.at _ _ _ _ _ _ rwr.wl k hkl
          rw [Nat.zero_add] at h5
          rw [List.drop_eq_getElem_cons hkl] at hbe hal
          have hfx := (FitL_mem l).1 rwr.fit _ (List.getElem_mem hkl)
          obtain ⟨x, hx⟩ : ∃ x, l[k] = x := ⟨_, rfl⟩
          have HXK : Hid (∃ h : k < l.length, l[k] = x) := ⟨hkl, hx⟩
          rw [hx] at hw hbe hal hfx
          clear hx
          obtain ⟨e0, e1, e2, ⟨A3x, k3x, e3, hle3, -⟩, e4⟩ := (Wi_iff ..).1 hw
          obtain ⟨A4x, k4x, e4', -⟩ := e4.ks.shape
          subst e0 e1 e2 e3 e4'
          obtain ⟨f1, f2, f3, f4, f5⟩ := (Fit_iff x).1 hfx
          have hv := (Wi.both_vi _ _ wr).1 _ _ _ _ _ _ hw
          obtain ⟨-, -, -, his, hks⟩ := hv.parts
          have cN := Lib.hid (copyOfNode_any x A3x A4x k3x k4x wr his hks f1 f2 f3 f4)
          have hxi : x.items.length ≤ nodesL x.items := by have := below_eq x.items; omega
          have hbe2 : nodesL x.items + below (l.drop (k + 1)) + belowS ls2 ≤ L2 := hbe
          have hal2 : allS ls2 + (nodesL x.items + below (l.drop (k + 1))) + l.length = gk := hal
          obtain ⟨n3, hn3⟩ : ∃ z, x.items.length = z := ⟨_, rfl⟩
          obtain ⟨n4, hn4⟩ : ∃ z, x.keys.length = z := ⟨_, rfl⟩
          rw [hn3] at cN
          rw [hn4] at cN
          obtain ⟨L3, hL3⟩ : ∃ L3, L2 = L3 + n3 := ⟨L2 - n3, by omega⟩
          have hL3' : (L2 : Int) - (n3 : Int) = (L3 : Int) := by omega
          have hLb : (L3 : Int) ≤ 1000000000 := by omega
          have hneg : decide ((L3 : Int) < 0) = false := decide_eq_false (by omega)
          have hkb : (k : Int) < (n1 : Int) := by omega
          have x0 := h5.a
          have x1 := h5.b
          have x2 := h5.c
          have x3 := h5.d
          have x4 := h5.e
          rw [hn3] at x3
          rw [hn4] at x4
          have hkm : (k : Int) < 1000000 := by have := rwr.small; omega
          have H5 := Lib.hid h5
          have HW := Lib.hid hw
          have HI := Lib.hid I
          have HRW := Lib.hid rwr
          have HBE := Lib.hid hbe2
          have HAL := Lib.hid hal2
          have HN3 := Lib.hid hn3
          have HN4 := Lib.hid hn4
          have HLT := Lib.hid hlt
          have HKL := Lib.hid hkl
          have HL3 := Lib.hid hL3
          have HL := Lib.hid hL
          have HFX := Lib.hid f5
          have HF3 := Lib.hid f3
          have HLE := Lib.hid hle3
          clear hL I rwr hbe hal hk hlt hkl h5 hw hfx e4 f1 f2 f3 f4 f5 hv his hks hxi hbe2 hal2 hn3 hn4 hL3 hle3
          go_wp2_with fail
          refine cN.out.mono ?_
          rintro e w1 ⟨B3, d3, s4, rfl, ND⟩
          obtain ⟨A5, k5, rfl, -⟩ := ND.keys
          rw [HN4.out]
          clear x0 x1 x2 x3 x4
          have h5w := H5.out.stays ND.q
          have x0 := h5w.a
          have x1 := h5w.b
          have x2 := h5w.c
          have x3 := h5w.d
          have x4 := h5w.e
          rw [HN3.out] at x3
          rw [HN4.out] at x4
          obtain ⟨cur, hcur⟩ := (HRW.out.q ND.q).own
          have f0 := frozen_of_row w1 R (k * 5) cur 26 hcur
          have f1 := frozen_of_row w1 R (k * 5 + 1) cur 26 hcur
          have f2 := frozen_of_row w1 R (k * 5 + 2) cur 26 hcur
          have f3 := frozen_of_row w1 R (k * 5 + 3) cur 26 hcur
          have f4 := frozen_of_row w1 R (k * 5 + 4) cur 26 hcur
          have U := Lib.hid (upd_of HRW.out.base HRW.out.nb HI.out.glt.2 HI.out.res.lt H5.out HW.out ND HRW.out.lt)
          have hbl := set5_block w1 R (k * 5) (.int .i64 x.kind) (.int .i64 x.num) (.string x.str) (.slice B3 x.items.length d3) (.slice A5 x.keys.length k5)
          have hol := set5_own hcur (o := k * 5) (.int .i64 x.kind) (.int .i64 x.num) (.string x.str) (.slice B3 x.items.length d3) (.slice A5 x.keys.length k5)
          have hwl := set5_world w1 R (k * 5) (.int .i64 x.kind) (.int .i64 x.num) (.string x.str) (.slice B3 x.items.length d3) (.slice A5 x.keys.length k5)
          have I2 := Lib.hid ((HI.out.moved ND.q).upd U.out HRW.out.res hbl hol hwl)
          have R2 := Lib.hid ((HRW.out.q ND.q).upd U.out hbl hol)
          have hnew := set5_at h5w (.int .i64 x.kind) (.int .i64 x.num) (.string x.str) (.slice B3 x.items.length d3) (.slice A5 x.keys.length k5)
          have hrow : Hid (0 < x.items.length → ∃ F, B3 = some ⟨F, 0, none⟩ ∧ Rw X w.heap.size P1 g2 F x.items.length d3 x.items (set5 w1 R (k * 5) (.int .i64 x.kind) (.int .i64 x.num) (.string x.str) (.slice B3 x.items.length d3) (.slice A5 x.keys.length k5))) := fun h0 => by
            obtain ⟨F, b, o, e1, e2, hF, ⟨cur', hc'⟩, -⟩ := ND.row h0
            have hgl := HI.out.glt
            have hRl := HRW.out.lt
            have hPl := HI.out.res.lt
            refine ⟨F, e1, ⟨rfl, ND.le, h0, HF3.out, by omega, by omega, by omega, ?_, ⟨cur', (hbl F (by omega)).trans hc'⟩, HFX.out⟩⟩
            obtain ⟨hkl, hlk⟩ := HXK.out
            obtain ⟨q0, q1, q2, q3, q4, g5, gw⟩ := WL.at _ _ _ _ _ _ R2.out.wl k hkl
            rw [Nat.zero_add] at g5
            rw [hlk] at gw
            have j3 := Option.some.inj (g5.d.symm.trans hnew.d)
            subst j3
            obtain ⟨-, -, -, ⟨A, c, ee, -, gg⟩, -⟩ := (Wi_iff ..).1 gw
            simp only [Value.slice.injEq] at ee
            obtain ⟨b', o', e', -, -, wl⟩ := gg (List.length_pos_iff.1 h0)
            rw [← ee.1, e1] at e'
            simp only [Option.some.injEq, Addr.mk.injEq] at e'
            obtain ⟨rfl, rfl, _⟩ := e'
            exact wl
          have y3 := hnew.d
          rw [HN3.out] at I2 R2 hrow y3
          rw [HN4.out] at I2 R2 hrow y3
          obtain ⟨w2, hw2⟩ : ∃ w2, set5 w1 R (k * 5) (.int .i64 x.kind) (.int .i64 x.num) (.string x.str) (.slice B3 n3 d3) (.slice A5 n4 k5) = w2 := ⟨_, rfl⟩
          rw [hw2] at I2 R2 hrow y3
          unfold set5 at hw2
          clear hbl hol hwl hnew hcur ND h5w U
          by_cases hn0 : 0 < n3
          · have hz3 : decide (0 < n3) = true := decide_eq_true hn0
            obtain ⟨F, rfl, RF⟩ := hrow.out hn0
            have RF' := Lib.hid RF
            clear hrow hn0 RF
            have own3 : Hid (Ow 23 w.heap.size g2 cap2 ys2.reverse (w2.alloc (.cells #[.slice (some ⟨F, 0, none⟩) n3 d3] 23))) := I2.out.own.kept (heap_alloc_old w2 _ I2.out.glt.2)
            have news : Hid ((w2.alloc (.cells #[.slice (some ⟨F, 0, none⟩) n3 d3] 23)).cell? ⟨w2.heap.size, 0, none⟩ = some (.slice (some ⟨F, 0, none⟩) n3 d3)) := World.cell?_alloc_at (w := w2) #[.slice (some ⟨F, 0, none⟩) n3 d3] 23 w2.heap.size 0 rfl
            have hsz3 : Hid (w.heap.size ≤ (w2.alloc (.cells #[.slice (some ⟨F, 0, none⟩) n3 d3] 23)).heap.size) := by
              have := I2.out.q.size
              show w.heap.size ≤ _
              rw [size_alloc]
              omega
            have hl2 : Hid (n2 = ys2.reverse.length ∧ ys2.reverse.length ≤ 1000000) := by
              have e := I2.out.len
              refine ⟨by rw [List.length_reverse]; exact e.symm, ?_⟩
              rw [List.length_reverse, e]
              have h1 := I2.out.rows.few
              have h2 := CR.len _ _ I2.out.rows
              have h3 := HAL.out
              have h4 := HK9.out
              omega
            go_wp2_with (at_builtin; refine wpList_ow rfl _ _ rfl w.heap.size g2 n2 cap2 _ hl2.out.1 rfl own3.out ⟨w2.heap.size, 0, none⟩ rfl (.slice (some ⟨F, 0, none⟩) n3 d3) news.out rfl hl2.out.2 hsz3.out ?_)
            intro g' cap' w3 O3 G3 hg3
            have NX : Hid (Ci X w P1 (P1 + 1) v g' (n2 + 1) cap' (.slice (some ⟨F, 0, none⟩) n3 d3 :: ys2) (x.items :: ls2) w3) := I2.out.push RF'.out (Q.box _ _) O3 G3 (by rw [size_alloc]; exact hg3)
            have RX : Hid (Rw X w.heap.size P1 g' R n1 c1 l w3) := R2.out.but (fun j hj hl => by
              have hg := I2.out.glt.2
              have hs := size_alloc w2 (.cells #[.slice (some ⟨F, 0, none⟩) n3 d3] 23)
              refine ⟨(G3.block j (by omega) (by simp only [ne_eq, Option.some.injEq]; omega)).trans (heap_alloc_old w2 _ hl), by omega⟩)
            have NY : Hid (L3 ≤ 1000000000 ∧ below (l.drop (k + 1)) + belowS (x.items :: ls2) ≤ L3 ∧ allS (x.items :: ls2) + below (l.drop (k + 1)) + l.length = gk) := by
              have h1 := HL.out
              have h2 := HL3.out
              have h3 := HBE.out
              have h4 := HAL.out
              have h5 := below_eq x.items
              have h6 := HN3.out
              refine ⟨by omega, ?_, ?_⟩
              · show below (l.drop (k + 1)) + (below x.items + belowS ls2) ≤ L3
                omega
              · show nodesL x.items + allS ls2 + below (l.drop (k + 1)) + l.length = gk
                omega
            clear O3 G3 hg3 y3 hw2 x0 x1 x2 x3 x4 f0 f1 f2 f3 f4
            go_wp2_with fail
            go_roundw
            case rel => exact ⟨k + 1, L3, n2 + 1, g', cap', HLT.out, by go_num, rfl, rfl, Lib.hid ⟨NY.out.1, _, _, NX.out, RX.out, NY.out.2.1, NY.out.2.2⟩⟩
            case measure => have := HLT.out; simp [intOf]; omega
          · have hz3 : decide (0 < n3) = false := decide_eq_false hn0
            have NY : Hid (L3 ≤ 1000000000 ∧ below (l.drop (k + 1)) + belowS ls2 ≤ L3 ∧ allS ls2 + below (l.drop (k + 1)) + l.length = gk) := by
              have h1 := HL.out
              have h2 := HL3.out
              have h3 := HBE.out
              have h4 := HAL.out
              have h6 := HN3.out
              have h7 : x.items = [] := List.eq_nil_of_length_eq_zero (by omega)
              have h8 : nodesL x.items = 0 := by rw [h7, nodesL]
              refine ⟨by omega, by omega, by omega⟩
            clear hrow hn0
            go_wp2_with fail
            clear y3 hw2 x0 x1 x2 x3 x4 f0 f1 f2 f3 f4
            go_roundw
            case rel => exact ⟨k + 1, L3, n2, g2, cap2, HLT.out, by go_num, rfl, rfl, Lib.hid ⟨NY.out.1, _, _, I2.out, R2.out, NY.out.2.1, NY.out.2.2⟩⟩
            case measure => have := HLT.out; simp [intOf]; omega
        · obtain rfl : n1 = k := by omega
          have e : l.drop n1 = [] := List.drop_of_length_le (by rw [← rwr.len]; exact Nat.le_refl _)
          rw [e] at hbe hal
          have hb0 : below [] = 0 := rfl
          have HY : Hid (L2 ≤ 1000000000 ∧ ∃ ys ls, Ci X w P1 (P1 + 1) v g2 n2 cap2 ys ls wr ∧ belowS ls ≤ L2 ∧ allS ls = allS ls2 ∧ allS ls2 ≤ 900000) := ⟨hL, ys2, ls2, I, by omega, rfl, by have := HK9.out; omega⟩
          have HZ : Hid (allS ls2 < gk) := by
            have := rwr.pos
            have := rwr.len
            show allS ls2 < gk
            omega
          clear hL I rwr hbe hal e hb0 hk hlt
          go_wp2_with fail
          go_roundg (allS ls2)
          case measure => exact HZ.out
          case rel => exact ⟨L2, n2, g2, cap2, rfl, rfl, HY⟩

/-- The same for a value that lay in an earlier world. -/
theorem copyOf_any (v : V) (A3 A4 : Option Addr) (k3 k4 most : Nat) (w wA : World) (qA : Q wA w) (h3 : Is (.slice A3 v.items.length k3) v.items wA) (h4 : Ks (.slice A4 v.keys.length k4) v.keys wA) (hf : Fit v) (hm : nodesL v.items ≤ most) (hb : most ≤ 1000000000) (hv : nodes v ≤ 900000) :
    Calls Tryz.prog 50 #[.agg #[.int .i64 v.kind, .int .i64 v.num, .string v.str, .slice A3 v.items.length k3, .slice A4 v.keys.length k4], .int .i64 most] w fun e w' => ∃ s3 s4, e = .returned (.agg #[.int .i64 v.kind, .int .i64 v.num, .string v.str, s3, s4]) ∧ (∀ wf : World, (∀ j, j < w'.heap.size → (j < wA.heap.size ∨ w.heap.size ≤ j) → wf.heap[j]? = w'.heap[j]?) → Is s3 v.items wf ∧ Ks s4 v.keys wf) ∧ Q w w' := by
  refine (copyOf_gen v A3 A4 k3 k4 most w (fun b => wA.heap.size ≤ b) ?_ hf hm hb hv).mono ?_
  · have h := (Vi.both_wi wA w.heap.size qA.size (fun b => wA.heap.size ≤ b ∨ w.heap.size ≤ b) (fun b hb e => by have := qA.size; rcases e with e | e <;> omega)).1 v _ _ _ _ _ (Vi.of h3 h4)
    exact (Wi.both_stays _ _ qA).1 _ _ _ _ _ _ h
  · rintro e w' ⟨s3, s4, rfl, h, q⟩
    exact ⟨s3, s4, rfl, fun wf hw => h wf (fun j hj hx => hw j hj (hx.elim (fun hx => .inl (Nat.lt_of_not_le hx)) .inr)), q⟩

end Go.Proofs.YtjmchjphdfbhiaaGreatDoor.val.cp
