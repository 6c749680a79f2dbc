/- List, where a block may not hold the result's rows; reading in a world with one block emptied. -/
import Derived.Test.YtjmchjphdfbhiaaDoorNpl
namespace Go.Proofs.YtjmchjphdfbhiaaDoor.val
open Go.RowKit
open Go.Proofs.YtjmchjphdfbhiaaDoor
open Go.Proofs.YtjmchjphdfbhiaaDoor.val.cp (Fit FitL Fit_iff Wi WL Kg Wi_iff WL_cons WL_nil set5 set5_block set5_world set5_at)
/-- The world with one block emptied. -/
def er (p : Nat) (w : World) : World := { w with heap := w.heap.modify p (fun _ => .cells #[] 0) }
theorem er_size (p : Nat) (w : World) : (er p w).heap.size = w.heap.size := by simp [er]
theorem er_other {p : Nat} {w : World} {j : Nat} (h : j ≠ p) : (er p w).heap[j]? = w.heap[j]? := by
  simp [er, Array.getElem?_modify, Ne.symm h]
theorem er_cell {p : Nat} {w : World} {a : Addr} {u : Value} (h : (er p w).cell? a = some u) : a.block ≠ p ∧ w.cell? a = some u := by
  have hne : a.block ≠ p := by
    intro e
    have hlt := cell_lt h
    rw [er_size] at hlt
    have hb : (er p w).heap[a.block]? = some (.cells #[] 0) := by
      simp [er, e, Array.getElem?_modify, Array.getElem?_eq_getElem (show p < w.heap.size by omega)]
    unfold World.cell? at h
    simp only [hb] at h
    simp at h
  exact ⟨hne, (cell_block (er_other hne)).symm.trans h⟩
theorem er_q {p : Nat} {w w' : World} (hp : p < w.heap.size) (hs : w.heap.size ≤ w'.heap.size) (ho : w'.os = w.os ∧ w'.tape = w.tape ∧ w'.output = w.output) (hb : ∀ j, j < w.heap.size → j ≠ p → w'.heap[j]? = w.heap[j]?) : Q (er p w) (er p w') :=
  ⟨ho.1, ho.2.1, ho.2.2, by rw [er_size, er_size]; exact hs, fun j hj => by
    rw [er_size] at hj
    by_cases e : j = p
    · subst e
      simp [er, Array.getElem?_modify, Array.getElem?_eq_getElem hj, Array.getElem?_eq_getElem (show j < w'.heap.size by omega)]
    · rw [er_other e, er_other e, hb j hj e]⟩
theorem Q.er {p : Nat} {w w' : World} (q : Q w w') (hp : p < w.heap.size) : Q (val.er p w) (val.er p w') := er_q hp q.size ⟨q.os, q.tape, q.output⟩ (fun j hj _ => q.block j hj)
theorem KL.sub {w w' : World} (h : ∀ (a : Addr) (u : Value), w.cell? a = some u → w'.cell? a = some u) : ∀ (l : List ByteArray) (b o : Nat), KL l b o w → KL l b o w'
  | [], _, _, _ => trivial
  | _ :: t, b, o, g => ⟨h _ _ g.1, KL.sub h t b (o + 1) g.2⟩
theorem Vi.sub {w w' : World} (h : ∀ (a : Addr) (u : Value), w.cell? a = some u → w'.cell? a = some u) : (∀ (v : V) (c0 c1 c2 c3 c4 : Value), Vi v c0 c1 c2 c3 c4 w → Vi v c0 c1 c2 c3 c4 w') ∧ (∀ (l : List V) (b o : Nat), VL l b o w → VL l b o w') := by
  refine V.both (P := fun v => ∀ (c0 c1 c2 c3 c4 : Value), Vi v c0 c1 c2 c3 c4 w → Vi v c0 c1 c2 c3 c4 w') (Q := fun l => ∀ (b o : Nat), VL l b o w → VL l b o w') ?_ ?_ ?_
  · intro k n s l ks ih c0 c1 c2 c3 c4 g
    rw [Vi_iff] at g ⊢
    obtain ⟨h0, h1, h2, ⟨A, c, h3, h3', h4⟩, ⟨A', c', h5, h5', h6⟩⟩ := g
    refine ⟨h0, h1, h2, ⟨A, c, h3, h3', fun hn => ?_⟩, ⟨A', c', h5, h5', fun hn => ?_⟩⟩
    · obtain ⟨b, o, e, g⟩ := h4 hn
      exact ⟨b, o, e, ih b o g⟩
    · obtain ⟨b, o, e, g⟩ := h6 hn
      exact ⟨b, o, e, KL.sub h _ _ _ g⟩
  · intro b o _
    exact VL_nil _ _ _
  · intro v t h1 h2 b o g
    rw [VL_cons] at g ⊢
    obtain ⟨⟨c0, c1, c2, c3, c4, g0, g1, g2, g3, g4, g5⟩, g6⟩ := g
    exact ⟨⟨c0, c1, c2, c3, c4, h _ _ g0, h _ _ g1, h _ _ g2, h _ _ g3, h _ _ g4, h1 _ _ _ _ _ g5⟩, h2 _ _ g6⟩
theorem Is.sub {w w' : World} (h : ∀ (a : Addr) (u : Value), w.cell? a = some u → w'.cell? a = some u) {v : Value} {l : List V} (g : Is v l w) : Is v l w' := by
  obtain ⟨A, c, e, hc, g⟩ := g
  refine ⟨A, c, e, hc, fun hn => ?_⟩
  obtain ⟨b, o, e, g⟩ := g hn
  exact ⟨b, o, e, (Vi.sub h).2 _ _ _ g⟩
theorem Is.real {p : Nat} {w : World} {v : Value} {l : List V} (g : Is v l (er p w)) : Is v l w := g.sub (fun _ _ h => (er_cell h).2)
/-- The rows of a value lie in other blocks than p. -/
theorem wi_of {p : Nat} {w : World} {l : List V} {A : Option Addr} {c n : Nat} (hn : n = l.length) (h : Is (.slice A n c) l (er p w)) (B : Nat) (hB : w.heap.size ≤ B) (gb : Nat → Prop) (hg : ∀ b, gb b → b = p ∨ w.heap.size ≤ b) :
    Wi B gb ⟨4, 0, ⟨#[]⟩, l, []⟩ (.int .i64 4) (.int .i64 0) (.string ⟨#[]⟩) (.slice A n c) (.slice none 0 0) w := by
  subst hn
  have h1 := (cp.Vi.both_wi (er p w) B (by rw [er_size]; exact hB) (fun b => w.heap.size ≤ b) (fun b hb e => by rw [er_size] at hb; omega)).1 ⟨4, 0, ⟨#[]⟩, l, []⟩ (.int .i64 4) (.int .i64 0) (.string ⟨#[]⟩) (.slice A l.length c) (.slice none 0 0) (Vi.of (v := ⟨4, 0, ⟨#[]⟩, l, []⟩) h (Ks.nil _ _ _))
  refine (cp.Wi.both_but (gb' := gb) fun a u ha hne => ?_).1 _ _ _ _ _ _ h1
  obtain ⟨g1, g2⟩ := er_cell ha
  exact ⟨g2, fun e => by rcases hg _ e with e | e; exact g1 e; exact hne e⟩
set_option maxHeartbeats 4000000 in
set_option maxRecDepth 100000 in
theorem list_er (p : Nat) (A : Option Addr) (c n : Nat) (l : List V) (w : World) (hl : n = l.length) (hp : p < w.heap.size) (h : Is (.slice A n c) l (er p w)) (hf : Fit ⟨4, 0, ⟨#[]⟩, l, []⟩) (hn : nodesL l ≤ 800000) :
    Calls Tryd.prog 6 #[.slice A n c] w fun e w' => ∃ B3 d3 B4 d4, e = .returned (.agg #[.int .i64 4, .int .i64 0, .string ⟨#[]⟩, .slice B3 n d3, .slice B4 0 d4]) ∧ Is (.slice B3 n d3) l (er p w') ∧ Q w w' := by
  obtain ⟨P, hP⟩ : ∃ P, P = w.heap.size := ⟨_, rfl⟩
  obtain ⟨wb, hwb⟩ : ∃ wb, w.alloc (.cells #[.int .i64 0, .int .i64 0, .string ⟨#[]⟩, .slice none 0 0, .slice none 0 0] 28) = wb := ⟨_, rfl⟩
  have qb : Q w wb := by rw [← hwb]; exact Q.box _ _
  have bz : Bk P #[.int .i64 0, .int .i64 0, .string ⟨#[]⟩, .slice none 0 0, .slice none 0 0] 28 wb := by rw [← hwb, hP]; exact Bk.new _ _ _
  have hsz : Hid (wb.heap.size = w.heap.size + 1) := by show _ = _; rw [← hwb, size_alloc]
  have hW : Wi wb.heap.size (fun b => (b = p ∨ b = P) ∨ wb.heap.size ≤ b) ⟨4, 0, ⟨#[]⟩, l, []⟩ (.int .i64 4) (.int .i64 0) (.string ⟨#[]⟩) (.slice A n c) (.slice none 0 0) wb := by
    have h1 := wi_of hl h wb.heap.size qb.size (fun b => (b = p ∨ b = P) ∨ wb.heap.size ≤ b) (fun b e => by have := hsz.out; rcases e with (e | e) | e <;> omega)
    refine (cp.Wi.both_but fun a u ha hne => ⟨cell_stays qb ha, hne⟩).1 _ _ _ _ _ _ h1
  have cC := Lib.hid (copy_gmk 4 0 ⟨#[]⟩ l [] A none c 0 n 0 33554432 hl rfl wb (fun b => b = p ∨ b = P) hW hf (by omega) (by omega) (by omega))
  have HPP := Lib.hid (show p < w.heap.size ∧ P = w.heap.size from ⟨hp, hP⟩)
  clear h hf hn hW hl hp
  have hP' : w.heap.size = P := hP.symm
  have BZ := Lib.hid bz
  have QB := Lib.hid qb
  clear hP bz qb
  go_enter Tryd.func6, Tryd.ntmps6
  go_wp2_with fail
  refine (cC.out).mono ?_
  rintro e w1 ⟨B3, d3, B4, d4, rfl, hI, q1⟩
  have b1 := BZ.out.stays q1
  have z0 := b1.at 0 _ rfl
  have z1 := b1.at 1 _ rfl
  have z2 := b1.at 2 _ rfl
  have z3 := b1.at 3 _ rfl
  have z4 := b1.at 4 _ rfl
  have f0 := b1.frozen 0
  have f1 := b1.frozen 1
  have f2 := b1.frozen 2
  have f3 := b1.frozen 3
  have f4 := b1.frozen 4
  obtain ⟨bf, qf⟩ := store5 (k := 4) (n := 0) (s := ⟨#[]⟩) (s3 := .slice B3 n d3) (s4 := .slice B4 0 d4) HPP.out.2 b1 (QB.out.trans q1)
  have hfin := (hI (er p (set5 w1 P 0 (.int .i64 4) (.int .i64 0) (.string ⟨#[]⟩) (.slice B3 n d3) (.slice B4 0 d4))) (fun j _ hj => by
    have h1 := hsz.out
    have h2 := HPP.out
    have hne : j ≠ p ∧ j ≠ P := by
      rcases hj with hj | hj
      · exact ⟨fun e => hj (.inl e), fun e => hj (.inr e)⟩
      · omega
    rw [er_other hne.1]
    exact set5_block w1 P 0 _ _ _ _ _ j hne.2)).1
  obtain ⟨wf, hwf⟩ : ∃ wf, set5 w1 P 0 (.int .i64 4) (.int .i64 0) (.string ⟨#[]⟩) (.slice B3 n d3) (.slice B4 0 d4) = wf := ⟨_, rfl⟩
  rw [hwf] at bf qf hfin
  unfold set5 at hwf
  simp only [Nat.zero_add] at hwf
  have r0 := bf.at 0 _ rfl
  have r1 := bf.at 1 _ rfl
  have r2 := bf.at 2 _ rfl
  have r3 := bf.at 3 _ rfl
  have r4 := bf.at 4 _ rfl
  have QF := Lib.hid qf
  have HF := Lib.hid hfin
  clear b1 bf qf q1 hwb hI hfin
  go_wp2_with fail
  refine bodyPost_ret (by simp [results, Tryd.results6, go_sem, r0, r1, r2, r3, r4]; try rfl) rfl ?_
  exact ⟨_, _, _, _, rfl, HF.out, QF.out⟩

end Go.Proofs.YtjmchjphdfbhiaaDoor.val
