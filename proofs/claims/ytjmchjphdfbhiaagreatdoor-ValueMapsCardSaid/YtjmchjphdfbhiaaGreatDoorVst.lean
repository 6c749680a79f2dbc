/- Values in memory: the cells of a value, its items and keys; they stay where a call leaves what was there; Five cells of a value; Stacks of rows in memory: what a visit by a stack knows of the world. -/
import Derived.Test.YtjmchjphdfbhiaaGreatDoorVvi
import Derived.WalkKit
import Derived.RowKit
import Derived.OpenShut
import Derived.OwnWalk
import Derived.Laws.OwnMore
namespace Go.Proofs.YtjmchjphdfbhiaaGreatDoor.val
open Go.RowKit

def Q (w w' : World) : Prop := Below w.heap.size w w'
theorem Q.refl (w : World) : Q w w := Below.refl _ _
theorem Q.trans {a b c : World} (h : Q a b) (k : Q b c) : Q a c := Below.trans h (Below.mono k h.size)
/-- The keys that lie at a place. -/
def KL : List ByteArray → Nat → Nat → World → Prop
  | [], _, _, _ => True
  | k :: t, b, o, w => w.cell? ⟨b, o, none⟩ = some (.string k) ∧ KL t b (o + 1) w
mutual
/-- The cells of a value, in a world where its items and keys lie. -/
def Vi : V → Value → Value → Value → Value → Value → World → Prop
  | ⟨k, n, s, l, ks⟩, c0, c1, c2, c3, c4, w => c0 = .int .i64 k ∧ c1 = .int .i64 n ∧ c2 = .string s ∧
    (∃ A c, c3 = .slice A l.length c ∧ l.length ≤ c ∧ (l ≠ [] → ∃ b o, A = some ⟨b, o, none⟩ ∧ VL l b o w)) ∧ (∃ A c, c4 = .slice A ks.length c ∧ ks.length ≤ c ∧ (ks ≠ [] → ∃ b o, A = some ⟨b, o, none⟩ ∧ KL ks b o w))
def VL : List V → Nat → Nat → World → Prop
  | [], _, _, _ => True
  | v :: t, b, o, w => (∃ c0 c1 c2 c3 c4, w.cell? ⟨b, o, none⟩ = some c0 ∧ w.cell? ⟨b, o + 1, none⟩ = some c1 ∧ w.cell? ⟨b, o + 2, none⟩ = some c2 ∧ w.cell? ⟨b, o + 3, none⟩ = some c3 ∧ w.cell? ⟨b, o + 4, none⟩ = some c4 ∧ Vi v c0 c1 c2 c3 c4 w) ∧ VL t b (o + 5) w
end
theorem cell_lt {w : World} {a : Addr} {v : Value} (h : w.cell? a = some v) : a.block < w.heap.size := by
  rcases Nat.lt_or_ge a.block w.heap.size with h' | h'
  · exact h'
  · unfold World.cell? at h
    rw [Array.getElem?_eq_none h'] at h
    cases h
theorem cell_stays {w w' : World} (q : Q w w') {a : Addr} {v : Value} (h : w.cell? a = some v) : w'.cell? a = some v := (Below.cell q (p := a) (cell_lt h)).trans h
/-- A slice of items, and a slice of keys. -/
def Is (v : Value) (l : List V) (w : World) : Prop := ∃ A c, v = .slice A l.length c ∧ l.length ≤ c ∧ (l ≠ [] → ∃ b o, A = some ⟨b, o, none⟩ ∧ VL l b o w)
def Ks (v : Value) (l : List ByteArray) (w : World) : Prop := ∃ A c, v = .slice A l.length c ∧ l.length ≤ c ∧ (l ≠ [] → ∃ b o, A = some ⟨b, o, none⟩ ∧ KL l b o w)
theorem Vi_iff (k n : Int) (s : ByteArray) (l : List V) (ks : List ByteArray) (c0 c1 c2 c3 c4 : Value) (w : World) : Vi ⟨k, n, s, l, ks⟩ c0 c1 c2 c3 c4 w ↔ c0 = .int .i64 k ∧ c1 = .int .i64 n ∧ c2 = .string s ∧ Is c3 l w ∧ Ks c4 ks w := by rw [Vi]; rfl
theorem Vi.parts {v : V} {c0 c1 c2 c3 c4 : Value} {w : World} (h : Vi v c0 c1 c2 c3 c4 w) : c0 = .int .i64 v.kind ∧ c1 = .int .i64 v.num ∧ c2 = .string v.str ∧ Is c3 v.items w ∧ Ks c4 v.keys w := by
  cases v
  exact (Vi_iff ..).1 h
theorem Vi.of {v : V} {c3 c4 : Value} {w : World} (h3 : Is c3 v.items w) (h4 : Ks c4 v.keys w) : Vi v (.int .i64 v.kind) (.int .i64 v.num) (.string v.str) c3 c4 w := by
  cases v
  exact (Vi_iff ..).2 ⟨rfl, rfl, rfl, h3, h4⟩
theorem VL_nil (b o : Nat) (w : World) : VL [] b o w := by rw [VL]; trivial
theorem VL_cons (v : V) (t : List V) (b o : Nat) (w : World) : VL (v :: t) b o w ↔ (∃ c0 c1 c2 c3 c4, w.cell? ⟨b, o, none⟩ = some c0 ∧ w.cell? ⟨b, o + 1, none⟩ = some c1 ∧ w.cell? ⟨b, o + 2, none⟩ = some c2 ∧ w.cell? ⟨b, o + 3, none⟩ = some c3 ∧ w.cell? ⟨b, o + 4, none⟩ = some c4 ∧ Vi v c0 c1 c2 c3 c4 w) ∧ VL t b (o + 5) w := by rw [VL]
theorem KL.stays {w w' : World} (q : Q w w') : ∀ (l : List ByteArray) (b o : Nat), KL l b o w → KL l b o w'
  | [], _, _, _ => trivial
  | _ :: t, b, o, h => ⟨cell_stays q h.1, KL.stays q t b (o + 1) h.2⟩
theorem Ks.stays {v : Value} {l : List ByteArray} {w w' : World} (q : Q w w') (h : Ks v l w) : Ks v l w' := by
  obtain ⟨A, c, e, hc, g⟩ := h
  refine ⟨A, c, e, hc, fun hn => ?_⟩
  obtain ⟨b, o, e', g'⟩ := g hn
  exact ⟨b, o, e', KL.stays q l b o g'⟩
theorem Vi.both {w w' : World} (q : Q w w') : (∀ (v : V) (c0 c1 c2 c3 c4 : Value), Vi v c0 c1 c2 c3 c4 w → Vi v c0 c1 c2 c3 c4 w') ∧ (∀ (l : List V) (b o : Nat), VL l b o w → VL l b o w') := by
  refine V.both (P := fun v => ∀ (c0 c1 c2 c3 c4 : Value), Vi v c0 c1 c2 c3 c4 w → Vi v c0 c1 c2 c3 c4 w') (Q := fun l => ∀ (b o : Nat), VL l b o w → VL l b o w') ?_ ?_ ?_
  · intro k n s l ks ih c0 c1 c2 c3 c4 h
    rw [Vi_iff] at h ⊢
    obtain ⟨h0, h1, h2, ⟨A, c, h3, h3', h4⟩, h5⟩ := h
    refine ⟨h0, h1, h2, ⟨A, c, h3, h3', fun hn => ?_⟩, h5.stays q⟩
    obtain ⟨b, o, e, g⟩ := h4 hn
    exact ⟨b, o, e, ih b o g⟩
  · intro b o _
    exact VL_nil _ _ _
  · intro v t h1 h2 b o h
    rw [VL_cons] at h ⊢
    obtain ⟨⟨c0, c1, c2, c3, c4, g0, g1, g2, g3, g4, g5⟩, g6⟩ := h
    exact ⟨⟨c0, c1, c2, c3, c4, cell_stays q g0, cell_stays q g1, cell_stays q g2, cell_stays q g3, cell_stays q g4, h1 _ _ _ _ _ g5⟩, h2 _ _ g6⟩
theorem Vi.stays {v : V} {c0 c1 c2 c3 c4 : Value} {w w' : World} (h : Vi v c0 c1 c2 c3 c4 w) (q : Q w w') : Vi v c0 c1 c2 c3 c4 w' := (Vi.both q).1 v _ _ _ _ _ h
theorem VL.stays {l : List V} {b o : Nat} {w w' : World} (h : VL l b o w) (q : Q w w') : VL l b o w' := (Vi.both q).2 l _ _ h
theorem Is.stays {v : Value} {l : List V} {w w' : World} (h : Is v l w) (q : Q w w') : Is v l w' := by
  obtain ⟨A, c, e, hc, g⟩ := h
  refine ⟨A, c, e, hc, fun hn => ?_⟩
  obtain ⟨b, o, e', g'⟩ := g hn
  exact ⟨b, o, e', g'.stays q⟩
theorem Ks.shape {v : Value} {l : List ByteArray} {w : World} (h : Ks v l w) : ∃ A c, v = .slice A l.length c ∧ l.length ≤ c := by
  obtain ⟨A, c, e, hc, _⟩ := h
  exact ⟨A, c, e, hc⟩
theorem Is.shape {v : Value} {l : List V} {w : World} (h : Is v l w) : ∃ A c, v = .slice A l.length c ∧ l.length ≤ c := by
  obtain ⟨A, c, e, hc, _⟩ := h
  exact ⟨A, c, e, hc⟩
theorem Is.nil (A : Option Addr) (c : Nat) (w : World) : Is (.slice A 0 c) [] w := ⟨A, c, rfl, Nat.zero_le _, fun h => absurd rfl h⟩
theorem Ks.nil (A : Option Addr) (c : Nat) (w : World) : Ks (.slice A 0 c) [] w := ⟨A, c, rfl, Nat.zero_le _, fun h => absurd rfl h⟩
/-- The cells of the first item. -/
structure Hd (v : V) (b o : Nat) (s3 s4 : Value) (w : World) : Prop where
  k : w.cell? ⟨b, o, none⟩ = some (.int .i64 v.kind)
  n : w.cell? ⟨b, o + 1, none⟩ = some (.int .i64 v.num)
  s : w.cell? ⟨b, o + 2, none⟩ = some (.string v.str)
  l : w.cell? ⟨b, o + 3, none⟩ = some s3
  ks : w.cell? ⟨b, o + 4, none⟩ = some s4
  is : Is s3 v.items w
  kk : Ks s4 v.keys w
theorem Hd.vi {v : V} {b o : Nat} {s3 s4 : Value} {w : World} (h : Hd v b o s3 s4 w) : Vi v (.int .i64 v.kind) (.int .i64 v.num) (.string v.str) s3 s4 w := Vi.of h.is h.kk
theorem Hd.stays {v : V} {b o : Nat} {s3 s4 : Value} {w w' : World} (h : Hd v b o s3 s4 w) (q : Q w w') : Hd v b o s3 s4 w' :=
  ⟨cell_stays q h.k, cell_stays q h.n, cell_stays q h.s, cell_stays q h.l, cell_stays q h.ks, h.is.stays q, h.kk.stays q⟩
theorem VL.hd {v : V} {t : List V} {b o : Nat} {w : World} (h : VL (v :: t) b o w) : ∃ s3 s4, Hd v b o s3 s4 w := by
  rw [VL_cons] at h
  obtain ⟨⟨c0, c1, c2, c3, c4, g0, g1, g2, g3, g4, g5⟩, _⟩ := h
  obtain ⟨rfl, rfl, rfl, h3, h4⟩ := g5.parts
  exact ⟨c3, c4, ⟨g0, g1, g2, g3, g4, h3, h4⟩⟩
/-- The first item of a slice, and the slice behind it. -/
theorem Is.cons {A : Option Addr} {n c : Nat} {v : V} {t : List V} {w : World} (h : Is (.slice A n c) (v :: t) w) :
    n = t.length + 1 ∧ t.length + 1 ≤ c ∧ ∃ b o, A = some ⟨b, o, none⟩ ∧ VL t b (o + 5) w ∧ ∃ s3 s4, Hd v b o s3 s4 w := by
  obtain ⟨A', c', e, hc, g⟩ := h
  simp only [Value.slice.injEq] at e
  obtain ⟨rfl, rfl, rfl⟩ := e
  obtain ⟨b, o, e, g⟩ := g (by simp)
  exact ⟨rfl, hc, b, o, e, ((VL_cons ..).1 g).2, g.hd⟩
theorem Is.of {l : List V} {b o n c : Nat} {w : World} (hn : n = l.length) (hc : n ≤ c) (h : VL l b o w) : Is (.slice (some ⟨b, o, none⟩) n c) l w := by
  subst hn
  exact ⟨_, c, rfl, hc, fun _ => ⟨b, o, rfl, h⟩⟩
/-- The item at a place of a row. -/
theorem VL.at : ∀ (l : List V) (b o : Nat) (w : World), VL l b o w → ∀ (i : Nat) (h : i < l.length), ∃ s3 s4, Hd l[i] b (o + i * 5) s3 s4 w
  | [], _, _, _, _, i, h => absurd h (Nat.not_lt_zero _)
  | v :: t, b, o, w, h, 0, _ => by simpa using h.hd
  | v :: t, b, o, w, h, i + 1, hi => by
    have := VL.at t b (o + 5) w ((VL_cons ..).1 h).2 i (by simpa using hi)
    have e : o + (i + 1) * 5 = o + 5 + i * 5 := by omega
    rw [e]
    exact this
theorem KL.at : ∀ (l : List ByteArray) (b o : Nat) (w : World), KL l b o w → ∀ (i : Nat) (h : i < l.length), w.cell? ⟨b, o + i, none⟩ = some (.string l[i])
  | [], _, _, _, _, i, h => absurd h (Nat.not_lt_zero _)
  | k :: t, b, o, w, h, 0, _ => h.1
  | k :: t, b, o, w, h, i + 1, hi => by
    have := KL.at t b (o + 1) w h.2 i (by simpa using hi)
    have e : o + (i + 1) = o + 1 + i := by omega
    rw [e]
    exact this
/-- A row from its items and keys at their places. -/
theorem VL.of_at : ∀ (l : List V) (b o : Nat) (w : World), (∀ (i : Nat) (h : i < l.length), ∃ s3 s4, Hd l[i] b (o + i * 5) s3 s4 w) → VL l b o w
  | [], _, _, _, _ => VL_nil _ _ _
  | v :: t, b, o, w, h => by
    rw [VL_cons]
    obtain ⟨s3, s4, g⟩ := h 0 (by simp)
    simp only [Nat.zero_mul, Nat.add_zero, List.getElem_cons_zero] at g
    refine ⟨⟨_, _, _, _, _, g.k, g.n, g.s, g.l, g.ks, g.vi⟩, VL.of_at t b (o + 5) w fun i hi => ?_⟩
    have := h (i + 1) (by simpa using hi)
    rw [show o + (i + 1) * 5 = o + 5 + i * 5 by omega] at this
    simpa using this
theorem KL.of_at : ∀ (l : List ByteArray) (b o : Nat) (w : World), (∀ (i : Nat) (h : i < l.length), w.cell? ⟨b, o + i, none⟩ = some (.string l[i])) → KL l b o w
  | [], _, _, _, _ => trivial
  | k :: t, b, o, w, h => by
    refine ⟨h 0 (Nat.zero_lt_succ _), KL.of_at t b (o + 1) w fun i hi => ?_⟩
    have := h (i + 1) (by simpa using hi)
    rw [show o + (i + 1) = o + 1 + i by omega] at this
    simpa using this

end Go.Proofs.YtjmchjphdfbhiaaGreatDoor.val

namespace Go.Proofs.YtjmchjphdfbhiaaGreatDoor.val
open Go.RowKit
/-- Five cells. -/
structure C5 (bk o : Nat) (c0 c1 c2 c3 c4 : Value) (w : World) : Prop where
  a : w.cell? ⟨bk, o, none⟩ = some c0
  b : w.cell? ⟨bk, o + 1, none⟩ = some c1
  c : w.cell? ⟨bk, o + 2, none⟩ = some c2
  d : w.cell? ⟨bk, o + 3, none⟩ = some c3
  e : w.cell? ⟨bk, o + 4, none⟩ = some c4
theorem nodes_mem : ∀ (l : List V) (v : V), v ∈ l → nodes v ≤ nodesL l
  | [], _, h => by cases h
  | a :: t, v, h => by
    rw [nodesL]
    rcases List.mem_cons.1 h with rfl | h
    · omega
    · have := nodes_mem t v h
      omega

end Go.Proofs.YtjmchjphdfbhiaaGreatDoor.val

namespace Go.Proofs.YtjmchjphdfbhiaaGreatDoor.val
open Go.RowKit
/-- What a call does that may change the blocks from a up to B: all others stay. -/
structure Mid (a B : Nat) (w w' : World) : Prop where
  os : w'.os = w.os
  tape : w'.tape = w.tape
  output : w'.output = w.output
  size : w.heap.size ≤ w'.heap.size
  block : ∀ k, k < w.heap.size → (k < a ∨ B ≤ k) → w'.heap[k]? = w.heap[k]?
theorem Mid.refl (a B : Nat) (w : World) : Mid a B w w := ⟨rfl, rfl, rfl, Nat.le_refl _, fun _ _ _ => rfl⟩
theorem Mid.trans {a B : Nat} {w w' w'' : World} (h : Mid a B w w') (k : Mid a B w' w'') : Mid a B w w'' :=
  ⟨k.os.trans h.os, k.tape.trans h.tape, k.output.trans h.output, Nat.le_trans h.size k.size, fun i hi hb => (k.block i (Nat.lt_of_lt_of_le hi h.size) hb).trans (h.block i hi hb)⟩
theorem Mid.of {a B : Nat} {w w' : World} (h : Q w w') : Mid a B w w' := ⟨h.os, h.tape, h.output, h.size, fun k hk _ => h.block k hk⟩
theorem Mid.q {a B : Nat} {w0 w w' : World} (h : Mid a B w w') (ha : w0.heap.size ≤ a) (q : Q w0 w) : Q w0 w' :=
  ⟨h.os.trans q.os, h.tape.trans q.tape, h.output.trans q.output, Nat.le_trans q.size h.size, fun k hk => (h.block k (Nat.lt_of_lt_of_le hk q.size) (.inl (Nat.lt_of_lt_of_le hk ha))).trans (q.block k hk)⟩
theorem cell_block {w w' : World} {a : Addr} (h : w'.heap[a.block]? = w.heap[a.block]?) : w'.cell? a = w.cell? a := World.cell?_of_block h
theorem Mid.cell {a B : Nat} {w w' : World} (h : Mid a B w w') {p : Addr} {u : Value} (g : w.cell? p = some u) (hb : p.block < a ∨ B ≤ p.block) : w'.cell? p = some u :=
  (cell_block (h.block _ (cell_lt g) hb)).trans g
theorem C5.kept {w w' : World} {b o : Nat} {c0 c1 c2 c3 c4 : Value} (g : C5 b o c0 c1 c2 c3 c4 w) (h : w'.heap[b]? = w.heap[b]?) : C5 b o c0 c1 c2 c3 c4 w' :=
  ⟨(cell_block (a := ⟨b, o, none⟩) h).trans g.a, (cell_block (a := ⟨b, o + 1, none⟩) h).trans g.b, (cell_block (a := ⟨b, o + 2, none⟩) h).trans g.c, (cell_block (a := ⟨b, o + 3, none⟩) h).trans g.d, (cell_block (a := ⟨b, o + 4, none⟩) h).trans g.e⟩
theorem C5.stays {w w' : World} {b o : Nat} {c0 c1 c2 c3 c4 : Value} (g : C5 b o c0 c1 c2 c3 c4 w) (q : Q w w') : C5 b o c0 c1 c2 c3 c4 w' :=
  ⟨cell_stays q g.a, cell_stays q g.b, cell_stays q g.c, cell_stays q g.d, cell_stays q g.e⟩
theorem C5.made (w : World) (n : Nat) (c0 c1 c2 c3 c4 : Value) (t : TypeId) (hn : n = w.heap.size) : C5 n 0 c0 c1 c2 c3 c4 (w.alloc (.cells #[c0, c1, c2, c3, c4] t)) :=
  ⟨World.cell?_alloc_at (w := w) _ _ _ _ hn, World.cell?_alloc_at (w := w) _ _ _ _ hn, World.cell?_alloc_at (w := w) _ _ _ _ hn, World.cell?_alloc_at (w := w) _ _ _ _ hn, World.cell?_alloc_at (w := w) _ _ _ _ hn⟩
theorem C5.past {w : World} {b o : Nat} {c0 c1 c2 c3 c4 : Value} (g : C5 b o c0 c1 c2 c3 c4 w) (ob : Obj) : C5 b o c0 c1 c2 c3 c4 (w.alloc ob) := g.kept (heap_alloc_old w ob (cell_lt g.a))
theorem size_alloc (w : World) (o : Obj) : (w.alloc o).heap.size = w.heap.size + 1 := by simp
/-! ### sizes that fit -/
mutual
def Wf : V → Prop
  | ⟨k, n, s, l, ks⟩ => (-9223372036854775808 ≤ k ∧ k ≤ 9223372036854775807) ∧ (-9223372036854775808 ≤ n ∧ n ≤ 9223372036854775807) ∧ s.size ≤ maxLen ∧ l.length ≤ maxLen ∧ ks.length ≤ maxLen ∧ (∀ x ∈ ks, x.size ≤ maxLen) ∧ WfL l
def WfL : List V → Prop
  | [] => True
  | v :: t => Wf v ∧ WfL t
end
theorem Wf_iff (v : V) : Wf v ↔ (-9223372036854775808 ≤ v.kind ∧ v.kind ≤ 9223372036854775807) ∧ (-9223372036854775808 ≤ v.num ∧ v.num ≤ 9223372036854775807) ∧ v.str.size ≤ maxLen ∧ v.items.length ≤ maxLen ∧ v.keys.length ≤ maxLen ∧ (∀ x ∈ v.keys, x.size ≤ maxLen) ∧ WfL v.items := by
  cases v
  rw [Wf]
  rfl
theorem WfL_cons (v : V) (t : List V) : WfL (v :: t) ↔ Wf v ∧ WfL t := by rw [WfL]
theorem WfL_nil : WfL [] := by rw [WfL]; trivial
theorem WfL_mem : ∀ (l : List V), WfL l ↔ ∀ v ∈ l, Wf v
  | [] => ⟨fun _ _ h => (List.not_mem_nil h).elim, fun _ => WfL_nil⟩
  | v :: t => by
    rw [WfL_cons, WfL_mem t]
    simp
theorem Wf.items {v : V} (h : Wf v) : WfL v.items := ((Wf_iff v).1 h).2.2.2.2.2.2
/-! ### a row of a stack -/
/-- The slice y is the row l: as it lay in the world w0, or a block of one value that the call has made (not block g). -/
def Rk (w0 : World) (B g : Nat) (y : Value) (l : List V) (w : World) : Prop :=
  WfL l ∧ (Is y l w0 ∨ ∃ b v c3 c4, l = [v] ∧ y = .slice (some ⟨b, 0, none⟩) 1 1 ∧ B ≤ b ∧ b ≠ g ∧ b < w.heap.size ∧ C5 b 0 (.int .i64 v.kind) (.int .i64 v.num) (.string v.str) c3 c4 w ∧ Is c3 v.items w0 ∧ Ks c4 v.keys w0)
theorem Rk.shape {w0 : World} {B g : Nat} {y : Value} {l : List V} {w : World} (h : Rk w0 B g y l w) : ∃ A c, y = .slice A l.length c ∧ l.length ≤ c := by
  rcases h.2 with h | ⟨b, v, c3, c4, rfl, rfl, _⟩
  · exact h.shape
  · exact ⟨_, 1, rfl, Nat.le_refl _⟩
theorem Rk.nil {w0 : World} {B g : Nat} {A : Option Addr} {c : Nat} {w : World} : Rk w0 B g (.slice A 0 c) [] w := ⟨WfL_nil, .inl (Is.nil _ _ _)⟩
theorem Rk.of {w0 : World} {B g : Nat} {y : Value} {l : List V} {w : World} (hw : WfL l) (h : Is y l w0) : Rk w0 B g y l w := ⟨hw, .inl h⟩
theorem Rk.kept {w0 : World} {B g g' : Nat} {y : Value} {l : List V} {w w' : World} (h : Rk w0 B g y l w) (hb : ∀ b, B ≤ b → b ≠ g → b < w.heap.size → b ≠ g' ∧ w'.heap[b]? = w.heap[b]?) (hs : w.heap.size ≤ w'.heap.size) : Rk w0 B g' y l w' := by
  refine ⟨h.1, ?_⟩
  rcases h.2 with h | ⟨b, v, c3, c4, hl, hy, h1, h2, h3, h4, h5, h6⟩
  · exact .inl h
  · obtain ⟨k1, k2⟩ := hb b h1 h2 h3
    exact .inr ⟨b, v, c3, c4, hl, hy, h1, k1, Nat.lt_of_lt_of_le h3 hs, h4.kept k2, h5, h6⟩
theorem Rk.cons {w0 : World} {B g : Nat} {y : Value} {x : V} {t : List V} {w : World} (h : Rk w0 B g y (x :: t) w) (q : Q w0 w) (hB : w0.heap.size ≤ B) (hg : B ≤ g) :
    ∃ b o c c3 c4, y = .slice (some ⟨b, o, none⟩) (t.length + 1) c ∧ t.length + 1 ≤ c ∧ b ≠ g ∧ (b < w0.heap.size ∨ B ≤ b) ∧ C5 b o (.int .i64 x.kind) (.int .i64 x.num) (.string x.str) c3 c4 w ∧ Is c3 x.items w0 ∧ Ks c4 x.keys w0 ∧ Wf x ∧ WfL t ∧
      (∀ A, (c = 1 ∨ A = some ⟨b, o + 5, none⟩) → Is (.slice A t.length (c - 1)) t w0) := by
  have hw := (WfL_cons _ _).1 h.1
  rcases h.2 with h | ⟨b, v, c3, c4, hl, rfl, h1, h2, h3, h4, h5, h6⟩
  · obtain ⟨A, c, e, hc, k⟩ := h
    obtain ⟨b, o, rfl, k2⟩ := k (by simp)
    obtain ⟨s3, s4, hd⟩ := k2.hd
    have hlt : b < w0.heap.size := cell_lt hd.k
    refine ⟨b, o, c, s3, s4, e, hc, by omega, .inl hlt, ?_, hd.is, hd.kk, hw.1, hw.2, fun A hA => ?_⟩
    · exact ⟨cell_stays q hd.k, cell_stays q hd.n, cell_stays q hd.s, cell_stays q hd.l, cell_stays q hd.ks⟩
    · have hc' : t.length + 1 ≤ c := hc
      refine ⟨A, c - 1, rfl, by omega, fun hn => ?_⟩
      have : 0 < t.length := List.length_pos_iff.2 hn
      rcases hA with hA | hA
      · omega
      · exact ⟨b, o + 5, hA, ((VL_cons ..).1 k2).2⟩
  · simp only [List.cons.injEq] at hl
    obtain ⟨rfl, rfl⟩ := hl
    exact ⟨b, 0, 1, c3, c4, rfl, Nat.le_refl _, h2, .inr h1, h4, h5, h6, hw.1, WfL_nil, fun A _ => ⟨A, 0, rfl, Nat.le_refl _, fun h => absurd rfl h⟩⟩
/-- The rows of a stack. -/
def SK (w0 : World) (B g : Nat) : List Value → List (List V) → World → Prop
  | [], [], _ => True
  | y :: ys, l :: ls, w => Rk w0 B g y l w ∧ SK w0 B g ys ls w
  | _, _, _ => False
theorem SK.kept {w0 : World} {B g g' : Nat} {w w' : World} (hb : ∀ b, B ≤ b → b ≠ g → b < w.heap.size → b ≠ g' ∧ w'.heap[b]? = w.heap[b]?) (hs : w.heap.size ≤ w'.heap.size) : ∀ (ys : List Value) (ls : List (List V)), SK w0 B g ys ls w → SK w0 B g' ys ls w'
  | [], [], _ => trivial
  | _ :: ys, _ :: ls, h => ⟨h.1.kept hb hs, SK.kept hb hs ys ls h.2⟩
  | [], _ :: _, h => h.elim
  | _ :: _, [], h => h.elim
theorem SK.len {w0 : World} {B g : Nat} {w : World} : ∀ (ys : List Value) (ls : List (List V)), SK w0 B g ys ls w → ys.length = ls.length
  | [], [], _ => rfl
  | _ :: ys, _ :: ls, h => by rw [List.length_cons, List.length_cons, SK.len ys ls h.2]
  | [], _ :: _, h => h.elim
  | _ :: _, [], h => h.elim
/-- A slice that is the call's own, of one-cell elements. -/
def Ow (T : TypeId) (B g cap : Nat) (xs : List Value) (w : World) : Prop := w.ownsRow B T 1 (.slice (some ⟨g, 0, none⟩) xs.length cap) xs.length xs
theorem Ow.at {T : TypeId} {B g cap : Nat} {xs : List Value} {w : World} (h : Ow T B g cap xs w) (j : Nat) (u : Value) (hj : xs[j]? = some u) : w.cell? ⟨g, j, none⟩ = some u := by
  have hlt : j < xs.length := (List.getElem?_eq_some_iff.1 hj).1
  rw [World.ownsRow.cellAt h j (by omega), hj]
theorem Ow.frozen {T : TypeId} {B g cap : Nat} {xs : List Value} {w : World} (h : Ow T B g cap xs w) (j : Nat) : w.frozen? ⟨g, j, none⟩ = false := World.ownsRow.frozenAt h j
theorem Ow.base {T : TypeId} {B g cap : Nat} {xs : List Value} {w : World} (h : Ow T B g cap xs w) : B ≤ g ∧ g < w.heap.size := World.ownsRow.lt h g rfl
theorem Ow.cap {T : TypeId} {B g cap : Nat} {xs : List Value} {w : World} (h : Ow T B g cap xs w) : xs.length ≤ cap ∧ cap ≤ maxLen := by
  rcases h.2 with ⟨h, _⟩ | ⟨g', cap', cur, hv, _, _, h1, h2, _⟩
  · cases h
  · simp only [Value.slice.injEq] at hv
    obtain ⟨_, _, rfl⟩ := hv
    exact ⟨h1, h2⟩
theorem Ow.drop {T : TypeId} {B g cap : Nat} {xs : List Value} {x : Value} {w : World} (h : Ow T B g cap (xs ++ [x]) w) : Ow T B g cap xs w := by
  unfold Ow at h ⊢
  rcases h with ⟨_, ⟨h, _⟩ | ⟨g', cap', cur, hv, h1, h2, h3, h4, h5, h6⟩⟩
  · cases h
  · simp only [Value.slice.injEq, Option.some.injEq, Addr.mk.injEq] at hv
    obtain ⟨⟨rfl, _⟩, _, rfl⟩ := hv
    rw [List.length_append, List.length_singleton] at h3 h6
    refine ⟨by simp, .inr ⟨g, cap, cur, rfl, h1, h2, by omega, h4, h5, ?_⟩⟩
    have := congrArg (List.take xs.length) h6
    rw [List.take_take, Nat.min_eq_left (by omega), List.take_left' rfl] at this
    rw [Nat.mul_one]
    exact this
theorem Ow.kept {T : TypeId} {B g cap : Nat} {xs : List Value} {w w' : World} (h : Ow T B g cap xs w) (hb : w'.heap[g]? = w.heap[g]?) : Ow T B g cap xs w' := by
  unfold Ow at h ⊢
  rcases h with ⟨h0, ⟨h, _⟩ | ⟨g', cap', cur, hv, h1, h2, h3⟩⟩
  · cases h
  · simp only [Value.slice.injEq, Option.some.injEq, Addr.mk.injEq] at hv
    obtain ⟨⟨rfl, _⟩, _, rfl⟩ := hv
    exact ⟨h0, .inr ⟨g, cap, cur, rfl, h1, hb.trans h2, h3⟩⟩
theorem Ow.set {T : TypeId} {B g cap : Nat} {xs : List Value} {w : World} (h : Ow T B g cap xs w) (j : Nat) (u : Value) : Ow T B g cap (xs.set j u) (w.setCell ⟨g, j, none⟩ u) := by
  unfold Ow at h ⊢
  rw [List.length_set]
  exact (World.ownsRow.stored h j u).1

end Go.Proofs.YtjmchjphdfbhiaaGreatDoor.val
