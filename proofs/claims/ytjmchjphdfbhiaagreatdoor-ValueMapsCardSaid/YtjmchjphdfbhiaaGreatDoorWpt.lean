/- The reference's Put, plain; reading in a world with some blocks emptied; the rows that Put makes. -/
import Derived.Test.YtjmchjphdfbhiaaGreatDoorVmy
import Derived.Test.YtjmchjphdfbhiaaGreatDoorWgt
namespace Go.Proofs.YtjmchjphdfbhiaaGreatDoor.val
open Go.RowKit
open Go.Proofs.YtjmchjphdfbhiaaGreatDoor
open Go.Proofs.YtjmchjphdfbhiaaGreatDoor.val.cp (Fit Fit_iff FitL_mem set5 set5_block set5_world set5_at)
/-- The pairs that the reference's Put makes. -/
def rputL : Bool → List (ByteArray × V) → ByteArray → V → List (ByteArray × V)
  | d, [], k, x => if d then [] else [(k, x)]
  | d, (a, v) :: t, k, x => (if d = false ∧ 0 ≤ cT a k then [(k, x)] else []) ++ ((if cT a k = 0 then [] else [(a, v)]) ++ rputL (d || decide (0 ≤ cT a k)) t k x)
theorem rput_done (k : ByteArray) (x : V) : ∀ t : List (ByteArray × V), (∀ b ∈ t, cT b.1 k ≠ 0) → rputL true t k x = t
  | [], _ => rfl
  | (a, v) :: t, h => by
    rw [rputL, if_neg (by simp), if_neg (h (a, v) List.mem_cons_self), Bool.true_or, rput_done k x t (fun b hb => h b (List.mem_cons_of_mem _ hb))]
    rfl
theorem rput_asc (k : ByteArray) (x : V) : ∀ m : List (ByteArray × V), asc m → rputL false m k x = putP m k x
  | [], _ => rfl
  | (a, v) :: t, h => by
    obtain ⟨h1, h2⟩ := (asc_cons _ _).1 h
    have ha := tot_cT.anti a k
    rw [rputL, putP]
    by_cases hl : cT a k < 0
    · rw [if_neg (fun g => by have := g.2; omega), if_neg (by omega), if_pos hl, Bool.false_or, decide_eq_false (by omega), rput_asc k x t h2]
      rfl
    · have hd : rputL true t k x = t := rput_done k x t (fun b hb e => by
        have g1 := h1 b hb
        have e' := (tot_cT.zero _ _).1 e
        rw [e'] at g1
        exact hl g1)
      rw [if_pos ⟨rfl, by omega⟩, if_neg hl, Bool.false_or, decide_eq_true (show 0 ≤ cT a k by omega), hd]
      by_cases h0 : cT a k = 0
      · rw [if_pos h0, if_pos h0]
        rfl
      · rw [if_neg h0, if_neg h0]
        rfl
theorem rputL_len (k : ByteArray) (x : V) : ∀ (m : List (ByteArray × V)) (d : Bool), (rputL d m k x).length ≤ m.length + 1
  | [], d => by cases d <;> simp [rputL]
  | (a, v) :: t, d => by
    have ih := rputL_len k x t (d || decide (0 ≤ cT a k))
    have ih1 := rputL_len k x t
    rw [rputL, List.length_append, List.length_append, List.length_cons]
    have ih2 : ∀ m : List (ByteArray × V), (rputL true m k x).length ≤ m.length := by
      intro m
      induction m with
      | nil => simp [rputL]
      | cons b u ihm =>
        obtain ⟨b, y⟩ := b
        rw [rputL, if_neg (by simp), Bool.true_or, List.nil_append, List.length_append, List.length_cons]
        have : (if cT b k = 0 then ([] : List (ByteArray × V)) else [(b, y)]).length ≤ 1 := by split <;> simp
        omega
    have e1 : (if cT a k = 0 then ([] : List (ByteArray × V)) else [(a, v)]).length ≤ 1 := by split <;> simp
    by_cases hc : d = false ∧ 0 ≤ cT a k
    · rw [if_pos hc]
      have := ih2 t
      rw [hc.1, Bool.false_or, decide_eq_true hc.2]
      show 1 + _ ≤ _
      omega
    · rw [if_neg hc]
      show 0 + _ ≤ _
      omega
/-- The world with some blocks emptied. -/
def eo (p : Nat → Bool) (w : World) : World := { w with heap := w.heap.mapIdx (fun i b => if p i then .cells #[] 0 else b) }
def okp (p : Nat → Bool) (w : World) : Prop := ∀ q, p q = true → q < w.heap.size
theorem okp.up {p : Nat → Bool} {w w' : World} (h : okp p w) (q : Q w w') : okp p w' := fun x e => Nat.lt_of_lt_of_le (h x e) q.size
theorem eo_size (p : Nat → Bool) (w : World) : (eo p w).heap.size = w.heap.size := by simp [eo]
theorem eo_at (p : Nat → Bool) (w : World) (j : Nat) : (eo p w).heap[j]? = w.heap[j]?.map (fun b => if p j then .cells #[] 0 else b) := by
  simp [eo, Array.getElem?_mapIdx]
theorem eo_other {p : Nat → Bool} {w : World} {j : Nat} (h : p j = false) : (eo p w).heap[j]? = w.heap[j]? := by
  rw [eo_at, h]
  cases w.heap[j]? <;> rfl
theorem eo_cell {p : Nat → Bool} {w : World} {a : Addr} {u : Value} (h : (eo p w).cell? a = some u) : p a.block = false ∧ w.cell? a = some u := by
  have hne : p a.block = false := by
    cases e : p a.block with
    | false => rfl
    | true =>
      have hlt := cell_lt h
      rw [eo_size] at hlt
      have hb : (eo p w).heap[a.block]? = some (.cells #[] 0) := by
        rw [eo_at, e, Array.getElem?_eq_getElem hlt]
        rfl
      unfold World.cell? at h
      simp only [hb] at h
      simp at h
  exact ⟨hne, (cell_block (eo_other hne)).symm.trans h⟩
theorem eo_keep {p : Nat → Bool} {w : World} {a : Addr} {u : Value} (h : w.cell? a = some u) (hp : p a.block = false) : (eo p w).cell? a = some u := (cell_block (eo_other hp)).trans h
theorem eo_q {p : Nat → Bool} {w w' : World} (hs : w.heap.size ≤ w'.heap.size) (ho : w'.os = w.os ∧ w'.tape = w.tape ∧ w'.output = w.output) (hb : ∀ j, j < w.heap.size → p j = false → w'.heap[j]? = w.heap[j]?) : Q (eo p w) (eo p w') := by
  refine ⟨ho.1, ho.2.1, ho.2.2, by rw [eo_size, eo_size]; exact hs, fun j hj => ?_⟩
  rw [eo_size] at hj
  cases e : p j with
  | true => rw [eo_at, eo_at, e, Array.getElem?_eq_getElem hj, Array.getElem?_eq_getElem (show j < w'.heap.size by omega)]; rfl
  | false => rw [eo_other e, eo_other e, hb j hj e]
theorem Q.eo {p : Nat → Bool} {w w' : World} (q : Q w w') : Q (val.eo p w) (val.eo p w') := eo_q q.size ⟨q.os, q.tape, q.output⟩ (fun j hj _ => q.block j hj)
theorem Q.eoNew {p : Nat → Bool} {w w' : World} (q : Q w w') (hp : ∀ x, p x = true → w.heap.size ≤ x) : Q w (val.eo p w') :=
  ⟨q.os, q.tape, q.output, by rw [eo_size]; exact q.size, fun j hj => (eo_other (by cases e : p j with | false => rfl | true => have := hp j e; omega)).trans (q.block j hj)⟩
theorem KL.sub {w w' : World} (h : ∀ (a : Addr) (u : Value), w.cell? a = some u → w'.cell? a = some u) : ∀ (l : List ByteArray) (b o : Nat), KL l b o w → KL l b o w'
  | [], _, _, _ => trivial
  | _ :: t, b, o, g => ⟨h _ _ g.1, KL.sub h t b (o + 1) g.2⟩
theorem Vi.sub {w w' : World} (h : ∀ (a : Addr) (u : Value), w.cell? a = some u → w'.cell? a = some u) : (∀ (v : V) (c0 c1 c2 c3 c4 : Value), Vi v c0 c1 c2 c3 c4 w → Vi v c0 c1 c2 c3 c4 w') ∧ (∀ (l : List V) (b o : Nat), VL l b o w → VL l b o w') := by
  refine V.both (P := fun v => ∀ (c0 c1 c2 c3 c4 : Value), Vi v c0 c1 c2 c3 c4 w → Vi v c0 c1 c2 c3 c4 w') (Q := fun l => ∀ (b o : Nat), VL l b o w → VL l b o w') ?_ ?_ ?_
  · intro k n s l ks ih c0 c1 c2 c3 c4 g
    rw [Vi_iff] at g ⊢
    obtain ⟨h0, h1, h2, ⟨A, c, h3, h3', h4⟩, ⟨A', c', h5, h5', h6⟩⟩ := g
    refine ⟨h0, h1, h2, ⟨A, c, h3, h3', fun hn => ?_⟩, ⟨A', c', h5, h5', fun hn => ?_⟩⟩
    · obtain ⟨b, o, e, g⟩ := h4 hn
      exact ⟨b, o, e, ih b o g⟩
    · obtain ⟨b, o, e, g⟩ := h6 hn
      exact ⟨b, o, e, KL.sub h _ _ _ g⟩
  · intro b o _
    exact VL_nil _ _ _
  · intro v t h1 h2 b o g
    rw [VL_cons] at g ⊢
    obtain ⟨⟨c0, c1, c2, c3, c4, g0, g1, g2, g3, g4, g5⟩, g6⟩ := g
    exact ⟨⟨c0, c1, c2, c3, c4, h _ _ g0, h _ _ g1, h _ _ g2, h _ _ g3, h _ _ g4, h1 _ _ _ _ _ g5⟩, h2 _ _ g6⟩
theorem Is.real {p : Nat → Bool} {w : World} {v : Value} {l : List V} (g : Is v l (eo p w)) : Is v l w := by
  obtain ⟨A, c, e, hc, g⟩ := g
  refine ⟨A, c, e, hc, fun hn => ?_⟩
  obtain ⟨b, o, e, g⟩ := g hn
  exact ⟨b, o, e, (Vi.sub (fun _ _ h => (eo_cell h).2)).2 _ _ _ g⟩
theorem Ks.real {p : Nat → Bool} {w : World} {v : Value} {l : List ByteArray} (g : Ks v l (eo p w)) : Ks v l w := by
  obtain ⟨A, c, e, hc, g⟩ := g
  refine ⟨A, c, e, hc, fun hn => ?_⟩
  obtain ⟨b, o, e, g⟩ := g hn
  exact ⟨b, o, e, KL.sub (fun _ _ h => (eo_cell h).2) _ _ _ g⟩
theorem Is.eo0 {w : World} {v : Value} {l : List V} (g : Is v l w) : Is v l (eo (fun _ => false) w) := by
  obtain ⟨A, c, e, hc, g⟩ := g
  refine ⟨A, c, e, hc, fun hn => ?_⟩
  obtain ⟨b, o, e, g⟩ := g hn
  exact ⟨b, o, e, (Vi.sub (fun _ _ h => eo_keep h rfl)).2 _ _ _ g⟩
theorem Ks.eo0 {w : World} {v : Value} {l : List ByteArray} (g : Ks v l w) : Ks v l (eo (fun _ => false) w) := by
  obtain ⟨A, c, e, hc, g⟩ := g
  refine ⟨A, c, e, hc, fun hn => ?_⟩
  obtain ⟨b, o, e, g⟩ := g hn
  exact ⟨b, o, e, KL.sub (fun _ _ h => eo_keep h rfl) _ _ _ g⟩
/-- The cells of a row of pairs' items, and what they read as. -/
def Rw : List (ByteArray × V) → List Value → World → Prop
  | [], xs, _ => xs = []
  | (_, v) :: t, xs, w => ∃ s3 s4 ys, xs = [.int .i64 v.kind, .int .i64 v.num, .string v.str, s3, s4] ++ ys ∧ Is s3 v.items w ∧ Ks s4 v.keys w ∧ Rw t ys w
theorem Rw.app {w : World} {k : ByteArray} {v : V} {s3 s4 : Value} (h3 : Is s3 v.items w) (h4 : Ks s4 v.keys w) : ∀ (m : List (ByteArray × V)) (xs : List Value), Rw m xs w → Rw (m ++ [(k, v)]) (xs ++ [.int .i64 v.kind, .int .i64 v.num, .string v.str, s3, s4]) w
  | [], xs, h => by
    rw [Rw] at h
    subst h
    exact ⟨s3, s4, [], rfl, h3, h4, rfl⟩
  | (a, y) :: t, xs, h => by
    rw [Rw] at h
    obtain ⟨t3, t4, ys, rfl, g3, g4, g⟩ := h
    rw [List.cons_append, Rw]
    exact ⟨t3, t4, ys ++ _, by rw [List.append_assoc], g3, g4, Rw.app h3 h4 t ys g⟩
theorem Rw.at {w : World} : ∀ (m : List (ByteArray × V)) (xs : List Value), Rw m xs w → ∀ (i : Nat) (hi : i < m.length), ∃ s3 s4, Is s3 m[i].2.items w ∧ Ks s4 m[i].2.keys w ∧ xs[i * 5]? = some (.int .i64 m[i].2.kind) ∧ xs[i * 5 + 1]? = some (.int .i64 m[i].2.num) ∧ xs[i * 5 + 2]? = some (.string m[i].2.str) ∧ xs[i * 5 + 3]? = some s3 ∧ xs[i * 5 + 4]? = some s4
  | [], _, _, i, hi => absurd hi (Nat.not_lt_zero _)
  | (a, y) :: t, xs, h, 0, _ => by
    rw [Rw] at h
    obtain ⟨t3, t4, ys, rfl, g3, g4, g⟩ := h
    exact ⟨t3, t4, g3, g4, rfl, rfl, rfl, rfl, rfl⟩
  | (a, y) :: t, xs, h, i + 1, hi => by
    rw [Rw] at h
    obtain ⟨t3, t4, ys, rfl, g3, g4, g⟩ := h
    obtain ⟨s3, s4, h1, h2, e0, e1, e2, e3, e4⟩ := Rw.at t ys g i (by simpa using hi)
    have key : ∀ j, ([.int .i64 y.kind, .int .i64 y.num, .string y.str, t3, t4] ++ ys)[(i + 1) * 5 + j]? = ys[i * 5 + j]? := fun j => by
      rw [List.getElem?_append_right (by show 5 ≤ _; omega)]
      congr 1
      show (i + 1) * 5 + j - 5 = _
      omega
    have k0 := key 0
    rw [Nat.add_zero, Nat.add_zero] at k0
    exact ⟨s3, s4, h1, h2, k0.trans e0, (key 1).trans e1, (key 2).trans e2, (key 3).trans e3, (key 4).trans e4⟩
theorem Rw.len {w : World} : ∀ (m : List (ByteArray × V)) (xs : List Value), Rw m xs w → xs.length = m.length * 5
  | [], xs, h => by
    rw [Rw] at h
    rw [h]
    rfl
  | (a, y) :: t, xs, h => by
    rw [Rw] at h
    obtain ⟨t3, t4, ys, rfl, g3, g4, g⟩ := h
    rw [List.length_append, Rw.len t ys g]
    show 5 + _ = (t.length + 1) * 5
    omega
/-- What Put's loop knows: its two rows, of block S, hold these pairs; what they hold reads in w, block p apart. -/
structure OM (p : Nat → Bool) (m : List (ByteArray × V)) (S : Nat) (AK : Option Addr) (cK : Nat) (AI : Option Addr) (cI k : Nat) (w w3 wr : World) : Prop where
  len : m.length = k
  tw : ∃ xs, Tw S 9 1 (.slice AK k cK) k (m.map (fun b => .string b.1)) 26 5 (.slice AI k cI) k xs w3 wr ∧ Rw m xs (eo p w)
  bk : Bk S #[.int .i64 5, .int .i64 0, .string ⟨#[]⟩, .slice AI k cI, .slice AK k cK] 26 wr
/-- The same when the key has been appended, and the item has not. -/
structure OH (p : Nat → Bool) (m : List (ByteArray × V)) (y : ByteArray) (S : Nat) (AK : Option Addr) (cK : Nat) (AI : Option Addr) (cI k : Nat) (w w3 wr : World) : Prop where
  len : m.length = k
  tw : ∃ xs, Tw S 9 1 (.slice AK (k + 1) cK) (k + 1) (m.map (fun b => .string b.1) ++ [.string y]) 26 5 (.slice AI k cI) k xs w3 wr ∧ Rw m xs (eo p w)
  bk : Bk S #[.int .i64 5, .int .i64 0, .string ⟨#[]⟩, .slice AI k cI, .slice AK (k + 1) cK] 26 wr
theorem OM.quiet {p : Nat → Bool} {m : List (ByteArray × V)} {S : Nat} {AK : Option Addr} {cK : Nat} {AI : Option Addr} {cI k : Nat} {w w3 wr : World} (h : OM p m S AK cK AI cI k w w3 wr) {W : World} (q : Q wr W) : OM p m S AK cK AI cI k w w3 W := by
  obtain ⟨l, ⟨xs, t, r⟩, b⟩ := h
  exact ⟨l, ⟨xs, t.quiet q, r⟩, b.stays q⟩
theorem OH.quiet {p : Nat → Bool} {m : List (ByteArray × V)} {y : ByteArray} {S : Nat} {AK : Option Addr} {cK : Nat} {AI : Option Addr} {cI k : Nat} {w w3 wr : World} (h : OH p m y S AK cK AI cI k w w3 wr) {W : World} (q : Q wr W) : OH p m y S AK cK AI cI k w w3 W := by
  obtain ⟨l, ⟨xs, t, r⟩, b⟩ := h
  exact ⟨l, ⟨xs, t.quiet q, r⟩, b.stays q⟩
theorem OM.grown {p : Nat → Bool} {m : List (ByteArray × V)} {S : Nat} {AK : Option Addr} {cK : Nat} {AI : Option Addr} {cI k : Nat} {w w3 wr u : World} (h : OM p m S AK cK AI cI k w w3 wr) (q : Q u w3) (hS : u.heap.size ≤ S) : Q u wr := by
  obtain ⟨l, ⟨xs, t, r⟩, b⟩ := h
  exact t.grown q hS
theorem OH.grown {p : Nat → Bool} {m : List (ByteArray × V)} {y : ByteArray} {S : Nat} {AK : Option Addr} {cK : Nat} {AI : Option Addr} {cI k : Nat} {w w3 wr u : World} (h : OH p m y S AK cK AI cI k w w3 wr) (q : Q u w3) (hS : u.heap.size ≤ S) : Q u wr := by
  obtain ⟨l, ⟨xs, t, r⟩, b⟩ := h
  exact t.grown q hS
theorem OM.push {p : Nat → Bool} {m : List (ByteArray × V)} {S : Nat} {AK : Option Addr} {cK : Nat} {AI : Option Addr} {cI k : Nat} {w w3 wa : World} (h : OM p m S AK cK AI cI k w w3 wa) (y : ByteArray) {g2 cap2 : Nat} {w4 : World}
    (O4 : w4.ownsRow w3.heap.size 9 1 (.slice (some ⟨g2, 0, none⟩) (k + 1) cap2) (k + 1) (m.map (fun b => .string b.1) ++ [.string y])) (G4 : wa.grownBy w4 (Value.slice AK k cK).ownBlock) (hg4 : (Value.slice AK k cK).ownBlock = some g2 ∨ g2 = wa.heap.size) :
    OH p m y S (some ⟨g2, 0, none⟩) cap2 AI cI k w w3 (w4.setCell ⟨S, 4, none⟩ (.slice (some ⟨g2, 0, none⟩) (k + 1) cap2)) ∧ Bk S #[.int .i64 5, .int .i64 0, .string ⟨#[]⟩, .slice AI k cI, .slice AK k cK] 26 w4 := by
  obtain ⟨l, ⟨xs, t, r⟩, b⟩ := h
  have B4 := t.blk G4 b
  exact ⟨⟨l, ⟨xs, t.push O4 G4 rfl hg4 rfl 4 _, r⟩, B4.set 4 _⟩, B4⟩
theorem OH.push {p : Nat → Bool} {m : List (ByteArray × V)} {y : ByteArray} {S : Nat} {AK : Option Addr} {cK : Nat} {AI : Option Addr} {cI k : Nat} {w w3 wa : World} {xs : List Value} (hl : m.length = k)
    (t : Tw S 9 1 (.slice AK (k + 1) cK) (k + 1) (m.map (fun b => .string b.1) ++ [.string y]) 26 5 (.slice AI k cI) k xs w3 wa) (r : Rw m xs (eo p w)) (b : Bk S #[.int .i64 5, .int .i64 0, .string ⟨#[]⟩, .slice AI k cI, .slice AK (k + 1) cK] 26 wa)
    (u : V) {s3 s4 : Value} (h3 : Is s3 u.items (eo p w)) (h4 : Ks s4 u.keys (eo p w)) {g6 cap6 : Nat} {w6 : World}
    (O6 : w6.ownsRow w3.heap.size 26 5 (.slice (some ⟨g6, 0, none⟩) (k + 1) cap6) (k + 1) (xs ++ [.int .i64 u.kind, .int .i64 u.num, .string u.str, s3, s4])) (G6 : wa.grownBy w6 (Value.slice AI k cI).ownBlock) (hg6 : (Value.slice AI k cI).ownBlock = some g6 ∨ g6 = wa.heap.size) :
    OM p (m ++ [(y, u)]) S AK cK (some ⟨g6, 0, none⟩) cap6 (k + 1) w w3 (w6.setCell ⟨S, 3, none⟩ (.slice (some ⟨g6, 0, none⟩) (k + 1) cap6)) ∧ Bk S #[.int .i64 5, .int .i64 0, .string ⟨#[]⟩, .slice AI k cI, .slice AK (k + 1) cK] 26 w6 := by
  have B6 := t.swap.blk G6 b
  have T6 := (t.swap.push O6 G6 rfl hg6 rfl 3 (.slice (some ⟨g6, 0, none⟩) (k + 1) cap6)).swap
  refine ⟨⟨by rw [List.length_append, hl]; rfl, ⟨_, ?_, Rw.app h3 h4 m xs r⟩, B6.set 3 _⟩, B6⟩
  rw [List.map_append]
  exact T6
theorem OM.start {p : Nat → Bool} {S : Nat} {w w3 : World} (b : Bk S #[.int .i64 5, .int .i64 0, .string ⟨#[]⟩, .slice none 0 0, .slice none 0 0] 26 w3) : OM p [] S none 0 none 0 0 w w3 w3 :=
  ⟨rfl, ⟨[], ⟨World.ownsRow_nil _ _ _ _, World.ownsRow_nil _ _ _ _, (fun g e => by cases e), ⟨rfl, rfl, rfl, Nat.le_refl _, fun _ _ _ => rfl⟩, b.lt⟩, rfl⟩, b⟩
/-- What the rows of Put's loop read as. -/
theorem OM.reads {p : Nat → Bool} {m : List (ByteArray × V)} {S : Nat} {AK : Option Addr} {cK : Nat} {AI : Option Addr} {cI k : Nat} {w w3 wr : World} (h : OM p m S AK cK AI cI k w w3 wr) (q : Q w w3) (hp : okp p w) {wz : World} (qr : Q w wz) (hz : ∀ j, w3.heap.size ≤ j → j < wr.heap.size → wz.heap[j]? = wr.heap[j]?) :
    Is (.slice AI k cI) (m.map (fun b => b.2)) (eo p wz) ∧ Ks (.slice AK k cK) (m.map (fun b => b.1)) (eo p wz) := by
  obtain ⟨hl, ⟨xs, t, r⟩, b⟩ := h
  have o1 := t.own1
  have o2 := t.own2
  have hsz := q.size
  constructor
  · refine ⟨AI, cI, by rw [List.length_map, hl], ?_, fun hn => ?_⟩
    · rw [List.length_map, hl]
      rcases o2.2 with ⟨e, e0⟩ | ⟨g, cap, cur, e, _, _, hc, _⟩
      · omega
      · simp only [Value.slice.injEq] at e
        omega
    · rcases o2.2 with ⟨e, e0⟩ | ⟨g, cap, cur, e, _, _, hc, _⟩
      · exact absurd (List.length_eq_zero_iff.1 (by rw [List.length_map, hl]; omega)) hn
      · simp only [Value.slice.injEq] at e
        obtain ⟨rfl, -, rfl⟩ := e
        have hb := o2.lt g rfl
        have hpg : p g = false := by
          cases e : p g with
          | false => rfl
          | true => have := hp g e; omega
        refine ⟨g, 0, rfl, VL.of_at _ _ _ _ (fun i hi => ?_)⟩
        have hi' : i < m.length := by rw [List.length_map] at hi; exact hi
        obtain ⟨s3, s4, i3, i4, e0, e1, e2, e3, e4⟩ := Rw.at m xs r i hi'
        have key : ∀ j, j < 5 → (eo p wz).cell? ⟨g, 0 + i * 5 + j, none⟩ = xs[i * 5 + j]? := fun j hj => by
          refine (cell_block (eo_other hpg)).trans ?_
          refine (cell_block (hz g hb.1 hb.2)).trans ?_
          rw [Nat.zero_add, World.ownsRow.cellAt o2 (i * 5 + j) (by omega)]
        have em : (m.map (fun b => b.2))[i] = m[i].2 := by rw [List.getElem_map]
        rw [em]
        have k0 := key 0 (by decide)
        rw [Nat.add_zero, Nat.add_zero] at k0
        exact ⟨s3, s4, ⟨k0.trans e0, (key 1 (by decide)).trans e1, (key 2 (by decide)).trans e2, (key 3 (by decide)).trans e3, (key 4 (by decide)).trans e4, i3.stays qr.eo, i4.stays qr.eo⟩⟩
  · refine ⟨AK, cK, by rw [List.length_map, hl], ?_, fun hn => ?_⟩
    · rw [List.length_map, hl]
      rcases o1.2 with ⟨e, e0⟩ | ⟨g, cap, cur, e, _, _, hc, _⟩
      · omega
      · simp only [Value.slice.injEq] at e
        omega
    · rcases o1.2 with ⟨e, e0⟩ | ⟨g, cap, cur, e, _, _, hc, _⟩
      · exact absurd (List.length_eq_zero_iff.1 (by rw [List.length_map, hl]; omega)) hn
      · simp only [Value.slice.injEq] at e
        obtain ⟨rfl, -, rfl⟩ := e
        have hb := o1.lt g rfl
        have hpg : p g = false := by
          cases e : p g with
          | false => rfl
          | true => have := hp g e; omega
        refine ⟨g, 0, rfl, KL.of_at _ _ _ _ (fun i hi => ?_)⟩
        have hi' : i < m.length := by rw [List.length_map] at hi; exact hi
        refine (cell_block (eo_other hpg)).trans ?_
        refine (cell_block (hz g hb.1 hb.2)).trans ?_
        rw [Nat.zero_add, World.ownsRow.cellAt o1 i (by omega), List.getElem?_map, List.getElem?_eq_getElem hi', List.getElem_map]
        rfl
/-- append of one string, and of one value, to a row that the call owns. -/
theorem wpl_str {w : World} {ops : Array Oper} {rest : List Oper} {o : Oper} {a : Act} {Q' : Exit → Act → World → Prop} (hgd : o.guard = none) (s x : Operand)
    (ho : o.op = .call { callee := .builtin .append, args := #[s, x], argTypes := #[24, 24] })
    (B : Nat) (v : Value) (n : Nat) (xs : List Value) (hs : a.eval s = v) (hown : w.ownsRow B 9 1 v n xs) (ad : Addr) (hx : a.eval x = .slice (some ad) 1 1)
    (u : Value) (hnews : w.cell? ad = some u) (h1 : u.oneCell' = true) (hlim : n ≤ 1000000) (hbase : B ≤ w.heap.size)
    (h : ∀ g cap w', w'.ownsRow B 9 1 (.slice (some ⟨g, 0, none⟩) (n + 1) cap) (n + 1) (xs ++ [u]) → w.grownBy w' v.ownBlock → (v.ownBlock = some g ∨ g = w.heap.size) → wpList Tryz.prog ops Q' rest (a.put o.dst (.slice (some ⟨g, 0, none⟩) (n + 1) cap)) w') : wpList Tryz.prog ops Q' (o :: rest) a w := by
  obtain ⟨i0, hi, hz0, hz1, hz2⟩ := info_parts info_str
  refine wpList_append_lies w hgd s x 24 ho B 9 i0 (.string ⟨#[]⟩) 1 16 Tryz.underlying24 hi hz0 hz1 hz2 rfl (by decide) v n xs hs hown ad 1 1 [u] hx rfl ?_ ?_ (by decide) (by unfold maxLen; omega) (by omega) hbase w.heap.size rfl ?_
  · intro j u' hj
    match j, hj with
    | 0, hj =>
      simp only [List.getElem?_cons_zero, Option.some.injEq] at hj
      subst hj
      obtain ⟨b, o, sp⟩ := ad
      simpa [Addr.add] using hnews
  · intro u' hu
    simp only [List.mem_singleton] at hu
    subst hu
    exact h1
  · intro g cap w' h2 h3 h4 _
    exact h g cap w' h2 h3 h4
theorem wpl_val {w : World} {ops : Array Oper} {rest : List Oper} {o : Oper} {a : Act} {Q' : Exit → Act → World → Prop} (hgd : o.guard = none) (s x : Operand)
    (ho : o.op = .call { callee := .builtin .append, args := #[s, x], argTypes := #[23, 23] })
    (B : Nat) (v : Value) (n : Nat) (xs : List Value) (hs : a.eval s = v) (hown : w.ownsRow B 26 5 v n xs) (b : Nat) (hx : a.eval x = .slice (some ⟨b, 0, none⟩) 1 1)
    (cs : Array Value) (hcs : cs.size = 5) (hnews : Bk b cs 26 w) (h1 : ∀ u ∈ cs.toList, u.oneCell' = true) (hlim : n ≤ 1000000) (hbase : B ≤ w.heap.size)
    (h : ∀ g cap w', w'.ownsRow B 26 5 (.slice (some ⟨g, 0, none⟩) (n + 1) cap) (n + 1) (xs ++ cs.toList) → w.grownBy w' v.ownBlock → (v.ownBlock = some g ∨ g = w.heap.size) → wpList Tryz.prog ops Q' rest (a.put o.dst (.slice (some ⟨g, 0, none⟩) (n + 1) cap)) w') : wpList Tryz.prog ops Q' (o :: rest) a w := by
  obtain ⟨i0, hi, hz0, hz1, hz2⟩ := info_parts info_val
  refine wpList_append_lies w hgd s x 23 ho B 26 i0 _ 5 80 Tryz.underlying23 hi hz0 hz1 hz2 rfl (by decide) v n xs hs hown ⟨b, 0, none⟩ 1 1 cs.toList hx (by rw [Array.length_toList, hcs]) ?_ h1 (by decide) (by unfold maxLen; omega) (by omega) hbase w.heap.size rfl ?_
  · intro j u' hj
    rw [Array.getElem?_toList] at hj
    have := hnews.at j u' hj
    rw [Addr.add_lit, Nat.zero_add]
    exact this
  · intro g cap w' h2 h3 h4 _
    exact h g cap w' h2 h3 h4
end Go.Proofs.YtjmchjphdfbhiaaGreatDoor.val
