/- What a call leaves of the world; groups in memory; computable forms of the plain facts. -/
import Derived.Test.YthknlllaclgekaaGma
import Derived.Test.YthknlllaclgekaaShelf
import Derived.WalkKit
import Derived.WalkSpells
import Derived.WalkLawsBesides
import Derived.Handy
import Derived.Lib.Hide
import Derived.BigQuiet
import Derived.Deep.QuietTactic
import Derived.Deep.RegionHeld3
import Derived.Lib.Strings
import Derived.Lib.IndexMore
import Derived.OwnWalk
import Derived.Lib.SmallJoins
import Derived.Laws.IdiomStrings
namespace Go.Proofs.Ythknlllaclgekaa.glo
open Go.RowKit

/-- What a call does to the world at most: what was there is as it was. -/
def Q (w w' : World) : Prop := Below w.heap.size w w'
theorem Q.refl (w : World) : Q w w := Below.refl _ _
theorem Q.trans {a b c : World} (h : Q a b) (k : Q b c) : Q a c := Below.trans h (Below.mono k h.size)
theorem Q.drewN (w : World) (n : Nat) : Q w (w.drewN n) := ⟨rfl, rfl, rfl, by simp, fun _ _ => rfl⟩
/-- All blocks but p and q are as they were. -/
structure M2 (p q : Nat) (w w' : World) : Prop where
  os : w'.os = w.os
  tape : w'.tape = w.tape
  output : w'.output = w.output
  size : w.heap.size ≤ w'.heap.size
  block : ∀ k, k < w.heap.size → k ≠ p → k ≠ q → w'.heap[k]? = w.heap[k]?
theorem M2.refl (p q : Nat) (w : World) : M2 p q w w := ⟨rfl, rfl, rfl, Nat.le_refl _, fun _ _ _ _ => rfl⟩
theorem M2.trans {p q : Nat} {a b c : World} (h : M2 p q a b) (k : M2 p q b c) : M2 p q a c :=
  ⟨k.os.trans h.os, k.tape.trans h.tape, k.output.trans h.output, Nat.le_trans h.size k.size, fun i hi hp hq => (k.block i (Nat.lt_of_lt_of_le hi h.size) hp hq).trans (h.block i hi hp hq)⟩
theorem Q.but2 {w w' : World} (h : Q w w') (p q : Nat) : M2 p q w w' := ⟨h.os, h.tape, h.output, h.size, fun k hk _ _ => h.block k hk⟩
theorem M2.setFst (p q : Nat) (w : World) (j : Nat) (u : Value) : M2 p q w (w.setCell ⟨p, j, none⟩ u) :=
  ⟨rfl, rfl, rfl, by simp [World.setCell], fun k _ hk _ => Below.heap_setCell w ⟨p, j, none⟩ u k hk⟩
theorem M2.setSnd (p q : Nat) (w : World) (j : Nat) (u : Value) : M2 p q w (w.setCell ⟨q, j, none⟩ u) :=
  ⟨rfl, rfl, rfl, by simp [World.setCell], fun k _ _ hk => Below.heap_setCell w ⟨q, j, none⟩ u k hk⟩
theorem M2.drewN (p q : Nat) (w : World) (n : Nat) : M2 p q w (w.drewN n) := (Q.drewN w n).but2 p q
theorem Q.thenM2 {a b c : World} {p q : Nat} (h : Q a b) (k : M2 p q b c) (hp : a.heap.size ≤ p) (hq : a.heap.size ≤ q) : Q a c :=
  ⟨k.os.trans h.os, k.tape.trans h.tape, k.output.trans h.output, Nat.le_trans h.size k.size, fun i hi => (k.block i (Nat.lt_of_lt_of_le hi h.size) (by omega) (by omega)).trans (h.block i hi)⟩

theorem heap_lt {w : World} {p : Nat} {o : Obj} (h : w.heap[p]? = some o) : p < w.heap.size := by
  rcases Nat.lt_or_ge p w.heap.size with h' | h'
  · exact h'
  · rw [Array.getElem?_eq_none h'] at h
    cases h
theorem cell_of {w : World} {g : Nat} {cs : Array Value} {t : TypeId} {fr : Nat × Nat} (h : w.heap[g]? = some (.cells cs t fr)) (j : Nat) : w.cell? ⟨g, j, none⟩ = cs[j]? := by
  unfold World.cell?
  simp only [h]
  rfl
theorem not_frozen {w : World} {g : Nat} {cs : Array Value} {t : TypeId} (h : w.heap[g]? = some (.cells cs t)) (j : Nat) : w.frozen? ⟨g, j, none⟩ = false := by
  unfold World.frozen?
  simp only [h]
  rw [Bool.and_eq_false_iff]
  right
  exact decide_eq_false (by simp)
theorem set_of {w : World} {g : Nat} {cs : Array Value} {t : TypeId} (h : w.heap[g]? = some (.cells cs t)) (j : Nat) (u : Value) : (w.setCell ⟨g, j, none⟩ u).heap[g]? = some (.cells (cs.setIfInBounds j u) t) := by
  simp only [World.setCell, Array.getElem?_modify, if_pos, h]
  rfl

/-- Block p is a group of the program. -/
def Gr (p : Nat) (m : Bool) (b r : ByteArray) (w : World) : Prop := w.heap[p]? = some (.cells #[.bool m, .string b, .string r] 37)
section
variable {p : Nat} {m : Bool} {b r : ByteArray} {w w' : World}
theorem Gr.new (m : Bool) (b r : ByteArray) (w : World) : Gr w.heap.size m b r (w.alloc (.cells #[.bool m, .string b, .string r] 37)) := heap_alloc_new _ _
theorem Gr.c0 (h : Gr p m b r w) : w.cell? ⟨p, 0, none⟩ = some (.bool m) := cell_of h 0
theorem Gr.c1 (h : Gr p m b r w) : w.cell? ⟨p, 1, none⟩ = some (.string b) := cell_of h 1
theorem Gr.c2 (h : Gr p m b r w) : w.cell? ⟨p, 2, none⟩ = some (.string r) := cell_of h 2
theorem Gr.frozen (h : Gr p m b r w) (j : Nat) : w.frozen? ⟨p, j, none⟩ = false := not_frozen h j
theorem Gr.set0 (h : Gr p m b r w) (x : Bool) : Gr p x b r (w.setCell ⟨p, 0, none⟩ (.bool x)) := set_of h 0 _
theorem Gr.set1 (h : Gr p m b r w) (x : ByteArray) : Gr p m x r (w.setCell ⟨p, 1, none⟩ (.string x)) := set_of h 1 _
theorem Gr.set2 (h : Gr p m b r w) (x : ByteArray) : Gr p m b x (w.setCell ⟨p, 2, none⟩ (.string x)) := set_of h 2 _
theorem Gr.other (h : Gr p m b r w) {q : Nat} (hq : p ≠ q) (j : Nat) (u : Value) : Gr p m b r (w.setCell ⟨q, j, none⟩ u) := (Below.heap_setCell w ⟨q, j, none⟩ u p hq).trans h
theorem Gr.lt (h : Gr p m b r w) : p < w.heap.size := heap_lt h
theorem Gr.stays (h : Gr p m b r w) (q : Q w w') : Gr p m b r w' := (q.block p h.lt).trans h
theorem Gr.drewN (h : Gr p m b r w) (n : Nat) : Gr p m b r (w.drewN n) := h
end

/-- The ends of a text that a group may leave. -/
def ends (any : Bool) : List UInt8 → List (List UInt8)
  | [] => [[]]
  | c :: t => (c :: t) :: (if any || c != 46 then ends any t else [])
theorem ends_iff (any : Bool) (s : List UInt8) : ∀ r, r ∈ ends any s ↔ reach any s r := by
  induction s with
  | nil =>
    intro r
    constructor
    · intro h
      simp [ends] at h
      subst h
      exact reach_refl _ _
    · intro h
      rw [reach_nil h]
      simp [ends]
  | cons c t ih =>
    intro r
    unfold ends
    rw [List.mem_cons]
    constructor
    · rintro (rfl | h)
      · exact reach_refl _ _
      · split at h
        · rename_i hc
          simp at hc
          exact reach_cons ((ih r).1 h) hc
        · cases h
    · intro h
      rcases reach_next h with h | ⟨h, hc⟩
      · exact .inl h
      · refine .inr ?_
        rw [if_pos (by simpa using hc)]
        exact (ih r).2 h
/-- mt, reckoned. -/
def mb : List Part → List UInt8 → Bool
  | [], s => s.isEmpty
  | .one b :: ps, s => match s with
    | [] => false
    | c :: t => c == b && mb ps t
  | .star :: ps, s => (ends false s).any (mb ps)
  | .star2 :: ps, s => (ends true s).any (mb ps)
theorem mb_iff (ps : List Part) : ∀ s, mb ps s = true ↔ mt ps s := by
  induction ps with
  | nil =>
    intro s
    unfold mb
    rw [List.isEmpty_iff]
    exact Iff.rfl
  | cons p ps ih =>
    intro s
    cases p with
    | one b =>
      cases s with
      | nil => exact ⟨fun h => (by cases h), fun h => absurd h (front_one _ _)⟩
      | cons c t =>
        show (c == b && mb ps t) = true ↔ _
        rw [front_one_next, Bool.and_eq_true, ih, beq_iff_eq]
    | star =>
      show (ends false s).any (mb ps) = true ↔ _
      rw [mt_star, List.any_eq_true]
      exact ⟨fun ⟨r, h1, h2⟩ => ⟨r, (ends_iff _ _ _).1 h1, (ih r).1 h2⟩, fun ⟨r, h1, h2⟩ => ⟨r, (ends_iff _ _ _).2 h1, (ih r).2 h2⟩⟩
    | star2 =>
      show (ends true s).any (mb ps) = true ↔ _
      rw [mt_star2, List.any_eq_true]
      exact ⟨fun ⟨r, h1, h2⟩ => ⟨r, (ends_iff _ _ _).1 h1, (ih r).1 h2⟩, fun ⟨r, h1, h2⟩ => ⟨r, (ends_iff _ _ _).2 h1, (ih r).2 h2⟩⟩
/-- hit, reckoned. -/
def hitB (p s : List UInt8) : Bool := chk p == 0 && mb (parts p) s
theorem hitB_iff (p s : List UInt8) : hitB p s = true ↔ hit p s := by
  unfold hitB hit
  rw [Bool.and_eq_true, beq_iff_eq, mb_iff]
theorem drop_at (s : ByteArray) (k : Nat) (h : k < s.size) : s.data.toList.drop k = s[k] :: s.data.toList.drop (k + 1) := by
  rw [List.drop_eq_getElem_cons (show k < s.data.toList.length by simpa using h)]
  rfl
theorem drop_end (s : ByteArray) : s.data.toList.drop s.size = [] := List.drop_eq_nil_of_le (by simp)

/-- Three asterisks side by side. -/
theorem index_ge (sub : List UInt8) : ∀ l, -1 ≤ Lib.index l sub
  | [] => by unfold Lib.index; split <;> decide
  | b :: l => by
    have ih := index_ge sub l
    unfold Lib.index
    split
    · decide
    · split
      · decide
      · rename_i h
        rw [beq_iff_eq] at h
        omega
theorem contains_iff (sub : List UInt8) (hne : sub ≠ []) : ∀ l, Lib.contains l sub = true ↔ ∃ a b, l = a ++ sub ++ b := by
  intro l
  induction l with
  | nil =>
    constructor
    · intro h
      unfold Lib.contains Lib.index at h
      rw [if_neg (by simpa using hne)] at h
      exact absurd h (by decide)
    · rintro ⟨a, b, h⟩
      rw [List.append_assoc] at h
      obtain ⟨_, h2⟩ := List.append_eq_nil_iff.1 h.symm
      exact absurd (List.append_eq_nil_iff.1 h2).1 hne
  | cons c l ih =>
    unfold Lib.contains at ih ⊢
    unfold Lib.index
    rw [decide_eq_true_iff] at ih ⊢
    have hg := index_ge sub l
    split
    · rename_i h
      rw [List.isPrefixOf_iff_prefix] at h
      obtain ⟨b, h⟩ := h
      exact ⟨fun _ => ⟨[], b, h.symm⟩, fun _ => by decide⟩
    · rename_i h
      have hs : (∃ a b, c :: l = a ++ sub ++ b) ↔ ∃ a b, l = a ++ sub ++ b := by
        constructor
        · rintro ⟨a, b, e⟩
          cases a with
          | nil =>
            refine absurd ?_ h
            rw [List.isPrefixOf_iff_prefix]
            exact ⟨b, e.symm⟩
          | cons d a =>
            simp only [List.cons_append, List.cons.injEq] at e
            exact ⟨a, b, e.2⟩
        · rintro ⟨a, b, rfl⟩
          exact ⟨c :: a, b, rfl⟩
      rw [hs, ← ih]
      split
      · rename_i h1
        rw [beq_iff_eq] at h1
        rw [h1]
      · rename_i h1
        rw [beq_iff_eq] at h1
        constructor <;> intro _ <;> omega
/-- The longest group: m, or one of the rest that begins r asterisks earlier. -/
theorem grp_most (l : List UInt8) : ∀ n m r, m ≤ 2 → r ≤ 2 → (2 < (grp n m r l).2 ↔ ∃ a b, List.replicate r 42 ++ l = a ++ [42, 42, 42] ++ b) := by
  induction l with
  | nil =>
    intro n m r hm hr
    constructor
    · intro h
      have h' : 2 < m := h
      omega
    · rintro ⟨a, b, h⟩
      have := congrArg List.length h
      simp at this
      omega
  | cons c l ih =>
    intro n m r hm hr
    unfold grp
    by_cases hc : c = 42
    · subst hc
      rw [if_pos rfl]
      by_cases h2 : r = 2
      · subst h2
        have := (grp_grows l (if (2 : Nat) = 0 then n + 1 else n) (max m (2 + 1)) (2 + 1)).2
        exact ⟨fun _ => ⟨[], l, rfl⟩, fun _ => by omega⟩
      · rw [ih _ _ _ (by omega) (by omega)]
        have e : List.replicate (r + 1) (42 : UInt8) ++ l = List.replicate r 42 ++ 42 :: l := by
          rw [List.replicate_succ']
          simp
        rw [e]
    · rw [if_neg hc, ih n m 0 hm (by omega)]
      rw [List.replicate_zero, List.nil_append]
      constructor
      · rintro ⟨a, b, rfl⟩
        exact ⟨List.replicate r 42 ++ c :: a, b, by simp⟩
      · rintro ⟨a, b, h⟩
        rw [List.append_assoc] at h
        rcases List.append_eq_append_iff.1 h with ⟨x, rfl, hx⟩ | ⟨x, hx, hy⟩
        · cases x with
          | nil =>
            simp at hx
            exact absurd hx.1 hc
          | cons d x =>
            simp only [List.cons_append, List.cons.injEq] at hx
            exact ⟨x, b, by rw [hx.2]; simp⟩
        · have hl := congrArg List.length hx
          simp at hl
          match x, hl, hy with
          | [], _, hy => simp at hy; exact absurd hy.1.symm hc
          | [x0], _, hy => simp at hy; exact absurd hy.2.1.symm hc
          | [x0, x1], _, hy => simp at hy; exact absurd hy.2.2.1.symm hc
          | x0 :: x1 :: x2 :: x, hl, _ => simp at hl; omega
theorem three_iff (l : List UInt8) : Lib.contains l [42, 42, 42] = decide (2 < (grp 0 0 0 l).2) := by
  rw [Bool.eq_iff_iff, decide_eq_true_iff, contains_iff _ (by simp), grp_most l 0 0 0 (by omega) (by omega)]
  rfl

end Go.Proofs.Ythknlllaclgekaa.glo
