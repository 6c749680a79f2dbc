/- What a call leaves of the world; rows of bytes that a call owns; Readers in memory. -/
import Derived.Test.YtnbloidiojedoaaWpl
import Derived.Test.YtnbloidiojedoaaShelf
import Derived.WalkKit
import Derived.WalkSpells
import Derived.WalkLawsBesides
import Derived.Handy
import Derived.Lib.Hide
import Derived.BigQuiet
import Derived.Deep.QuietTactic
import Derived.Deep.RegionHeld3
import Derived.Lib.Strings
import Derived.Laws.BitsAllLaws
import Derived.Laws.ResultCell
import Derived.OwnWalk
import Derived.Lib.AppendStr
import Derived.Lib.SmallJoins
import Derived.Laws.IdiomStrings
import Derived.Laws.BytesArg
namespace Go.Proofs.Ytnbloidiojedoaa.wir
open Go.RowKit

/-- What a call does to the world at most: what was there is as it was. -/
def Q (w w' : World) : Prop := Below w.heap.size w w'
theorem Q.refl (w : World) : Q w w := Below.refl _ _
theorem Q.trans {a b c : World} (h : Q a b) (k : Q b c) : Q a c := Below.trans h (Below.mono k h.size)
theorem Q.drewN (w : World) (n : Nat) : Q w (w.drewN n) := ⟨rfl, rfl, rfl, by simp, fun _ _ => rfl⟩

/-- All blocks but p are as they were. -/
structure M (p : Nat) (w w' : World) : Prop where
  os : w'.os = w.os
  tape : w'.tape = w.tape
  output : w'.output = w.output
  size : w.heap.size ≤ w'.heap.size
  block : ∀ k, k < w.heap.size → k ≠ p → w'.heap[k]? = w.heap[k]?
theorem M.refl (p : Nat) (w : World) : M p w w := ⟨rfl, rfl, rfl, Nat.le_refl _, fun _ _ _ => rfl⟩
theorem M.trans {p : Nat} {a b c : World} (h : M p a b) (k : M p b c) : M p a c :=
  ⟨k.os.trans h.os, k.tape.trans h.tape, k.output.trans h.output, Nat.le_trans h.size k.size, fun i hi hp => (k.block i (Nat.lt_of_lt_of_le hi h.size) hp).trans (h.block i hi hp)⟩
theorem Q.but {w w' : World} (h : Q w w') (p : Nat) : M p w w' := ⟨h.os, h.tape, h.output, h.size, fun k hk _ => h.block k hk⟩
theorem M.setCell (p : Nat) (w : World) (j : Nat) (u : Value) : M p w (w.setCell ⟨p, j, none⟩ u) :=
  ⟨rfl, rfl, rfl, by simp [World.setCell], fun k _ hk => Below.heap_setCell w ⟨p, j, none⟩ u k hk⟩
theorem M.drewN (p : Nat) (w : World) (n : Nat) : M p w (w.drewN n) := (Q.drewN w n).but p
theorem Q.thenM {a b c : World} {p : Nat} (h : Q a b) (k : M p b c) (hp : a.heap.size ≤ p) : Q a c :=
  ⟨k.os.trans h.os, k.tape.trans h.tape, k.output.trans h.output, Nat.le_trans h.size k.size, fun i hi => (k.block i (Nat.lt_of_lt_of_le hi h.size) (by omega)).trans (h.block i hi)⟩

/-- Block p is a Reader: what is left, the error, whether NewReader made it. -/
def Rd (p : Nat) (s : ByteArray) (e : Int) (m : Bool) (w : World) : Prop := w.heap[p]? = some (.cells #[.string s, .int .i64 e, .bool m] 56)
/-- Block p is a Reader of the reference. -/
def Xd (p : Nat) (s : ByteArray) (e : Int) (w : World) : Prop := w.heap[p]? = some (.cells #[.string s, .int .i64 e] 31)
theorem heap_lt {w : World} {p : Nat} {o : Obj} (h : w.heap[p]? = some o) : p < w.heap.size := by
  rcases Nat.lt_or_ge p w.heap.size with h' | h'
  · exact h'
  · rw [Array.getElem?_eq_none h'] at h
    cases h
theorem cell_of {w : World} {g : Nat} {cs : Array Value} {t : TypeId} {fr : Nat × Nat} (h : w.heap[g]? = some (.cells cs t fr)) (j : Nat) : w.cell? ⟨g, j, none⟩ = cs[j]? := by
  unfold World.cell?
  simp only [h]
  rfl
theorem not_frozen {w : World} {g : Nat} {cs : Array Value} {t : TypeId} (h : w.heap[g]? = some (.cells cs t)) (j : Nat) : w.frozen? ⟨g, j, none⟩ = false := by
  unfold World.frozen?
  simp only [h]
  rw [Bool.and_eq_false_iff]
  right
  exact decide_eq_false (by simp)
theorem Rd.new (s : ByteArray) (e : Int) (m : Bool) (w : World) : Rd w.heap.size s e m (w.alloc (.cells #[.string s, .int .i64 e, .bool m] 56)) := heap_alloc_new _ _
theorem Xd.new (s : ByteArray) (e : Int) (w : World) : Xd w.heap.size s e (w.alloc (.cells #[.string s, .int .i64 e] 31)) := heap_alloc_new _ _
theorem set_of {w : World} {g : Nat} {cs : Array Value} {t : TypeId} (h : w.heap[g]? = some (.cells cs t)) (j : Nat) (u : Value) : (w.setCell ⟨g, j, none⟩ u).heap[g]? = some (.cells (cs.setIfInBounds j u) t) := by
  simp only [World.setCell, Array.getElem?_modify, if_pos, h]
  rfl
theorem Rd.c0 {p : Nat} {s : ByteArray} {e : Int} {m : Bool} {w : World} (h : Rd p s e m w) : w.cell? ⟨p, 0, none⟩ = some (.string s) := cell_of h 0
theorem Rd.c1 {p : Nat} {s : ByteArray} {e : Int} {m : Bool} {w : World} (h : Rd p s e m w) : w.cell? ⟨p, 1, none⟩ = some (.int .i64 e) := cell_of h 1
theorem Rd.c2 {p : Nat} {s : ByteArray} {e : Int} {m : Bool} {w : World} (h : Rd p s e m w) : w.cell? ⟨p, 2, none⟩ = some (.bool m) := cell_of h 2
theorem Rd.frozen {p : Nat} {s : ByteArray} {e : Int} {m : Bool} {w : World} (h : Rd p s e m w) (j : Nat) : w.frozen? ⟨p, j, none⟩ = false := not_frozen h j
theorem Rd.set0 {p : Nat} {s : ByteArray} {e : Int} {m : Bool} {w : World} (h : Rd p s e m w) (t : ByteArray) : Rd p t e m (w.setCell ⟨p, 0, none⟩ (.string t)) := set_of h 0 _
theorem Rd.set1 {p : Nat} {s : ByteArray} {e : Int} {m : Bool} {w : World} (h : Rd p s e m w) (f : Int) : Rd p s f m (w.setCell ⟨p, 1, none⟩ (.int .i64 f)) := set_of h 1 _
theorem Rd.lt {p : Nat} {s : ByteArray} {e : Int} {m : Bool} {w : World} (h : Rd p s e m w) : p < w.heap.size := heap_lt h
theorem Rd.stays {p : Nat} {s : ByteArray} {e : Int} {m : Bool} {w w' : World} (h : Rd p s e m w) (q : Q w w') : Rd p s e m w' := (q.block p h.lt).trans h
theorem Rd.drewN {p : Nat} {s : ByteArray} {e : Int} {m : Bool} {w : World} (h : Rd p s e m w) (n : Nat) : Rd p s e m (w.drewN n) := h
theorem Xd.drewN {p : Nat} {s : ByteArray} {e : Int} {w : World} (h : Xd p s e w) (n : Nat) : Xd p s e (w.drewN n) := h
theorem Rd.beside {p r : Nat} {s : ByteArray} {e : Int} {m : Bool} {w w' : World} (h : Rd p s e m w) (q : M r w w') (hr : p ≠ r) : Rd p s e m w' := (q.block p h.lt hr).trans h
theorem Xd.c0 {p : Nat} {s : ByteArray} {e : Int} {w : World} (h : Xd p s e w) : w.cell? ⟨p, 0, none⟩ = some (.string s) := cell_of h 0
theorem Xd.c1 {p : Nat} {s : ByteArray} {e : Int} {w : World} (h : Xd p s e w) : w.cell? ⟨p, 1, none⟩ = some (.int .i64 e) := cell_of h 1
theorem Xd.frozen {p : Nat} {s : ByteArray} {e : Int} {w : World} (h : Xd p s e w) (j : Nat) : w.frozen? ⟨p, j, none⟩ = false := not_frozen h j
theorem Xd.lt {p : Nat} {s : ByteArray} {e : Int} {w : World} (h : Xd p s e w) : p < w.heap.size := heap_lt h
theorem Xd.stays {p : Nat} {s : ByteArray} {e : Int} {w w' : World} (h : Xd p s e w) (q : Q w w') : Xd p s e w' := (q.block p h.lt).trans h
theorem Xd.beside {p r : Nat} {s : ByteArray} {e : Int} {w w' : World} (h : Xd p s e w) (q : M r w w') (hr : p ≠ r) : Xd p s e w' := (q.block p h.lt hr).trans h

/-- v is a slice of the bytes l, in memory that was taken from block B on. -/
def Row (B : Nat) (v : Value) (l : List UInt8) (w : World) : Prop := w.ownsRow B 5 1 v l.length (Lib.byteCells l)
theorem Row.nil (B : Nat) (w : World) : Row B (.slice none 0 0) [] w := World.ownsRow_nil _ _ _ _
theorem Row.low {B B' : Nat} {v : Value} {l : List UInt8} {w : World} (h : Row B v l w) (hb : B' ≤ B) : Row B' v l w := Joins.ownsRow_le h hb

theorem info_byte : (Try.prog.info? 5).map (fun i => (i.zero, i.size, i.bytes)) = some (some (.int .u8 0), 1, 1) := by kernel_rfl

theorem byteCells_app (l m : List UInt8) : Lib.byteCells (l ++ m) = Lib.byteCells l ++ Lib.byteCells m := by simp [Lib.byteCells]

theorem wpList_row {w : World} {ops : Array Oper} {rest : List Oper} {o : Oper} {a : Act} {Q : Exit → Act → World → Prop} (hgd : o.guard = none) (s x : Operand)
    (ho : o.op = .call { callee := .builtin .append, args := #[s, x], argTypes := #[58, 58] })
    (B : Nat) (v : Value) (l m : List UInt8) (hs : a.eval s = v) (hown : Row B v l w) (ad : Addr) (c : Nat) (hx : a.eval x = .slice (some ad) m.length c)
    (hnews : ∀ j u, (Lib.byteCells m)[j]? = some u → w.cell? (ad.add j) = some u) (hlim : l.length + m.length ≤ 140737488355328) (hbase : B ≤ w.heap.size)
    (h : ∀ v' w', Row B v' (l ++ m) w' → Below B w w' → wpList Try.prog ops Q rest (a.put o.dst v') w') : wpList Try.prog ops Q (o :: rest) a w := by
  obtain ⟨i0, hi, hz0, hz1, hz2⟩ := info_parts info_byte
  refine wpList_append_own w hgd s x 58 ho B 5 i0 (.int .u8 0) 1 1 Try.underlying58 hi hz0 hz1 hz2 rfl (by decide) v l.length (Lib.byteCells l) hs hown ad m.length c (Lib.byteCells m) hx (by rw [Lib.byteCells_length, Nat.mul_one]) hnews ?_ (by unfold maxLen; omega) (by omega) hbase ?_
  · intro u hu
    simp only [Lib.byteCells, List.mem_map] at hu
    obtain ⟨b, _, rfl⟩ := hu
    rfl
  · intro v' w' h1 h2 _
    refine h v' w' ?_ ((Below.refl B w).grown h2 hbase (fun k hk => (hown.lt k hk).1))
    unfold Row
    rw [List.length_append, byteCells_app]
    exact h1
theorem wpList_row_string {w : World} {ops : Array Oper} {rest : List Oper} {o : Oper} {a : Act} {Q : Exit → Act → World → Prop} (hgd : o.guard = none) (s x : Operand)
    (ho : o.op = .call { callee := .builtin .append, args := #[s, x], argTypes := #[58, 9] })
    (B : Nat) (v : Value) (l : List UInt8) (hs : a.eval s = v) (hown : Row B v l w) (m : ByteArray) (hx : a.eval x = .string m)
    (hlim : l.length + m.size ≤ 140737488355328) (hbase : B ≤ w.heap.size)
    (h : ∀ v' w', Row B v' (l ++ m.data.toList) w' → Below B w w' → wpList Try.prog ops Q rest (a.put o.dst v') w') : wpList Try.prog ops Q (o :: rest) a w := by
  obtain ⟨i0, hi, hz0, hz1, hz2⟩ := info_parts info_byte
  refine Lib.wpList_append_own_string w hgd s x 58 9 ho B 5 i0 Try.underlying58 Try.underlying9 hi hz0 hz1 hz2 v l.length (Lib.byteCells l) hs hown m hx (by unfold maxLen; omega) (by omega) hbase ?_
  intro v' w' h1 h2 _
  refine h v' w' ?_ ((Below.refl B w).grown h2 hbase (fun k hk => (hown.lt k hk).1))
  unfold Row
  rw [List.length_append, byteCells_app]
  have e : m.data.toList.length = m.size := by simp
  rw [e]
  exact h1

/-- The cells of a block that was just taken. -/
theorem new_cells (w : World) (cs : Array Value) (t : TypeId) (off : Nat) (m : List UInt8) (h : ∀ (j : Nat) (hj : j < m.length), cs[off + j]? = some (.int .u8 (m[j].toNat : Int))) :
    ∀ j u, (Lib.byteCells m)[j]? = some u → (w.alloc (.cells cs t)).cell? ((⟨w.heap.size, off, none⟩ : Addr).add j) = some u := by
  intro j u hj
  simp only [Lib.byteCells, List.getElem?_map] at hj
  have hl : j < m.length := by
    rw [Option.map_eq_some_iff] at hj
    obtain ⟨b, hb, _⟩ := hj
    exact (List.getElem?_eq_some_iff.1 hb).1
  rw [List.getElem?_eq_getElem hl] at hj
  simp only [Option.map_some, Option.some.injEq] at hj
  subst hj
  have e : ((⟨w.heap.size, off, none⟩ : Addr).add j) = ⟨w.heap.size, off + j, none⟩ := by simp [Addr.add]
  rw [e, World.cell?_alloc_new]
  exact h j hl

/-- Its shape. -/
theorem Row.shape {B : Nat} {v : Value} {l : List UInt8} {w : World} (h : Row B v l w) : ∃ a c, v = .slice a l.length c := by
  rcases h.2 with ⟨h1, h2⟩ | ⟨g, cap, cur, hv, _⟩
  · exact ⟨none, 0, by rw [h1, h2]⟩
  · exact ⟨_, cap, hv⟩
/-- As a string. -/
theorem Row.text {B : Nat} {v : Value} {l : List UInt8} {w : World} (h : Row B v l w) : (convert 58 9 v).run Try.prog w = .ok (.string ⟨l.toArray⟩) w := by
  rcases h.2 with ⟨h1, h2⟩ | ⟨g, cap, cur, hv, _⟩
  · subst h1
    have : l = [] := List.eq_nil_of_length_eq_zero h2
    subst this
    exact run_convert_bytes_nil w 58 5 Try.underlying58 Try.underlying5 0 0 9 Try.underlying9
  · have hg : v.ownBlock = some g := by rw [hv]; rfl
    have hc := World.ownsRow.cells h hg
    rw [hv]
    refine run_convert_bytes_back w 58 9 5 ⟨g, 0, none⟩ cap l Try.underlying58 Try.underlying5 Try.underlying9 fun j hj => ?_
    refine hc j _ ?_
    simp [Lib.byteCells, List.getElem?_eq_getElem hj]
/-- One that was just laid down. -/
theorem Row.made (w : World) (l : List UInt8) (hl : l.length ≤ 1000000) : Row w.heap.size (.slice (some ⟨w.heap.size, 0, none⟩) l.length l.length) l (w.alloc (.cells (Lib.byteCells l).toArray 5)) := by
  have := World.ownsRow_lit (base := w.heap.size) (e := 5) (size := 1) w (Lib.byteCells l).toArray l.length (Nat.le_refl _) (by unfold maxLen; omega) (by rw [List.size_toArray, Lib.byteCells_length, Nat.mul_one])
  exact this
theorem Row.stays {B : Nat} {v : Value} {l : List UInt8} {w w' : World} (h : Row B v l w) (hq : Q w w') : Row B v l w' := by
  refine ⟨h.1, ?_⟩
  rcases h.2 with h2 | ⟨g, cap, cur, hv, hb, hc, hrest⟩
  · exact .inl h2
  · refine .inr ⟨g, cap, cur, hv, hb, ?_, hrest⟩
    have hlt : g < w.heap.size := by
      rcases Nat.lt_or_ge g w.heap.size with h' | h'
      · exact h'
      · rw [Array.getElem?_eq_none h'] at hc
        cases hc
    rw [hq.block g hlt]
    exact hc

end Go.Proofs.Ytnbloidiojedoaa.wir
