/- Rows of bytes that a call owns: what append does to them. -/
import Derived.Test.YthekabflbpfjoaaGreatDoorLfx
import Derived.OwnWalk
import Derived.Lib.AppendStr
import Derived.Lib.SmallJoins
import Derived.Laws.IdiomStrings
import Derived.Laws.BytesArg
namespace Go.Proofs.YthekabflbpfjoaaGreatDoor.lit
open Go.RowKit

/-- v is a slice of the bytes l, in memory that was taken from block B on. -/
def Row (B : Nat) (v : Value) (l : List UInt8) (w : World) : Prop := w.ownsRow B 5 1 v l.length (Lib.byteCells l)
theorem Row.nil (B : Nat) (w : World) : Row B (.slice none 0 0) [] w := World.ownsRow_nil _ _ _ _
theorem Row.low {B B' : Nat} {v : Value} {l : List UInt8} {w : World} (h : Row B v l w) (hb : B' ≤ B) : Row B' v l w := Joins.ownsRow_le h hb

theorem info_byte : (Tryz.prog.info? 5).map (fun i => (i.zero, i.size, i.bytes)) = some (some (.int .u8 0), 1, 1) := by kernel_rfl

theorem byteCells_app (l m : List UInt8) : Lib.byteCells (l ++ m) = Lib.byteCells l ++ Lib.byteCells m := by simp [Lib.byteCells]

theorem wpList_row {w : World} {ops : Array Oper} {rest : List Oper} {o : Oper} {a : Act} {Q : Exit → Act → World → Prop} (hgd : o.guard = none) (s x : Operand)
    (ho : o.op = .call { callee := .builtin .append, args := #[s, x], argTypes := #[49, 49] })
    (B : Nat) (v : Value) (l m : List UInt8) (hs : a.eval s = v) (hown : Row B v l w) (ad : Addr) (c : Nat) (hx : a.eval x = .slice (some ad) m.length c)
    (hnews : ∀ j u, (Lib.byteCells m)[j]? = some u → w.cell? (ad.add j) = some u) (hlim : l.length + m.length ≤ 140737488355328) (hbase : B ≤ w.heap.size)
    (h : ∀ v' w', Row B v' (l ++ m) w' → Below B w w' → wpList Tryz.prog ops Q rest (a.put o.dst v') w') : wpList Tryz.prog ops Q (o :: rest) a w := by
  obtain ⟨i0, hi, hz0, hz1, hz2⟩ := info_parts info_byte
  refine wpList_append_own w hgd s x 49 ho B 5 i0 (.int .u8 0) 1 1 Tryz.underlying49 hi hz0 hz1 hz2 rfl (by decide) v l.length (Lib.byteCells l) hs hown ad m.length c (Lib.byteCells m) hx (by rw [Lib.byteCells_length, Nat.mul_one]) hnews ?_ (by unfold maxLen; omega) (by omega) hbase ?_
  · intro u hu
    simp only [Lib.byteCells, List.mem_map] at hu
    obtain ⟨b, _, rfl⟩ := hu
    rfl
  · intro v' w' h1 h2 _
    refine h v' w' ?_ ((Below.refl B w).grown h2 hbase (fun k hk => (hown.lt k hk).1))
    unfold Row
    rw [List.length_append, byteCells_app]
    exact h1
theorem wpList_row_string {w : World} {ops : Array Oper} {rest : List Oper} {o : Oper} {a : Act} {Q : Exit → Act → World → Prop} (hgd : o.guard = none) (s x : Operand)
    (ho : o.op = .call { callee := .builtin .append, args := #[s, x], argTypes := #[49, 9] })
    (B : Nat) (v : Value) (l : List UInt8) (hs : a.eval s = v) (hown : Row B v l w) (m : ByteArray) (hx : a.eval x = .string m)
    (hlim : l.length + m.size ≤ 140737488355328) (hbase : B ≤ w.heap.size)
    (h : ∀ v' w', Row B v' (l ++ m.data.toList) w' → Below B w w' → wpList Tryz.prog ops Q rest (a.put o.dst v') w') : wpList Tryz.prog ops Q (o :: rest) a w := by
  obtain ⟨i0, hi, hz0, hz1, hz2⟩ := info_parts info_byte
  refine Lib.wpList_append_own_string w hgd s x 49 9 ho B 5 i0 Tryz.underlying49 Tryz.underlying9 hi hz0 hz1 hz2 v l.length (Lib.byteCells l) hs hown m hx (by unfold maxLen; omega) (by omega) hbase ?_
  intro v' w' h1 h2 _
  refine h v' w' ?_ ((Below.refl B w).grown h2 hbase (fun k hk => (hown.lt k hk).1))
  unfold Row
  rw [List.length_append, byteCells_app]
  have e : m.data.toList.length = m.size := by simp
  rw [e]
  exact h1

/-- The cells of a block that was just taken. -/
theorem new_cells (w : World) (cs : Array Value) (t : TypeId) (off : Nat) (m : List UInt8) (h : ∀ (j : Nat) (hj : j < m.length), cs[off + j]? = some (.int .u8 (m[j].toNat : Int))) :
    ∀ j u, (Lib.byteCells m)[j]? = some u → (w.alloc (.cells cs t)).cell? ((⟨w.heap.size, off, none⟩ : Addr).add j) = some u := by
  intro j u hj
  simp only [Lib.byteCells, List.getElem?_map] at hj
  have hl : j < m.length := by
    rw [Option.map_eq_some_iff] at hj
    obtain ⟨b, hb, _⟩ := hj
    exact (List.getElem?_eq_some_iff.1 hb).1
  rw [List.getElem?_eq_getElem hl] at hj
  simp only [Option.map_some, Option.some.injEq] at hj
  subst hj
  have e : ((⟨w.heap.size, off, none⟩ : Addr).add j) = ⟨w.heap.size, off + j, none⟩ := by simp [Addr.add]
  rw [e, World.cell?_alloc_new]
  exact h j hl

/-- Its shape. -/
theorem Row.shape {B : Nat} {v : Value} {l : List UInt8} {w : World} (h : Row B v l w) : ∃ a c, v = .slice a l.length c := by
  rcases h.2 with ⟨h1, h2⟩ | ⟨g, cap, cur, hv, _⟩
  · exact ⟨none, 0, by rw [h1, h2]⟩
  · exact ⟨_, cap, hv⟩
/-- As a string. -/
theorem Row.text {B : Nat} {v : Value} {l : List UInt8} {w : World} (h : Row B v l w) : (convert 49 9 v).run Tryz.prog w = .ok (.string ⟨l.toArray⟩) w := by
  rcases h.2 with ⟨h1, h2⟩ | ⟨g, cap, cur, hv, _⟩
  · subst h1
    have : l = [] := List.eq_nil_of_length_eq_zero h2
    subst this
    exact run_convert_bytes_nil w 49 5 Tryz.underlying49 Tryz.underlying5 0 0 9 Tryz.underlying9
  · have hg : v.ownBlock = some g := by rw [hv]; rfl
    have hc := World.ownsRow.cells h hg
    rw [hv]
    refine run_convert_bytes_back w 49 9 5 ⟨g, 0, none⟩ cap l Tryz.underlying49 Tryz.underlying5 Tryz.underlying9 fun j hj => ?_
    refine hc j _ ?_
    simp [Lib.byteCells, List.getElem?_eq_getElem hj]
/-- One that was just laid down. -/
theorem Row.made (w : World) (l : List UInt8) (hl : l.length ≤ 1000000) : Row w.heap.size (.slice (some ⟨w.heap.size, 0, none⟩) l.length l.length) l (w.alloc (.cells (Lib.byteCells l).toArray 5)) := by
  have := World.ownsRow_lit (base := w.heap.size) (e := 5) (size := 1) w (Lib.byteCells l).toArray l.length (Nat.le_refl _) (by unfold maxLen; omega) (by rw [List.size_toArray, Lib.byteCells_length, Nat.mul_one])
  exact this
theorem Row.stays {B : Nat} {v : Value} {l : List UInt8} {w w' : World} (h : Row B v l w) (hq : Q w w') : Row B v l w' := by
  refine ⟨h.1, ?_⟩
  rcases h.2 with h2 | ⟨g, cap, cur, hv, hb, hc, hrest⟩
  · exact .inl h2
  · refine .inr ⟨g, cap, cur, hv, hb, ?_, hrest⟩
    have hlt : g < w.heap.size := by
      rcases Nat.lt_or_ge g w.heap.size with h' | h'
      · exact h'
      · rw [Array.getElem?_eq_none h'] at hc
        cases hc
    rw [hq.block g hlt]
    exact hc

end Go.Proofs.YthekabflbpfjoaaGreatDoor.lit
