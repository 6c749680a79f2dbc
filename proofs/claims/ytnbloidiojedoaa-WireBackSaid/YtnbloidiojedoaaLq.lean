/- A slice of calls as a law reads it. -/
import Derived.Test.YtnbloidiojedoaaLp
namespace Go.Proofs.Ytnbloidiojedoaa.wir
open Go.RowKit

theorem beq_no {a b : Int} (h : a ≠ b) : (a == b) = false := by rw [beq_eq_false_iff_ne]; exact h
theorem beq_yes {a b : Int} (h : a = b) : (a == b) = true := by rw [h]; exact beq_self_eq_true b

/-- The calls of a slice: its block, where it begins there, and what the cells hold. -/
def Acts (b o n : Nat) (K N : Nat → Int) (w : World) : Prop :=
  b < w.heap.size ∧ ∀ i, i < n → w.cell? ⟨b, o + i * 2, none⟩ = some (.int .i64 (K i)) ∧ w.cell? ⟨b, o + i * 2 + 1, none⟩ = some (.int .i64 (N i)) ∧ N i ≤ 9223372036854775807
theorem Acts.later {b o n : Nat} {K N : Nat → Int} {w w' : World} (h : Acts b o n K N w) (q : Q w w') : Acts b o n K N w' :=
  ⟨Nat.lt_of_lt_of_le h.1 q.size, fun i hi => by
    rw [Below.cell q (p := ⟨b, o + i * 2, none⟩) h.1, Below.cell q (p := ⟨b, o + i * 2 + 1, none⟩) h.1]
    exact h.2 i hi⟩

/-- An argument of calls: nothing is read of an empty one. -/
def ActArg (A : Option Addr) (n : Nat) (w : World) : Prop := 0 < n → ∃ b o K N, A = some ⟨b, o, none⟩ ∧ Acts b o n K N w

theorem nxN_size (s : ByteArray) (e : Int) : (nxN s e).2.1.size ≤ s.size := by
  unfold nxN
  split
  · show (gotS s _).size ≤ _
    unfold gotS
    split
    · rw [ByteArray.size_extract]; omega
    · exact Nat.le_refl _
  · exact Nat.le_refl _
theorem nxS_size (s : ByteArray) (e : Int) : (nxS s e).2.1.size ≤ s.size := by
  have := nxC_size s e 1
  unfold nxS
  split
  · rw [ByteArray.size_extract]; omega
  · exact this

end Go.Proofs.Ytnbloidiojedoaa.wir
