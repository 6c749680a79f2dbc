/- A slice of calls, and of items, as an argument that came in. -/
import Derived.Test.YtnbloidiojedoaaLq
import Derived.Deep.SlicePairs
import Derived.OpenShut
import Derived.ProofKit
namespace Go.Proofs.Ytnbloidiojedoaa.wir
open Go.RowKit Go.ChangeShapes Go.WideShapes Go.Deep

theorem spot_none {w : World} {a : Addr} {v : Value} (h : w.cell? a = some v) : a.spot = none := World.cell?_spot h
theorem block_lt {w : World} {a : Addr} {v : Value} (h : w.cell? a = some v) : a.block < w.heap.size := by
  rcases Nat.lt_or_ge a.block w.heap.size with h' | h'
  · exact h'
  · unfold World.cell? at h
    rw [Array.getElem?_eq_none h'] at h
    cases h
theorem int_of {H : Type} {enc : TypeId × Value → H} {W : World} {base fuel : Nat} {sp : Nat → Bool} {held : Bool} {v : Value} {x : DataW H × List MemPlace}
    (h : DataW.trod enc Try.prog W base sp held fuel 3 [v] = some x) : v = .int .i64 (intOf v) ∧ intOf v ≤ 9223372036854775807 := by
  obtain ⟨z, h1, h2, h3⟩ := DataW.trod_int Try.underlying3 h
  simp only [List.cons.injEq, and_true] at h1
  subst h1
  refine ⟨rfl, ?_⟩
  simp [Lit.wf, IntKind.min, IntKind.max, IntKind.signed, IntKind.bits] at h3
  show z ≤ _
  omega

theorem act_arg {H : Type} {enc : TypeId × Value → H} {W : World} {A : Option Addr} {n c : Nat} {d : DataW H} {p : List MemPlace}
    (h : DataW.Trod enc Try.prog W 0 (fun _ => true) true 26 (.slice A n c) d p) : n ≤ maxLen ∧ ActArg A n W := by
  obtain ⟨fuel, hd⟩ := h
  rcases open_slice_pairs Try.underlying26 Try.underlying34 (by kernel_rfl) rfl rfl (by kernel_rfl) (by kernel_rfl) hd with ⟨hc, hx⟩ | ⟨a, len, cap, m, k, V0, V1, D0, D1, P0, P1, hc, _, hl, hm, hmm, hx, hall⟩
  · simp [Value.cells] at hc
    obtain ⟨rfl, rfl, rfl⟩ := hc
    exact ⟨Nat.zero_le _, fun h => absurd h (by decide)⟩
  · simp [Value.cells] at hc
    obtain ⟨rfl, rfl, rfl⟩ := hc
    simp only [if_true] at hmm
    subst hmm
    refine ⟨Nat.le_trans hl hm, fun hn => ?_⟩
    obtain ⟨b, o, spot⟩ := a
    have h0 := (hall 0 (by omega)).1
    have hspot : spot = none := by simpa [Addr.add] using spot_none h0
    subst hspot
    refine ⟨b, o, fun i => intOf (V0 i), fun i => intOf (V1 i), rfl, by simpa [Addr.add] using block_lt h0, fun i hi => ?_⟩
    obtain ⟨g1, g2, g3, g4⟩ := hall i (by omega)
    obtain ⟨e1, _⟩ := int_of g3
    obtain ⟨e2, e3⟩ := int_of g4
    rw [add_plain] at g1 g2
    exact ⟨by rw [g1, ← e1], by rw [Nat.add_assoc, g2, ← e2], e3⟩

end Go.Proofs.Ytnbloidiojedoaa.wir
