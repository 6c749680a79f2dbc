/- A slice of strings as an argument that came in. -/
import Derived.Test.YthknlllaclgekaaGh
import Derived.Deep.Strs
import Derived.OpenShut
import Derived.ProofKit
namespace Go.Proofs.Ythknlllaclgekaa.glo
open Go.RowKit Go.ChangeShapes Go.WideShapes Go.Deep

theorem spot_none {w : World} {a : Addr} {v : Value} (h : w.cell? a = some v) : a.spot = none := World.cell?_spot h
theorem block_lt {w : World} {a : Addr} {v : Value} (h : w.cell? a = some v) : a.block < w.heap.size := by
  rcases Nat.lt_or_ge a.block w.heap.size with h' | h'
  · exact h'
  · unfold World.cell? at h
    rw [Array.getElem?_eq_none h'] at h
    cases h
theorem str_arg {H : Type} {enc : TypeId × Value → H} {W : World} {A : Option Addr} {n c : Nat} {d : DataW H} {p : List MemPlace}
    (h : DataW.Trod enc Try.prog W 0 (fun _ => true) true 26 (.slice A n c) d p) : n ≤ maxLen ∧ ∃ S, StrArg A n S W := by
  obtain ⟨fuel, hd⟩ := h
  rcases open_strs Try.underlying26 Try.underlying9 (by kernel_rfl) hd with ⟨hc, hx⟩ | ⟨a, len, cap, m, Sx, hc, _, hl, hm, hmm, hx, hall⟩
  · simp [Value.cells] at hc
    obtain ⟨rfl, rfl, rfl⟩ := hc
    exact ⟨Nat.zero_le _, fun _ => ⟨#[]⟩, fun h => absurd h (by decide)⟩
  · simp [Value.cells] at hc
    obtain ⟨rfl, rfl, rfl⟩ := hc
    simp only [if_true] at hmm
    subst hmm
    refine ⟨Nat.le_trans hl hm, Sx, fun hn => ?_⟩
    obtain ⟨b, o, spot⟩ := a
    have h0 := (hall 0 (by omega)).1
    have hspot : spot = none := by simpa [Addr.add] using spot_none h0
    subst hspot
    refine ⟨b, o, rfl, by simpa [Addr.add] using block_lt h0, fun i hi => ?_⟩
    have g := (hall i (by omega)).1
    rw [add_plain] at g
    exact g

end Go.Proofs.Ythknlllaclgekaa.glo
