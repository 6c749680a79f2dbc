/- A slice of items as an argument that came in. -/
import Derived.Test.YtnbloidiojedoaaLb
import Derived.Test.YtnbloidiojedoaaLf
import Derived.Deep.Strs
namespace Go.Proofs.Ytnbloidiojedoaa.wir
open Go.RowKit Go.ChangeShapes Go.WideShapes Go.Deep

theorem int_fits {H : Type} {enc : TypeId × Value → H} {W : World} {base fuel : Nat} {sp : Nat → Bool} {held : Bool} {v : Value} {x : DataW H × List MemPlace}
    (h : DataW.trod enc Try.prog W base sp held fuel 3 [v] = some x) : v = .int .i64 (intOf v) ∧ -9223372036854775808 ≤ intOf v ∧ intOf v ≤ 9223372036854775807 := by
  obtain ⟨z, h1, h2, h3⟩ := DataW.trod_int Try.underlying3 h
  simp only [List.cons.injEq, and_true] at h1
  subst h1
  refine ⟨rfl, ?_⟩
  simp [Lit.wf, IntKind.min, IntKind.max, IntKind.signed, IntKind.bits] at h3
  show -9223372036854775808 ≤ z ∧ z ≤ _
  omega

/-- What one item's cells hold. -/
theorem item_cells {H : Type} {enc : TypeId × Value → H} {W : World} {fuel : Nat} {sp : Nat → Bool} {b o i : Nat} {cs : List Value} {x : DataW H × List MemPlace}
    (h1 : W.cells? 0 ((⟨b, o, none⟩ : Addr).add (i * 3)) 3 = some cs) (h2 : DataW.trod enc Try.prog W 0 sp true fuel 50 cs = some x) :
    ∃ q : Bool × Int × ByteArray, W.cell? ⟨b, o + i * 3, none⟩ = some (.bool q.1) ∧ W.cell? ⟨b, o + i * 3 + 1, none⟩ = some (.int .i64 q.2.1) ∧ W.cell? ⟨b, o + i * 3 + 2, none⟩ = some (.string q.2.2) ∧
      (-9223372036854775808 ≤ q.2.1 ∧ q.2.1 ≤ 9223372036854775807) := by
  obtain ⟨_, hlen, hcell⟩ := World.cells?_some h1
  obtain ⟨y0, y1, y2, n, _, _, t0, t1, t2⟩ := trod_struct3 Try.underlying50 h2
  match cs, hlen with
  | [v0, v1, v2], _ =>
    have t0' : DataW.trod enc Try.prog W 0 sp true n 4 [v0] = some y0 := t0
    have t1' : DataW.trod enc Try.prog W 0 sp true n 3 [v1] = some y1 := t1
    have t2' : DataW.trod enc Try.prog W 0 sp true n 9 [v2] = some y2 := t2
    obtain ⟨B, hB, _⟩ := DataW.trod_bool Try.underlying4 t0'
    obtain ⟨e1, e2⟩ := int_fits t1'
    obtain ⟨s, hs, _⟩ := DataW.trod_string Try.underlying9 t2'
    simp only [List.cons.injEq, and_true] at hB hs
    subst hB hs
    have c0 := hcell 0 (by omega)
    have c1 := hcell 1 (by omega)
    have c2 := hcell 2 (by omega)
    rw [add_plain, add_plain] at c0 c1 c2
    exact ⟨(B, intOf v1, s), by simpa using c0, by rw [← e1]; simpa using c1, by simpa using c2, e2⟩

theorem item_arg {H : Type} {enc : TypeId × Value → H} {W : World} {A : Option Addr} {n c : Nat} {d : DataW H} {p : List MemPlace}
    (h : DataW.Trod enc Try.prog W 0 (fun _ => true) true 47 (.slice A n c) d p) : n ≤ maxLen ∧ ItemsIn A n W := by
  obtain ⟨fuel, hd⟩ := h
  rcases open_slice Try.underlying47 hd with ⟨hc, hx⟩ | ⟨a, len, cap, m, k, D, Pl, hc, _, hl, hm, hmm, hx, hall⟩
  · simp [Value.cells] at hc
    obtain ⟨rfl, rfl, rfl⟩ := hc
    exact ⟨Nat.zero_le _, fun _ => false, fun _ => 0, fun _ => ⟨#[]⟩, fun h => absurd h (by decide)⟩
  · simp [Value.cells] at hc
    obtain ⟨rfl, rfl, rfl⟩ := hc
    simp only [if_true] at hmm
    subst hmm
    refine ⟨Nat.le_trans hl hm, ?_⟩
    by_cases hn : 0 < n
    · obtain ⟨b, o, spot⟩ := a
      have hC : Try.prog.cellsOf 50 = 3 := by kernel_rfl
      rw [hC] at hall
      obtain ⟨cs0, g0, _⟩ := hall 0 (by omega)
      obtain ⟨_, _, hcell⟩ := World.cells?_some g0
      have hlen : 0 < cs0.length := by have := (World.cells?_some g0).2.1; omega
      have h0 := hcell 0 (by omega)
      rw [List.getElem?_eq_getElem hlen] at h0
      have hspot : spot = none := by simpa [Addr.add] using spot_none h0
      subst hspot
      obtain ⟨f, hf⟩ := choose_lt (α := Bool × Int × ByteArray) (n := n) (fun i hi => by
        obtain ⟨cs, h1, h2⟩ := hall i (by omega)
        exact item_cells h1 h2)
      refine ⟨fun i => (f i).1, fun i => (f i).2.1, fun i => (f i).2.2, fun _ => ⟨b, o, rfl, ?_, hf⟩⟩
      have := block_lt (hf 0 hn).1
      exact this
    · exact ⟨fun _ => false, fun _ => 0, fun _ => ⟨#[]⟩, fun h => absurd h hn⟩

end Go.Proofs.Ytnbloidiojedoaa.wir
