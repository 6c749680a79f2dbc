/- An address as an argument that came in. -/
import Derived.Test.YthekabflbpfjoaaGreatDoorAve
import Derived.Deep.SlicePairs
import Derived.Deep.Strs
import Derived.OpenShut
import Derived.ProofKit
namespace Go.Proofs.YthekabflbpfjoaaGreatDoor.adr
open Go.RowKit Go.ChangeShapes Go.WideShapes Go.Deep
open Go.Proofs.YthekabflbpfjoaaGreatDoor

theorem spot_none {w : World} {a : Addr} {v : Value} (h : w.cell? a = some v) : a.spot = none := World.cell?_spot h
theorem block_lt {w : World} {a : Addr} {v : Value} (h : w.cell? a = some v) : a.block < w.heap.size := by
  rcases Nat.lt_or_ge a.block w.heap.size with h' | h'
  · exact h'
  · unfold World.cell? at h
    rw [Array.getElem?_eq_none h'] at h
    cases h
variable {H : Type} {enc : TypeId × Value → H} {W : World} {base fuel : Nat} {sp : Nat → Bool} {held : Bool} {x : DataW H × List MemPlace}
theorem int_fits {t : TypeId} (hu : Tryz.prog.underlying t = some (.int .i64)) {v : Value} (h : DataW.trod enc Tryz.prog W base sp held fuel t [v] = some x) :
    ∃ z, v = .int .i64 z ∧ -9223372036854775808 ≤ z ∧ z ≤ 9223372036854775807 := by
  obtain ⟨z, h1, h2, h3⟩ := DataW.trod_int hu h
  simp only [List.cons.injEq, and_true] at h1
  subst h1
  refine ⟨z, rfl, ?_⟩
  simp [Lit.wf, IntKind.min, IntKind.max, IntKind.signed, IntKind.bits] at h3
  omega
theorem str_fits {v : Value} (h : DataW.trod enc Tryz.prog W base sp held fuel 9 [v] = some x) : ∃ s, v = .string s ∧ s.size ≤ maxLen := by
  obtain ⟨s, hs, _, h2⟩ := DataW.trod_string Tryz.underlying9 h
  simp only [List.cons.injEq, and_true] at hs
  exact ⟨s, hs, h2⟩
theorem bool_fits {v : Value} (h : DataW.trod enc Tryz.prog W base sp held fuel 4 [v] = some x) : ∃ b, v = .bool b := by
  obtain ⟨b, hb, _⟩ := DataW.trod_bool Tryz.underlying4 h
  simp only [List.cons.injEq, and_true] at hb
  exact ⟨b, hb⟩
def kCells (k : K) : List Value := [.int .i64 k.kind, .int .i64 k.num, .string k.str]
def Kf (k : K) : Prop := k.str.size ≤ maxLen ∧ (-9223372036854775808 ≤ k.kind ∧ k.kind ≤ 9223372036854775807) ∧ (-9223372036854775808 ≤ k.num ∧ k.num ≤ 9223372036854775807)
set_option maxRecDepth 100000 in
theorem key_fits {cs : List Value} (h : DataW.trod enc Tryz.prog W base sp held fuel 25 cs = some x) : ∃ k : K, cs = kCells k ∧ Kf k := by
  obtain ⟨y0, y1, y2, n, _, hl, t0, t1, t2⟩ := trod_struct3 Tryz.underlying25 h
  have hC : Tryz.prog.cellsOf 25 = 3 := by kernel_rfl
  rw [hC] at hl
  match cs, hl with
  | [v0, v1, v2], _ =>
    have t0' : DataW.trod enc Tryz.prog W base sp held n 23 [v0] = some y0 := t0
    have t1' : DataW.trod enc Tryz.prog W base sp held n 3 [v1] = some y1 := t1
    have t2' : DataW.trod enc Tryz.prog W base sp held n 9 [v2] = some y2 := t2
    obtain ⟨a, rfl, ha⟩ := int_fits Tryz.underlying23 t0'
    obtain ⟨b, rfl, hb⟩ := int_fits Tryz.underlying3 t1'
    obtain ⟨s, rfl, hs⟩ := str_fits t2'
    exact ⟨⟨a, b, s⟩, rfl, hs, ha, hb⟩
set_option maxRecDepth 100000 in
theorem step_fits {cs : List Value} (h : DataW.trod enc Tryz.prog W base sp held fuel 44 cs = some x) : ∃ s : St, cs = .string s.name :: kCells s.key ∧ s.name.size ≤ maxLen ∧ Kf s.key := by
  obtain ⟨y0, y1, n, _, hl, t0, t1⟩ := trod_struct2 Tryz.underlying44 h
  have hC : Tryz.prog.cellsOf 44 = 4 := by kernel_rfl
  rw [hC] at hl
  have hK : Tryz.prog.cellsOf 25 = 3 := by kernel_rfl
  match cs, hl with
  | [v0, v1, v2, v3], _ =>
    have t0' : DataW.trod enc Tryz.prog W base sp held n 9 [v0] = some y0 := t0
    have t1' : DataW.trod enc Tryz.prog W base sp held n 25 (([v0, v1, v2, v3].drop 1).take (Tryz.prog.cellsOf 25)) = some y1 := t1
    rw [hK] at t1'
    obtain ⟨s, rfl, hs⟩ := str_fits t0'
    obtain ⟨k, hk, hf⟩ := key_fits t1'
    have hk' : [v1, v2, v3] = kCells k := hk
    exact ⟨⟨s, k⟩, by rw [← hk'], hs, hf⟩
theorem steps_fit {v : Value} (h : DataW.trod enc Tryz.prog W 0 (fun _ => true) true fuel 22 [v] = some x) :
    ∃ (A : Option Addr) (n c : Nat) (ms : List St), v = .slice A n c ∧ n = ms.length ∧ In A ms W ∧ n ≤ maxLen ∧ ∀ s ∈ ms, s.name.size ≤ maxLen ∧ Kf s.key := by
  rcases open_slice Tryz.underlying22 h with ⟨hc, hx⟩ | ⟨a, len, cap, m, k, D, Pl, hc, _, hl, hm, hmm, hx, hall⟩
  · simp only [List.cons.injEq, and_true] at hc
    exact ⟨none, 0, 0, [], hc, rfl, In.nil _ _, Nat.zero_le _, fun s hs => by cases hs⟩
  · simp only [List.cons.injEq, and_true] at hc
    subst hc
    simp only [if_true] at hmm
    subst hmm
    have hC : Tryz.prog.cellsOf 44 = 4 := by kernel_rfl
    rw [hC] at hall
    haveI : Inhabited St := ⟨⟨⟨#[]⟩, K.zero⟩⟩
    obtain ⟨f, hf⟩ := choose_lt (α := St) (n := len) (fun i hi => by
      obtain ⟨cs, h1, h2⟩ := hall i (by omega)
      obtain ⟨s, hs, hn, hk⟩ := step_fits h2
      have h3 : W.cells? 0 (a.add (i * 4)) 4 = some (.string s.name :: kCells s.key) ∧ s.name.size ≤ maxLen ∧ Kf s.key := ⟨by rw [h1, hs], hn, hk⟩
      exact ⟨s, h3⟩)
    refine ⟨some a, len, _, (List.range len).map f, rfl, by simp, fun hne => ?_, Nat.le_trans hl hm, fun s hs => ?_⟩
    · have hpos : 0 < len := by
        rcases Nat.eq_zero_or_pos len with h0 | h0
        · subst h0; exact absurd rfl hne
        · exact h0
      obtain ⟨b, o, spot⟩ := a
      have g0 := (World.cells?_some (hf 0 hpos).1).2.2 0 (by omega)
      have hspot : spot = none := by simpa [Addr.add] using spot_none g0
      subst hspot
      refine ⟨b, o, rfl, block_lt g0, fun i hi => ?_⟩
      have hi' : i < len := by simpa using hi
      have e : ((List.range len).map f)[i] = f i := by simp
      rw [e]
      have hg := (World.cells?_some (hf i hi').1).2.2
      have c0 := hg 0 (by omega)
      have c1 := hg 1 (by omega)
      have c2 := hg 2 (by omega)
      have c3 := hg 3 (by omega)
      rw [add_plain, add_plain] at c0 c1 c2 c3
      exact ⟨by simpa using c0, c1, c2, c3⟩
    · obtain ⟨i, hi, rfl⟩ := List.mem_map.1 hs
      exact (hf i (List.mem_range.1 hi)).2
set_option maxRecDepth 100000 in
theorem adr_arg {v : Value} {d : DataW H} {p : List MemPlace} (h : DataW.Trod enc Tryz.prog W 0 (fun _ => true) true 27 v d p) :
    ∃ (A : Option Addr) (n c : Nat) (ms : List St) (r : Rs), v = rv (.slice A n c) r ∧ n = ms.length ∧ In A ms W ∧ Am ms r := by
  obtain ⟨fuel, hd⟩ := h
  obtain ⟨xs, n, _, _, hl, hlen, hf⟩ := DataW.trod_struct Tryz.underlying27 hd
  have hC : Tryz.prog.cellsOf 27 = 7 := by kernel_rfl
  have hK : Tryz.prog.cellsOf 25 = 3 := by kernel_rfl
  rw [hC] at hl
  obtain ⟨cs, hcs⟩ : ∃ cs, v.cells.toList = cs := ⟨_, rfl⟩
  rw [hcs] at hl hf
  match cs, hl, xs, hlen with
  | [v0, v1, v2, v3, v4, v5, v6], _, [y0, y1, y2, y3, y4], _ =>
    have t0 : DataW.trod enc Tryz.prog W 0 (fun _ => true) true n 22 [v0] = some y0 := hf 0 _ rfl
    have t1 : DataW.trod enc Tryz.prog W 0 (fun _ => true) true n 4 [v1] = some y1 := hf 1 _ rfl
    have t2 : DataW.trod enc Tryz.prog W 0 (fun _ => true) true n 9 [v2] = some y2 := hf 2 _ rfl
    have t3 : DataW.trod enc Tryz.prog W 0 (fun _ => true) true n 9 [v3] = some y3 := hf 3 _ rfl
    have t4 : DataW.trod enc Tryz.prog W 0 (fun _ => true) true n 25 (([v0, v1, v2, v3, v4, v5, v6].drop 4).take (Tryz.prog.cellsOf 25)) = some y4 := hf 4 _ rfl
    rw [hK] at t4
    obtain ⟨A, m, c, ms, rfl, h1, h2, h3, h4⟩ := steps_fit t0
    obtain ⟨b, rfl⟩ := bool_fits t1
    obtain ⟨ty, rfl, h5⟩ := str_fits t2
    obtain ⟨nm, rfl, h6⟩ := str_fits t3
    obtain ⟨k, hk, h7⟩ := key_fits t4
    have hk' : [v4, v5, v6] = kCells k := hk
    unfold kCells at hk'
    simp only [List.cons.injEq, and_true] at hk'
    obtain ⟨rfl, rfl, rfl⟩ := hk'
    refine ⟨A, m, c, ms, ⟨b, ty, nm, k⟩, ?_, h1, h2, ⟨by rw [← h1]; exact h3, h5, h6, h7.1, h7.2.1, h7.2.2, fun i hi => ?_⟩⟩
    · have e : ∀ z : Value, z.cells.toList = [.slice A m c, .bool b, .string ty, .string nm, .int .i64 k.kind, .int .i64 k.num, .string k.str] → z = .agg #[.slice A m c, .bool b, .string ty, .string nm, .int .i64 k.kind, .int .i64 k.num, .string k.str] := by
        intro z hz
        have hlen := congrArg List.length hz
        cases z <;> first | (simp [Value.cells] at hlen; done) | skip
        rename_i cs
        have : cs.toList = [.slice A m c, .bool b, .string ty, .string nm, .int .i64 k.kind, .int .i64 k.num, .string k.str] := hz
        exact congrArg Value.agg (Array.toList_inj.1 this)
      exact e v hcs
    · have := h4 _ (List.getElem_mem hi)
      exact ⟨this.1, this.2.1, this.2.2.1, this.2.2.2⟩

end Go.Proofs.YthekabflbpfjoaaGreatDoor.adr
