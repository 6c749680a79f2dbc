/- A value, a row of values, a row of keys and an entry as arguments that came in. -/
import Derived.Test.YtjmchjphdfbhiaaGreatDoorVst
import Derived.Test.YtjmchjphdfbhiaaGreatDoorChecked
import Derived.Deep.SlicePairs
import Derived.Deep.Strs
import Derived.OpenShut
import Derived.ProofKit
namespace Go.Proofs.YtjmchjphdfbhiaaGreatDoor.val
open Go.RowKit Go.ChangeShapes Go.WideShapes Go.Deep
open Go.Proofs.YtjmchjphdfbhiaaGreatDoor
theorem spot_none {w : World} {a : Addr} {v : Value} (h : w.cell? a = some v) : a.spot = none := World.cell?_spot h
instance : Inhabited V := ⟨⟨0, 0, ⟨#[]⟩, [], []⟩⟩
variable {H : Type} {enc : TypeId × Value → H} {W : World} {base fuel : Nat} {sp : Nat → Bool} {held : Bool} {x : DataW H × List MemPlace}
theorem int_fits {t : TypeId} (hu : Tryz.prog.underlying t = some (.int .i64)) {v : Value} (h : DataW.trod enc Tryz.prog W base sp held fuel t [v] = some x) :
    ∃ z, v = .int .i64 z ∧ -9223372036854775808 ≤ z ∧ z ≤ 9223372036854775807 := by
  obtain ⟨z, h1, h2, h3⟩ := DataW.trod_int hu h
  simp only [List.cons.injEq, and_true] at h1
  subst h1
  refine ⟨z, rfl, ?_⟩
  simp [Lit.wf, IntKind.min, IntKind.max, IntKind.signed, IntKind.bits] at h3
  omega
theorem str_fits {v : Value} (h : DataW.trod enc Tryz.prog W base sp held fuel 9 [v] = some x) : ∃ s, v = .string s ∧ s.size ≤ maxLen := by
  obtain ⟨s, hs, _, h2⟩ := DataW.trod_string Tryz.underlying9 h
  simp only [List.cons.injEq, and_true] at hs
  exact ⟨s, hs, h2⟩
/-- A row of keys. -/
theorem keys_fit {v : Value} (h : DataW.trod enc Tryz.prog W 0 (fun _ => true) true fuel 24 [v] = some x) :
    ∃ ks : List ByteArray, Ks v ks W ∧ ks.length ≤ maxLen ∧ ∀ k ∈ ks, k.size ≤ maxLen := by
  rcases DataW.trod_slice Tryz.underlying24 h with ⟨hc, _⟩ | ⟨a, len, cap, elems, rest, n, _, hc, _, _, hl, hm, _, hel, _, _⟩
  · simp only [List.cons.injEq, and_true] at hc
    subst hc
    exact ⟨[], Ks.nil _ _ _, Nat.zero_le _, fun k hk => by cases hk⟩
  · simp only [List.cons.injEq, and_true] at hc
    subst hc
    have hC : Tryz.prog.cellsOf 9 = 1 := by kernel_rfl
    rw [hC] at hel
    haveI : Inhabited ByteArray := ⟨⟨#[]⟩⟩
    obtain ⟨f, hf⟩ := choose_lt (α := ByteArray) (n := len) (p := fun i k => W.cells? 0 (a.add (i * 1)) 1 = some [.string k] ∧ k.size ≤ maxLen) (fun i hi => by
      obtain ⟨e, he⟩ : ∃ e, elems[i]? = some e := ⟨_, List.getElem?_eq_getElem (by omega)⟩
      have hq := hel i hi
      rw [he, Option.bind_eq_some_iff] at hq
      obtain ⟨cs, h1, h2⟩ := hq
      have hl := (World.cells?_some h1).2.1
      match cs, hl with
      | [c], _ =>
        obtain ⟨s, rfl, hs⟩ := str_fits h2
        exact ⟨s, h1, hs⟩)
    refine ⟨(List.range len).map f, ⟨some a, cap, by simp, by simpa using hl, fun hne => ?_⟩, by simp; omega, fun k hk => ?_⟩
    · have hpos : 0 < len := by
        rcases Nat.eq_zero_or_pos len with h0 | h0
        · subst h0; exact absurd rfl hne
        · exact h0
      obtain ⟨b, o, spot⟩ := a
      have g0 := (World.cells?_some (hf 0 hpos).1).2.2 0 (by omega)
      have hspot : spot = none := by simpa [Addr.add] using spot_none g0
      subst hspot
      refine ⟨b, o, rfl, KL.of_at _ _ _ _ (fun i hi => ?_)⟩
      have hi' : i < len := by simpa using hi
      have e : ((List.range len).map f)[i] = f i := by simp
      rw [e]
      have c0 := (World.cells?_some (hf i hi').1).2.2 0 (by omega)
      rw [add_plain, add_plain, Nat.mul_one] at c0
      simpa using c0
    · obtain ⟨i, hi, rfl⟩ := List.mem_map.1 hk
      exact (hf i (List.mem_range.1 hi)).2
/-- A row of values, where each value reads. -/
theorem vals_fit {n : Nat} (ih : ∀ (cs : List Value) (x : DataW H × List MemPlace), DataW.trod enc Tryz.prog W 0 (fun _ => true) true n 26 cs = some x → ∃ v c3 c4, cs = [.int .i64 v.kind, .int .i64 v.num, .string v.str, c3, c4] ∧ Is c3 v.items W ∧ Ks c4 v.keys W ∧ Wf v)
    {v : Value} (h : DataW.trod enc Tryz.prog W 0 (fun _ => true) true (n + 1) 23 [v] = some x) :
    ∃ l : List V, Is v l W ∧ l.length ≤ maxLen ∧ WfL l := by
  rcases DataW.trod_slice Tryz.underlying23 h with ⟨hc, _⟩ | ⟨a, len, cap, elems, rest, m, hm1, hc, _, _, hl, hm, _, hel, _, _⟩
  · simp only [List.cons.injEq, and_true] at hc
    subst hc
    exact ⟨[], Is.nil _ _ _, Nat.zero_le _, WfL_nil⟩
  · obtain rfl : n = m := by omega
    simp only [List.cons.injEq, and_true] at hc
    subst hc
    have hC : Tryz.prog.cellsOf 26 = 5 := by kernel_rfl
    rw [hC] at hel
    obtain ⟨f, hf⟩ := choose_lt (α := V) (n := len) (p := fun i v => ∃ c3 c4, W.cells? 0 (a.add (i * 5)) 5 = some [.int .i64 v.kind, .int .i64 v.num, .string v.str, c3, c4] ∧ Is c3 v.items W ∧ Ks c4 v.keys W ∧ Wf v) (fun i hi => by
      obtain ⟨e, he⟩ : ∃ e, elems[i]? = some e := ⟨_, List.getElem?_eq_getElem (by omega)⟩
      have hq := hel i hi
      rw [he, Option.bind_eq_some_iff] at hq
      obtain ⟨cs, h1, h2⟩ := hq
      obtain ⟨v, c3, c4, rfl, g⟩ := ih _ _ h2
      exact ⟨v, c3, c4, h1, g⟩)
    refine ⟨(List.range len).map f, ⟨some a, cap, by simp, by simpa using hl, fun hne => ?_⟩, by simp; omega, (WfL_mem _).2 fun k hk => ?_⟩
    · have hpos : 0 < len := by
        rcases Nat.eq_zero_or_pos len with h0 | h0
        · subst h0; exact absurd rfl hne
        · exact h0
      obtain ⟨b, o, spot⟩ := a
      obtain ⟨_, _, z0, _⟩ := hf 0 hpos
      have g0 := (World.cells?_some z0).2.2 0 (by omega)
      have hspot : spot = none := by simpa [Addr.add] using spot_none g0
      subst hspot
      refine ⟨b, o, rfl, VL.of_at _ _ _ _ (fun i hi => ?_)⟩
      have hi' : i < len := by simpa using hi
      have e : ((List.range len).map f)[i] = f i := by simp
      rw [e]
      obtain ⟨c3, c4, z, zi, zk, _⟩ := hf i hi'
      have hg := (World.cells?_some z).2.2
      have c0 := hg 0 (by omega)
      have c1 := hg 1 (by omega)
      have c2 := hg 2 (by omega)
      have c3' := hg 3 (by omega)
      have c4' := hg 4 (by omega)
      rw [add_plain, add_plain] at c0 c1 c2 c3' c4'
      exact ⟨c3, c4, ⟨by simpa using c0, c1, c2, c3', c4', zi, zk⟩⟩
    · obtain ⟨i, hi, rfl⟩ := List.mem_map.1 hk
      obtain ⟨_, _, _, _, _, g⟩ := hf i (List.mem_range.1 hi)
      exact g
set_option maxRecDepth 100000 in
/-- A value. -/
theorem val_fits : ∀ (fuel : Nat) (cs : List Value) (x : DataW H × List MemPlace), DataW.trod enc Tryz.prog W 0 (fun _ => true) true fuel 26 cs = some x →
    ∃ v c3 c4, cs = [.int .i64 v.kind, .int .i64 v.num, .string v.str, c3, c4] ∧ Is c3 v.items W ∧ Ks c4 v.keys W ∧ Wf v := by
  intro fuel
  induction fuel using Nat.strongRecOn with
  | _ fuel ih =>
    intro cs x h
    obtain ⟨xs, n, hfu, _, hl, hlen, hf⟩ := DataW.trod_struct Tryz.underlying26 h
    have hC : Tryz.prog.cellsOf 26 = 5 := by kernel_rfl
    rw [hC] at hl
    match cs, hl, xs, hlen with
    | [v0, v1, v2, v3, v4], _, [y0, y1, y2, y3, y4], _ =>
      have t0 : DataW.trod enc Tryz.prog W 0 (fun _ => true) true n 22 [v0] = some y0 := hf 0 _ rfl
      have t1 : DataW.trod enc Tryz.prog W 0 (fun _ => true) true n 3 [v1] = some y1 := hf 1 _ rfl
      have t2 : DataW.trod enc Tryz.prog W 0 (fun _ => true) true n 9 [v2] = some y2 := hf 2 _ rfl
      have t3 : DataW.trod enc Tryz.prog W 0 (fun _ => true) true n 23 [v3] = some y3 := hf 3 _ rfl
      have t4 : DataW.trod enc Tryz.prog W 0 (fun _ => true) true n 24 [v4] = some y4 := hf 4 _ rfl
      obtain ⟨a, rfl, ha⟩ := int_fits Tryz.underlying22 t0
      obtain ⟨b, rfl, hb⟩ := int_fits Tryz.underlying3 t1
      obtain ⟨s, rfl, hs⟩ := str_fits t2
      obtain ⟨ks, hk, hk1, hk2⟩ := keys_fit t4
      obtain ⟨l, hi, hi1, hi2⟩ : ∃ l : List V, Is v3 l W ∧ l.length ≤ maxLen ∧ WfL l := by
        cases n with
        | zero => exact absurd t3 (by simp [DataW.trod])
        | succ m => exact vals_fit (fun cs x h => ih m (by omega) cs x h) t3
      exact ⟨⟨a, b, s, l, ks⟩, v3, v4, rfl, hi, hk, (Wf_iff _).2 ⟨ha, hb, hs, hi1, hk1, hk2, hi2⟩⟩
theorem agg5 {z a b c d e : Value} (hz : z.cells.toList = [a, b, c, d, e]) : z = .agg #[a, b, c, d, e] := by
  have hlen := congrArg List.length hz
  cases z <;> first | (simp [Value.cells] at hlen; done) | skip
  rename_i cs
  have : cs.toList = [a, b, c, d, e] := hz
  exact congrArg Value.agg (Array.toList_inj.1 this)
theorem agg6 {z a b c d e f : Value} (hz : z.cells.toList = [a, b, c, d, e, f]) : z = .agg #[a, b, c, d, e, f] := by
  have hlen := congrArg List.length hz
  cases z <;> first | (simp [Value.cells] at hlen; done) | skip
  rename_i cs
  have : cs.toList = [a, b, c, d, e, f] := hz
  exact congrArg Value.agg (Array.toList_inj.1 this)
/-- A value, as a call has it. -/
def Va (v : V) (A3 : Option Addr) (k3 : Nat) (A4 : Option Addr) (k4 : Nat) (w : World) : Prop := Is (.slice A3 v.items.length k3) v.items w ∧ Ks (.slice A4 v.keys.length k4) v.keys w ∧ Wf v
def vv (v : V) (A3 : Option Addr) (k3 : Nat) (A4 : Option Addr) (k4 : Nat) : Value := .agg #[.int .i64 v.kind, .int .i64 v.num, .string v.str, .slice A3 v.items.length k3, .slice A4 v.keys.length k4]
theorem val_arg {v : Value} {d : DataW H} {p : List MemPlace} (h : DataW.Trod enc Tryz.prog W 0 (fun _ => true) true 26 v d p) :
    ∃ (u : V) (A3 : Option Addr) (k3 : Nat) (A4 : Option Addr) (k4 : Nat), v = vv u A3 k3 A4 k4 ∧ Va u A3 k3 A4 k4 W := by
  obtain ⟨fuel, hd⟩ := h
  obtain ⟨u, c3, c4, hc, hi, hk, hw⟩ := val_fits _ _ _ hd
  obtain ⟨A3, k3, rfl, -⟩ := hi.shape
  obtain ⟨A4, k4, rfl, -⟩ := hk.shape
  exact ⟨u, A3, k3, A4, k4, agg5 hc, hi, hk, hw⟩
theorem vals_arg {A : Option Addr} {n c : Nat} {d : DataW H} {p : List MemPlace} (h : DataW.Trod enc Tryz.prog W 0 (fun _ => true) true 23 (.slice A n c) d p) :
    n ≤ maxLen ∧ ∃ l : List V, l.length = n ∧ Is (.slice A n c) l W ∧ WfL l := by
  obtain ⟨fuel, hd⟩ := h
  have hd : DataW.trod enc Tryz.prog W 0 (fun _ => true) true fuel 23 [.slice A n c] = some (d, p) := hd
  cases fuel with
  | zero => exact absurd hd (by simp [DataW.trod])
  | succ m =>
    obtain ⟨l, h1, h2, h3⟩ := vals_fit (val_fits m) hd
    obtain ⟨A', c', e, -⟩ := h1.shape
    simp only [Value.slice.injEq] at e
    obtain ⟨-, rfl, -⟩ := e
    exact ⟨h2, l, rfl, h1, h3⟩
theorem keys_arg {A : Option Addr} {n c : Nat} {d : DataW H} {p : List MemPlace} (h : DataW.Trod enc Tryz.prog W 0 (fun _ => true) true 24 (.slice A n c) d p) :
    n ≤ maxLen ∧ ∃ ks : List ByteArray, ks.length = n ∧ Ks (.slice A n c) ks W ∧ ∀ k ∈ ks, k.size ≤ maxLen := by
  obtain ⟨fuel, hd⟩ := h
  have hd : DataW.trod enc Tryz.prog W 0 (fun _ => true) true fuel 24 [.slice A n c] = some (d, p) := hd
  obtain ⟨l, h1, h2, h3⟩ := keys_fit hd
  obtain ⟨A', c', e, -⟩ := h1.shape
  simp only [Value.slice.injEq] at e
  obtain ⟨-, rfl, -⟩ := e
  exact ⟨h2, l, rfl, h1, h3⟩
set_option maxRecDepth 100000 in
theorem entry_arg {v : Value} {d : DataW H} {p : List MemPlace} (h : DataW.Trod enc Tryz.prog W 0 (fun _ => true) true 41 v d p) :
    ∃ (k : ByteArray) (u : V) (A3 : Option Addr) (k3 : Nat) (A4 : Option Addr) (k4 : Nat), v = .agg #[.string k, .int .i64 u.kind, .int .i64 u.num, .string u.str, .slice A3 u.items.length k3, .slice A4 u.keys.length k4] ∧ k.size ≤ maxLen ∧ Va u A3 k3 A4 k4 W := by
  obtain ⟨fuel, hd⟩ := h
  obtain ⟨xs, n, hfu, _, hl, hlen, hf⟩ := DataW.trod_struct Tryz.underlying41 hd
  have hC : Tryz.prog.cellsOf 41 = 6 := by kernel_rfl
  have hV : Tryz.prog.cellsOf 26 = 5 := by kernel_rfl
  rw [hC] at hl
  obtain ⟨cs, hcs⟩ : ∃ cs, v.cells.toList = cs := ⟨_, rfl⟩
  rw [hcs] at hl hf
  match cs, hl, xs, hlen with
  | [v0, v1, v2, v3, v4, v5], _, [y0, y1], _ =>
    have t0 : DataW.trod enc Tryz.prog W 0 (fun _ => true) true n 9 [v0] = some y0 := hf 0 _ rfl
    have t1 : DataW.trod enc Tryz.prog W 0 (fun _ => true) true n 26 (([v0, v1, v2, v3, v4, v5].drop 1).take (Tryz.prog.cellsOf 26)) = some y1 := hf 1 _ rfl
    rw [hV] at t1
    obtain ⟨k, rfl, hk⟩ := str_fits t0
    obtain ⟨u, c3, c4, hc, hi, hk', hw⟩ := val_fits _ _ _ t1
    have hc' : [v1, v2, v3, v4, v5] = [.int .i64 u.kind, .int .i64 u.num, .string u.str, c3, c4] := hc
    simp only [List.cons.injEq, and_true] at hc'
    obtain ⟨rfl, rfl, rfl, rfl, rfl⟩ := hc'
    obtain ⟨A3, k3, rfl, -⟩ := hi.shape
    obtain ⟨A4, k4, rfl, -⟩ := hk'.shape
    exact ⟨k, u, A3, k3, A4, k4, agg6 hcs, hk, hi, hk', hw⟩

end Go.Proofs.YtjmchjphdfbhiaaGreatDoor.val
