/- Arguments within the form's reach: their strings and rows are of sizes that the machine has. -/
import Derived.Test.YtjmchjphdfbhiaaGreatDoorWag
import Derived.Test.YtjmchjphdfbhiaaGreatDoorWrk
import Derived.Test.YtjmchjphdfbhiaaGreatDoorWfi
import Derived.SizedLaws
namespace Go.Proofs.YtjmchjphdfbhiaaGreatDoor.val
open Go.RowKit Go.ChangeShapes Go.WideShapes Go.Deep
open Go.Proofs.YtjmchjphdfbhiaaGreatDoor
open Go.Proofs.YtjmchjphdfbhiaaGreatDoor.val.cp (Fit FitL Fit_iff FitL_cons FitL_nil)
mutual
def Sz : V → Prop
  | ⟨_, _, s, l, ks⟩ => s.size ≤ 281474976710656 ∧ ks.length ≤ 17592186044416 ∧ (∀ k ∈ ks, k.size ≤ 281474976710656) ∧ SzL l
def SzL : List V → Prop
  | [] => True
  | v :: t => Sz v ∧ SzL t
end
theorem Sz_iff (k n : Int) (s : ByteArray) (l : List V) (ks : List ByteArray) : Sz ⟨k, n, s, l, ks⟩ ↔ s.size ≤ 281474976710656 ∧ ks.length ≤ 17592186044416 ∧ (∀ k ∈ ks, k.size ≤ 281474976710656) ∧ SzL l := by rw [Sz]
theorem SzL_cons (v : V) (t : List V) : SzL (v :: t) ↔ Sz v ∧ SzL t := by rw [SzL]
theorem SzL_nil : SzL [] := by rw [SzL]; trivial
theorem SzL_mem : ∀ (l : List V), SzL l ↔ ∀ v ∈ l, Sz v
  | [] => ⟨fun _ _ h => (List.not_mem_nil h).elim, fun _ => SzL_nil⟩
  | v :: t => by
    rw [SzL_cons, SzL_mem t]
    simp
/-- Few nodes: the keys are few enough to be added up. -/
theorem key_bound : (∀ v : V, Sz v → keyN v ≤ nodes v * 17592186044416) ∧ (∀ l : List V, SzL l → keyNL l ≤ nodesL l * 17592186044416) := by
  refine V.both (P := fun v => Sz v → keyN v ≤ nodes v * 17592186044416) (Q := fun l => SzL l → keyNL l ≤ nodesL l * 17592186044416) ?_ ?_ ?_
  · intro k n s l ks ih h
    obtain ⟨_, h2, _, h4⟩ := (Sz_iff ..).1 h
    have := ih h4
    rw [keyN, nodes]
    omega
  · intro _
    rw [keyNL]
    exact Nat.zero_le _
  · intro v t h1 h2 h
    obtain ⟨g1, g2⟩ := (SzL_cons _ _).1 h
    have := h1 g1
    have := h2 g2
    rw [keyNL, nodesL]
    omega
theorem keyW_small : (∀ v : V, Sz v → nodes v ≤ 227373 → keyW v = (keyN v : Nat)) ∧ (∀ l : List V, SzL l → ∀ n : Nat, n + nodesL l * 17592186044416 ≤ 4000000000000000000 → keyWL l n = ((n + keyNL l : Nat) : Int)) := by
  refine V.both (P := fun v => Sz v → nodes v ≤ 227373 → keyW v = (keyN v : Nat)) (Q := fun l => SzL l → ∀ n : Nat, n + nodesL l * 17592186044416 ≤ 4000000000000000000 → keyWL l n = ((n + keyNL l : Nat) : Int)) ?_ ?_ ?_
  · intro k n s l ks ih h hn
    obtain ⟨_, h2, _, h4⟩ := (Sz_iff ..).1 h
    rw [nodes] at hn
    rw [keyW_eq, keyN]
    exact ih h4 ks.length (by omega)
  · intro _ n _
    rw [keyWL_nil, keyNL]
    omega
  · intro v t h1 h2 h n hn
    obtain ⟨g1, g2⟩ := (SzL_cons _ _).1 h
    rw [nodesL] at hn
    have hv := h1 g1 (by omega)
    have hb := key_bound.1 v g1
    rw [keyWL_cons, hv, show (n : Int) + ((keyN v : Nat) : Int) = ((n + keyN v : Nat) : Int) by omega, IntKind.wrap_i64, show (((n + keyN v : Nat) : Int) + 9223372036854775808) % 18446744073709551616 - 9223372036854775808 = ((n + keyN v : Nat) : Int) by omega, h2 g2 (n + keyN v) (by omega), keyNL]
    omega
theorem fit_small : (∀ v : V, Sz v → nodes v ≤ 100000 → keyN v ≤ 100000 → Fit v) ∧ (∀ l : List V, SzL l → nodesL l ≤ 100000 → keyNL l ≤ 100000 → FitL l) := by
  refine V.both (P := fun v => Sz v → nodes v ≤ 100000 → keyN v ≤ 100000 → Fit v) (Q := fun l => SzL l → nodesL l ≤ 100000 → keyNL l ≤ 100000 → FitL l) ?_ ?_ ?_
  · intro k n s l ks ih h hn hk
    obtain ⟨h1, h2, h3, h4⟩ := (Sz_iff ..).1 h
    rw [nodes] at hn
    rw [keyN] at hk
    have hl := len_nodes l
    exact (Fit_iff _).2 ⟨h1, h3, by show l.length ≤ _; omega, by show ks.length ≤ _; omega, ih h4 (by omega) (by omega)⟩
  · intro _ _ _
    exact FitL_nil
  · intro v t h1 h2 h hn hk
    obtain ⟨g1, g2⟩ := (SzL_cons _ _).1 h
    rw [nodesL] at hn
    rw [keyNL] at hk
    exact (FitL_cons _ _).2 ⟨h1 g1 (by omega) (by omega), h2 g2 (by omega) (by omega)⟩
/-- What Small says of a value within reach. -/
theorem small_fit {v : V} (h : smallB v 400 = true) (hz : Sz v) : Fit v ∧ nodes v ≤ 400 := by
  have hn := smallB_nodes h
  have hn' : nodes v ≤ 400 := by omega
  unfold smallB at h
  rw [Bool.and_eq_true] at h
  have hk := of_decide_eq_true h.2
  rw [keyW_small.1 v hz (by omega)] at hk
  exact ⟨fit_small.1 v hz (by omega) (by omega), hn'⟩
/-! ### arguments -/
variable {H : Type} {enc : TypeId × Value → H} {W : World} {base fuel : Nat} {sp : Nat → Bool} {held : Bool} {x : DataW H × List MemPlace}
theorem reach_le : reachBytes ≤ 281474976710656 := by decide
theorem weights_all {P : Program} {e : TypeId} {n : Nat} {d : DataW H} : ∀ {l : List (DataW H)}, d ∈ l → n ∈ d.weights P e → n ∈ DataW.weightsAll P e l
  | [], h, _ => absurd h (List.not_mem_nil)
  | d0 :: r, h, hn => by
    rw [DataW.weightsAll, List.mem_append]
    rcases List.mem_cons.1 h with rfl | h
    · exact .inl hn
    · exact .inr (weights_all h hn)
/-- A row of keys. -/
theorem keys_fit_z {v : Value} (h : DataW.trod enc Tryz.prog W 0 (fun _ => true) true fuel 24 [v] = some x) (hz : ∀ n ∈ x.1.weights Tryz.prog 24, n ≤ reachBytes) :
    ∃ ks : List ByteArray, Ks v ks W ∧ ks.length ≤ maxLen ∧ (∀ k ∈ ks, k.size ≤ maxLen) ∧ ks.length ≤ 17592186044416 ∧ ∀ k ∈ ks, k.size ≤ 281474976710656 := by
  rcases DataW.trod_slice Tryz.underlying24 h with ⟨hc, _⟩ | ⟨a, len, cap, elems, rest, n, _, hc, hx, _, hl, hm, hlen, hel, _, _⟩
  · simp only [List.cons.injEq, and_true] at hc
    subst hc
    exact ⟨[], Ks.nil _ _ _, Nat.zero_le _, (fun k hk => by cases hk), Nat.zero_le _, (fun k hk => by cases hk)⟩
  · simp only [List.cons.injEq, and_true] at hc
    subst hc
    subst hx
    have hC : Tryz.prog.cellsOf 9 = 1 := by kernel_rfl
    have hB : Tryz.prog.bytesOf 9 = 16 := by kernel_rfl
    rw [hC] at hel
    have hw : ∀ n ∈ (DataW.slice (elems.map (·.1)) (rest.map (·.1)) : DataW H).weights Tryz.prog 24, n ≤ reachBytes := hz
    have hlz : len ≤ 17592186044416 := by
      have := hw (((elems.map (·.1)).length + (rest.map (·.1)).length) * Tryz.prog.bytesOf 9) (by simp [DataW.weights, Tryz.underlying24])
      rw [hB, List.length_map, hlen] at this
      have := reach_le
      omega
    haveI : Inhabited ByteArray := ⟨⟨#[]⟩⟩
    obtain ⟨f, hf⟩ := choose_lt (α := ByteArray) (n := len) (p := fun i k => W.cells? 0 (a.add (i * 1)) 1 = some [.string k] ∧ k.size ≤ maxLen ∧ k.size ≤ 281474976710656) (fun i hi => by
      obtain ⟨e, he⟩ : ∃ e, elems[i]? = some e := ⟨_, List.getElem?_eq_getElem (by omega)⟩
      have hq := hel i hi
      rw [he, Option.bind_eq_some_iff] at hq
      obtain ⟨cs, h1, h2⟩ := hq
      have hl := (World.cells?_some h1).2.1
      match cs, hl with
      | [c], _ =>
        obtain ⟨s, hs, hx, hs2⟩ := DataW.trod_string Tryz.underlying9 h2
        simp only [List.cons.injEq, and_true] at hs
        subst hs
        have hmem : s.size ∈ (DataW.slice (elems.map (·.1)) (rest.map (·.1)) : DataW H).weights Tryz.prog 24 := by
          simp only [DataW.weights, Tryz.underlying24, List.mem_cons, List.mem_append]
          refine .inr (.inl (weights_all (List.mem_of_getElem? (l := elems.map (·.1)) (i := i) (a := e.1) (by rw [List.getElem?_map, he]; rfl)) ?_))
          rw [hx]
          simp [DataW.weights]
        have := hw _ hmem
        have := reach_le
        exact ⟨s, h1, hs2, by omega⟩)
    refine ⟨(List.range len).map f, ⟨some a, cap, by simp, by simpa using hl, fun hne => ?_⟩, by simp; omega, fun k hk => ?_, by simpa using hlz, fun k hk => ?_⟩
    · have hpos : 0 < len := by
        rcases Nat.eq_zero_or_pos len with h0 | h0
        · subst h0; exact absurd rfl hne
        · exact h0
      obtain ⟨b, o, spot⟩ := a
      have g0 := (World.cells?_some (hf 0 hpos).1).2.2 0 (by omega)
      have hspot : spot = none := by simpa [Addr.add] using spot_none g0
      subst hspot
      refine ⟨b, o, rfl, KL.of_at _ _ _ _ (fun i hi => ?_)⟩
      have hi' : i < len := by simpa using hi
      have e : ((List.range len).map f)[i] = f i := by simp
      rw [e]
      have c0 := (World.cells?_some (hf i hi').1).2.2 0 (by omega)
      rw [add_plain, add_plain, Nat.mul_one] at c0
      simpa using c0
    · obtain ⟨i, hi, rfl⟩ := List.mem_map.1 hk
      exact (hf i (List.mem_range.1 hi)).2.1
    · obtain ⟨i, hi, rfl⟩ := List.mem_map.1 hk
      exact (hf i (List.mem_range.1 hi)).2.2
/-- A row of values, where each value reads. -/
theorem vals_fit_z {n : Nat} (ih : ∀ (cs : List Value) (x : DataW H × List MemPlace), DataW.trod enc Tryz.prog W 0 (fun _ => true) true n 26 cs = some x → (∀ n ∈ x.1.weights Tryz.prog 26, n ≤ reachBytes) → ∃ v c3 c4, cs = [.int .i64 v.kind, .int .i64 v.num, .string v.str, c3, c4] ∧ Is c3 v.items W ∧ Ks c4 v.keys W ∧ Wf v ∧ Sz v)
    {v : Value} (h : DataW.trod enc Tryz.prog W 0 (fun _ => true) true (n + 1) 23 [v] = some x) (hz : ∀ n ∈ x.1.weights Tryz.prog 23, n ≤ reachBytes) :
    ∃ l : List V, Is v l W ∧ l.length ≤ maxLen ∧ WfL l ∧ SzL l := by
  rcases DataW.trod_slice Tryz.underlying23 h with ⟨hc, _⟩ | ⟨a, len, cap, elems, rest, m, hm1, hc, hx, _, hl, hm, hlen, hel, _, _⟩
  · simp only [List.cons.injEq, and_true] at hc
    subst hc
    exact ⟨[], Is.nil _ _ _, Nat.zero_le _, WfL_nil, SzL_nil⟩
  · obtain rfl : n = m := by omega
    simp only [List.cons.injEq, and_true] at hc
    subst hc
    subst hx
    have hC : Tryz.prog.cellsOf 26 = 5 := by kernel_rfl
    rw [hC] at hel
    have hw : ∀ n ∈ (DataW.slice (elems.map (·.1)) (rest.map (·.1)) : DataW H).weights Tryz.prog 23, n ≤ reachBytes := hz
    obtain ⟨f, hf⟩ := choose_lt (α := V) (n := len) (p := fun i v => ∃ c3 c4, W.cells? 0 (a.add (i * 5)) 5 = some [.int .i64 v.kind, .int .i64 v.num, .string v.str, c3, c4] ∧ Is c3 v.items W ∧ Ks c4 v.keys W ∧ Wf v ∧ Sz v) (fun i hi => by
      obtain ⟨e, he⟩ : ∃ e, elems[i]? = some e := ⟨_, List.getElem?_eq_getElem (by omega)⟩
      have hq := hel i hi
      rw [he, Option.bind_eq_some_iff] at hq
      obtain ⟨cs, h1, h2⟩ := hq
      obtain ⟨v, c3, c4, rfl, g⟩ := ih _ _ h2 (fun k hk => hw k (by
        simp only [DataW.weights, Tryz.underlying23, List.mem_cons, List.mem_append]
        exact .inr (.inl (weights_all (List.mem_of_getElem? (l := elems.map (·.1)) (i := i) (a := e.1) (by rw [List.getElem?_map, he]; rfl)) hk))))
      exact ⟨v, c3, c4, h1, g⟩)
    refine ⟨(List.range len).map f, ⟨some a, cap, by simp, by simpa using hl, fun hne => ?_⟩, by simp; omega, (WfL_mem _).2 fun k hk => ?_, (SzL_mem _).2 fun k hk => ?_⟩
    · have hpos : 0 < len := by
        rcases Nat.eq_zero_or_pos len with h0 | h0
        · subst h0; exact absurd rfl hne
        · exact h0
      obtain ⟨b, o, spot⟩ := a
      obtain ⟨_, _, z0, _⟩ := hf 0 hpos
      have g0 := (World.cells?_some z0).2.2 0 (by omega)
      have hspot : spot = none := by simpa [Addr.add] using spot_none g0
      subst hspot
      refine ⟨b, o, rfl, VL.of_at _ _ _ _ (fun i hi => ?_)⟩
      have hi' : i < len := by simpa using hi
      have e : ((List.range len).map f)[i] = f i := by simp
      rw [e]
      obtain ⟨c3, c4, z, zi, zk, _⟩ := hf i hi'
      have hg := (World.cells?_some z).2.2
      have c0 := hg 0 (by omega)
      have c1 := hg 1 (by omega)
      have c2 := hg 2 (by omega)
      have c3' := hg 3 (by omega)
      have c4' := hg 4 (by omega)
      rw [add_plain, add_plain] at c0 c1 c2 c3' c4'
      exact ⟨c3, c4, ⟨by simpa using c0, c1, c2, c3', c4', zi, zk⟩⟩
    · obtain ⟨i, hi, rfl⟩ := List.mem_map.1 hk
      obtain ⟨_, _, _, _, _, g⟩ := hf i (List.mem_range.1 hi)
      exact g.1
    · obtain ⟨i, hi, rfl⟩ := List.mem_map.1 hk
      obtain ⟨_, _, _, _, _, g⟩ := hf i (List.mem_range.1 hi)
      exact g.2
set_option maxRecDepth 100000 in
/-- A value. -/
theorem val_fits_z : ∀ (fuel : Nat) (cs : List Value) (x : DataW H × List MemPlace), DataW.trod enc Tryz.prog W 0 (fun _ => true) true fuel 26 cs = some x → (∀ n ∈ x.1.weights Tryz.prog 26, n ≤ reachBytes) →
    ∃ v c3 c4, cs = [.int .i64 v.kind, .int .i64 v.num, .string v.str, c3, c4] ∧ Is c3 v.items W ∧ Ks c4 v.keys W ∧ Wf v ∧ Sz v := by
  intro fuel
  induction fuel using Nat.strongRecOn with
  | _ fuel ih =>
    intro cs x h hz
    obtain ⟨xs, n, hfu, hx, hl, hlen, hf⟩ := DataW.trod_struct Tryz.underlying26 h
    have hC : Tryz.prog.cellsOf 26 = 5 := by kernel_rfl
    rw [hC] at hl
    match cs, hl, xs, hlen with
    | [v0, v1, v2, v3, v4], _, [y0, y1, y2, y3, y4], _ =>
      have t0 : DataW.trod enc Tryz.prog W 0 (fun _ => true) true n 22 [v0] = some y0 := hf 0 _ rfl
      have t1 : DataW.trod enc Tryz.prog W 0 (fun _ => true) true n 3 [v1] = some y1 := hf 1 _ rfl
      have t2 : DataW.trod enc Tryz.prog W 0 (fun _ => true) true n 9 [v2] = some y2 := hf 2 _ rfl
      have t3 : DataW.trod enc Tryz.prog W 0 (fun _ => true) true n 23 [v3] = some y3 := hf 3 _ rfl
      have t4 : DataW.trod enc Tryz.prog W 0 (fun _ => true) true n 24 [v4] = some y4 := hf 4 _ rfl
      have hw : ∀ n ∈ DataW.weightsEach Tryz.prog [22, 3, 9, 23, 24] [y0.1, y1.1, y2.1, y3.1, y4.1], n ≤ reachBytes := by
        intro k hk
        refine hz k ?_
        rw [hx]
        have e : (DataW.agg [y0.1, y1.1, y2.1, y3.1, y4.1] : DataW H).weights Tryz.prog 26 = DataW.weightsEach Tryz.prog [22, 3, 9, 23, 24] [y0.1, y1.1, y2.1, y3.1, y4.1] := by
          rw [DataW.weights, Tryz.underlying26]
          rfl
        show k ∈ (DataW.agg [y0.1, y1.1, y2.1, y3.1, y4.1] : DataW H).weights Tryz.prog 26
        rw [e]
        exact hk
      obtain ⟨a, rfl, ha⟩ := int_fits Tryz.underlying22 t0
      obtain ⟨b, rfl, hb⟩ := int_fits Tryz.underlying3 t1
      obtain ⟨s, hs0, hs1, hs⟩ := DataW.trod_string Tryz.underlying9 t2
      simp only [List.cons.injEq, and_true] at hs0
      subst hs0
      have hsz : s.size ≤ 281474976710656 := by
        have := hw s.data.toList.length (DataW.weights_mem_each (j := 2) rfl rfl _ (by rw [hs1]; simp [DataW.weights]))
        have := reach_le
        simp at *
        omega
      obtain ⟨ks, hk, hk1, hk2, hk3, hk4⟩ := keys_fit_z t4 (fun k hk => hw k (DataW.weights_mem_each (j := 4) rfl rfl _ hk))
      obtain ⟨l, hi, hi1, hi2, hi3⟩ : ∃ l : List V, Is v3 l W ∧ l.length ≤ maxLen ∧ WfL l ∧ SzL l := by
        cases n with
        | zero => exact absurd t3 (by simp [DataW.trod])
        | succ m => exact vals_fit_z (fun cs x h => ih m (by omega) cs x h) t3 (fun k hk => hw k (DataW.weights_mem_each (j := 3) rfl rfl _ hk))
      exact ⟨⟨a, b, s, l, ks⟩, v3, v4, rfl, hi, hk, (Wf_iff _).2 ⟨ha, hb, hs, hi1, hk1, hk2, hi2⟩, (Sz_iff ..).2 ⟨hsz, hk3, hk4, hi3⟩⟩
theorem vals_arg_z {A : Option Addr} {n c : Nat} {d : DataW H} {p : List MemPlace} (h : DataW.Trod enc Tryz.prog W 0 (fun _ => true) true 23 (.slice A n c) d p) (hz : ∀ n ∈ d.weights Tryz.prog 23, n ≤ reachBytes) :
    n ≤ maxLen ∧ ∃ l : List V, l.length = n ∧ Is (.slice A n c) l W ∧ WfL l ∧ SzL l := by
  obtain ⟨fuel, hd⟩ := h
  have hd : DataW.trod enc Tryz.prog W 0 (fun _ => true) true fuel 23 [.slice A n c] = some (d, p) := hd
  cases fuel with
  | zero => exact absurd hd (by simp [DataW.trod])
  | succ m =>
    obtain ⟨l, h1, h2, h3, h4⟩ := vals_fit_z (val_fits_z m) hd hz
    obtain ⟨A', c', e, -⟩ := h1.shape
    simp only [Value.slice.injEq] at e
    obtain ⟨-, rfl, -⟩ := e
    exact ⟨h2, l, rfl, h1, h3, h4⟩
theorem keys_arg_z {A : Option Addr} {n c : Nat} {d : DataW H} {p : List MemPlace} (h : DataW.Trod enc Tryz.prog W 0 (fun _ => true) true 24 (.slice A n c) d p) (hz : ∀ n ∈ d.weights Tryz.prog 24, n ≤ reachBytes) :
    n ≤ maxLen ∧ ∃ ks : List ByteArray, ks.length = n ∧ Ks (.slice A n c) ks W ∧ ∀ k ∈ ks, k.size ≤ 281474976710656 := by
  obtain ⟨fuel, hd⟩ := h
  have hd : DataW.trod enc Tryz.prog W 0 (fun _ => true) true fuel 24 [.slice A n c] = some (d, p) := hd
  obtain ⟨l, h1, h2, h3, h4, h5⟩ := keys_fit_z hd hz
  obtain ⟨A', c', e, -⟩ := h1.shape
  simp only [Value.slice.injEq] at e
  obtain ⟨-, rfl, -⟩ := e
  exact ⟨h2, l, rfl, h1, h5⟩
set_option maxRecDepth 100000 in
theorem entry_arg_z {v : Value} {d : DataW H} {p : List MemPlace} (h : DataW.Trod enc Tryz.prog W 0 (fun _ => true) true 41 v d p) (hz : ∀ n ∈ d.weights Tryz.prog 41, n ≤ reachBytes) :
    ∃ (k : ByteArray) (u : V) (A3 : Option Addr) (k3 : Nat) (A4 : Option Addr) (k4 : Nat), v = .agg #[.string k, .int .i64 u.kind, .int .i64 u.num, .string u.str, .slice A3 u.items.length k3, .slice A4 u.keys.length k4] ∧ (k.size ≤ maxLen ∧ k.size ≤ 281474976710656) ∧ Va u A3 k3 A4 k4 W ∧ Sz u := by
  obtain ⟨fuel, hd⟩ := h
  obtain ⟨xs, n, hfu, hx, hl, hlen, hf⟩ := DataW.trod_struct Tryz.underlying41 hd
  have hC : Tryz.prog.cellsOf 41 = 6 := by kernel_rfl
  have hV : Tryz.prog.cellsOf 26 = 5 := by kernel_rfl
  rw [hC] at hl
  obtain ⟨cs, hcs⟩ : ∃ cs, v.cells.toList = cs := ⟨_, rfl⟩
  rw [hcs] at hl hf
  match cs, hl, xs, hlen with
  | [v0, v1, v2, v3, v4, v5], _, [y0, y1], _ =>
    have t0 : DataW.trod enc Tryz.prog W 0 (fun _ => true) true n 9 [v0] = some y0 := hf 0 _ rfl
    have t1 : DataW.trod enc Tryz.prog W 0 (fun _ => true) true n 26 (([v0, v1, v2, v3, v4, v5].drop 1).take (Tryz.prog.cellsOf 26)) = some y1 := hf 1 _ rfl
    rw [hV] at t1
    have hw : ∀ n ∈ DataW.weightsEach Tryz.prog [9, 26] [y0.1, y1.1], n ≤ reachBytes := by
      intro k hk
      refine hz k ?_
      have hd2 : d = DataW.agg [y0.1, y1.1] := congrArg Prod.fst hx
      have e : (DataW.agg [y0.1, y1.1] : DataW H).weights Tryz.prog 41 = DataW.weightsEach Tryz.prog [9, 26] [y0.1, y1.1] := by
        rw [DataW.weights, Tryz.underlying41]
        rfl
      rw [hd2, e]
      exact hk
    obtain ⟨k, hs0, hs1, hk⟩ := DataW.trod_string Tryz.underlying9 t0
    simp only [List.cons.injEq, and_true] at hs0
    subst hs0
    have hsz : k.size ≤ 281474976710656 := by
      have := hw k.data.toList.length (DataW.weights_mem_each (j := 0) rfl rfl _ (by rw [hs1]; simp [DataW.weights]))
      have := reach_le
      simp at *
      omega
    obtain ⟨u, c3, c4, hc, hi, hk', hw', hz'⟩ := val_fits_z _ _ _ t1 (fun k hk => hw k (DataW.weights_mem_each (j := 1) rfl rfl _ hk))
    have hc' : [v1, v2, v3, v4, v5] = [.int .i64 u.kind, .int .i64 u.num, .string u.str, c3, c4] := hc
    simp only [List.cons.injEq, and_true] at hc'
    obtain ⟨rfl, rfl, rfl, rfl, rfl⟩ := hc'
    obtain ⟨A3, k3, rfl, -⟩ := hi.shape
    obtain ⟨A4, k4, rfl, -⟩ := hk'.shape
    exact ⟨k, u, A3, k3, A4, k4, agg6 hcs, ⟨hk, hsz⟩, ⟨hi, hk', hw'⟩, hz'⟩

end Go.Proofs.YtjmchjphdfbhiaaGreatDoor.val
