/- Within: whether an address belongs to what has a text. -/
import Derived.Test.YthekabflbpfjoaaGreatDoorAvfm
namespace Go.Proofs.YthekabflbpfjoaaGreatDoor.adr
open Go.RowKit
open Go.Proofs.YthekabflbpfjoaaGreatDoor

/-- The address with the text l is within the place with the text p. -/
def Wi (l p : List UInt8) : Prop := pErr l = 0 ∧ ∃ ps x, full p = some (ps, x) ∧ ps.length ≤ 16 ∧ Bl (pMods l) (pRes l) ps (x.getD Rs.zero)
def WiEnds (l p : List UInt8) (w : World) (e : Ending) (w' : World) : Prop := ∃ B, e = .returned (.bool B) ∧ Hid (B = true ↔ Wi l p) ∧ Q w w'
theorem WiEnds.no {l p : List UInt8} {w w' : World} (h : Hid (¬ Wi l p)) (k : Q w w') : WiEnds l p w (.returned (.bool false)) w' := ⟨false, rfl, Lib.hid ⟨(fun h => by cases h), fun y => absurd y h.out⟩, k⟩
theorem WiEnds.of {l p : List UInt8} {w w' : World} {B : Bool} (h : Hid (B = true ↔ Wi l p)) (k : Q w w') : WiEnds l p w (.returned (.bool B)) w' := ⟨B, rfl, h, k⟩
theorem Sr.addr {B : Nat} {A : Option Addr} {n c : Nat} {ms : List St} {w : World} (h : Sr B (.slice A n c) ms w) : (A = none ∧ n = 0 ∧ c = 0) ∨ ((∃ b o, A = some ⟨b, o, none⟩) ∧ n ≤ c) := by
  have hl := h.len
  rcases h.2 with ⟨hv, _⟩ | ⟨g, cap, cur, hv, _, _, hnc, _⟩
  · simp only [Value.slice.injEq] at hv
    exact .inl hv
  · simp only [Value.slice.injEq] at hv
    obtain ⟨rfl, rfl, rfl⟩ := hv
    exact .inr ⟨⟨g, 0, rfl⟩, hnc⟩
theorem pMods_len (l : List UInt8) : (pMods l).length ≤ 16 := by
  unfold pMods
  split
  · split
    · exact Nat.zero_le _
    · omega
  · exact Nat.zero_le _
/-- What readPlace says of Within. -/
theorem place_wi {l p : List UInt8} {R : ByteArray} {O : Bool} {B : Nat} {v : Value} {r : Rs} {w : World} (hp : PlaceEnds B [] (chunk 16 p) v r R O w) :
    (O = false → ¬ Wi l p) ∧ (O = true → R.data.toList ≠ [] → ¬ Wi l p) ∧
    (O = true → R.data.toList = [] → ∃ ps, ps.length ≤ 16 ∧ Sr B v ps w ∧ (Wi l p ↔ pErr l = 0 ∧ Bl (pMods l) (pRes l) ps r)) := by
  have hs := chunk_says 16 p
  cases hc : chunk 16 p with
  | none =>
    rw [hc] at hs hp
    have e : full p = none := hs
    have : O = false := hp
    subst this
    refine ⟨fun _ h => ?_, (fun h => by cases h), (fun h => by cases h)⟩
    obtain ⟨_, ps, x, h2, _⟩ := h
    rw [e] at h2
    cases h2
  | some z =>
    obtain ⟨ms, x, rs⟩ := z
    rw [hc] at hs hp
    obtain ⟨rfl, hv, rfl, rfl⟩ := hp
    refine ⟨(fun h => by cases h), fun _ hn h => ?_, fun _ hn => ?_⟩
    · obtain ⟨_, g2, g3, g4, _⟩ := hs.2 hn
      obtain ⟨_, ps, x', h2, h3, _⟩ := h
      rw [g4] at h2
      cases hf : full R.data.toList with
      | none => rw [hf] at h2; cases h2
      | some y =>
        obtain ⟨ms', y'⟩ := y
        rw [hf] at h2
        simp only [Option.map_some, Option.some.injEq, Prod.mk.injEq] at h2
        have hne : ms' ≠ [] := by
          intro h0
          subst h0
          rw [full_eq, if_neg (by rw [g3]; decide)] at hf
          split at hf
          · cases hf
          · cases hf
          · split at hf
            · rename_i st c r hq hc2
              cases hr : full r with
              | none => rw [hr] at hf; cases hf
              | some q => rw [hr] at hf; cases hf
            · cases hf
        have := List.length_pos_iff.2 hne
        rw [← h2.1, List.length_append] at h3
        omega
    · obtain ⟨g1, g2⟩ := hs.1 hn
      refine ⟨ms, g2, hv, ?_⟩
      constructor
      · rintro ⟨h1, ps, x', h2, h3, h4⟩
        rw [g1] at h2
        simp only [Option.some.injEq, Prod.mk.injEq] at h2
        obtain ⟨rfl, rfl⟩ := h2
        exact ⟨h1, h4⟩
      · rintro ⟨h1, h4⟩
        exact ⟨h1, ms, x, g1, g2, h4⟩

set_option maxHeartbeats 16000000 in
theorem within_any (s p : ByteArray) (w : World) (f : Fa w) (hs : s.size ≤ 1000000) (hp : p.size ≤ 1000000) :
    Calls Tryz.prog 22 #[.string s, .string p] w (WiEnds s.data.toList p.data.toList w) := by
  have cA := Lib.hid (parse_any s w f hs)
  have cP : Hid (∀ w', Q w w' → Calls Tryz.prog 39 #[.slice none 0 0, .string p] w' fun e w'' => ∃ A n c r rest ok, e = .returned (.tuple #[rv (.slice A n c) r, .string rest, .bool ok]) ∧ PlaceEnds w'.heap.size [] (chunk 16 p.data.toList) (.slice A n c) r rest ok w'' ∧ Kp w'.heap.size w' w'') := Lib.hid (fun w' q => readPlace_any w' (q.fa f) 16 [] (.slice none 0 0) p w' rfl (Sr.nil _ _) (Q.refl _) hp)
  have cB : Hid (∀ (A A' : Option Addr) (n c n' c' : Nat) (ms ps : List St) (r q : Rs) (w : World), n = ms.length → n' = ps.length → In A ms w → In A' ps w → n ≤ 1000 → ((A = none ∧ n = 0 ∧ c = 0) ∨ ((∃ b o, A = some ⟨b, o, none⟩) ∧ n ≤ c)) → Calls Tryz.prog 52 #[.agg #[.slice A n c, .bool r.data, .string r.type, .string r.name, .int .i64 r.key.kind, .int .i64 r.key.num, .string r.key.str], .agg #[.slice A' n' c', .bool q.data, .string q.type, .string q.name, .int .i64 q.key.kind, .int .i64 q.key.num, .string q.key.str]] w (BlEnds ms r ps q w)) := Lib.hid belongs_any
  have hML := Lib.hid (pMods_len s.data.toList)
  clear f
  have hPW : Hid (∀ {R : ByteArray} {O : Bool} {B : Nat} {v : Value} {r : Rs} {w : World}, PlaceEnds B [] (chunk 16 p.data.toList) v r R O w → (O = false → ¬ Wi s.data.toList p.data.toList) ∧ (O = true → R.data.toList ≠ [] → ¬ Wi s.data.toList p.data.toList) ∧
    (O = true → R.data.toList = [] → ∃ ps, ps.length ≤ 16 ∧ Sr B v ps w ∧ (Wi s.data.toList p.data.toList ↔ pErr s.data.toList = 0 ∧ Bl (pMods s.data.toList) (pRes s.data.toList) ps r))) := fun hp => place_wi hp
  have hE : Hid (pErr s.data.toList ≠ 0 → ¬ Wi s.data.toList p.data.toList) := Lib.hid (fun h x => h x.1)
  generalize s.data.toList = L at *
  generalize p.data.toList = P at *
  obtain ⟨E, hE0⟩ : ∃ e, pErr L = e := ⟨_, rfl⟩
  obtain ⟨MS, hMS0⟩ : ∃ e, pMods L = e := ⟨_, rfl⟩
  obtain ⟨RS, hRS0⟩ : ∃ e, pRes L = e := ⟨_, rfl⟩
  rw [hE0] at cA hPW hE
  rw [hMS0] at cA hPW hML
  rw [hRS0] at cA hPW
  clear hE0 hMS0 hRS0
  obtain ⟨d, ty, nm, kd, m, t⟩ := RS
  go_enter Tryz.func22, Tryz.ntmps22
  go_wp2_with fail
  refine cA.out.mono ?_; rintro e w1 ⟨A, n, c, rfl, hv, q1⟩
  have HV := Lib.hid hv
  have hn := Lib.hid hv.len
  have ha := Lib.hid hv.addr
  have Q1 := Lib.hid q1
  clear hv q1 cA
  unfold rv
  simp only
  have B5 := Lib.hid (Bk.new #[.slice A n c, .bool d, .string ty, .string nm, .int .i64 kd, .int .i64 m, .string t] 27 w1)
  have Q2 := Lib.hid (Q1.out.trans (Q.alloc w1 (.cells #[.slice A n c, .bool d, .string ty, .string nm, .int .i64 kd, .int .i64 m, .string t] 27)))
  replace HV := Lib.hid (HV.out.stays (Q.alloc w1 (.cells #[.slice A n c, .bool d, .string ty, .string nm, .int .i64 kd, .int .i64 m, .string t] 27)))
  clear Q1
  go_wp2_with fail
  refine (cP.out _ Q2.out).mono ?_; rintro e w3 ⟨A2, n2, c2, ⟨d2, ty2, nm2, kd2, m2, t2⟩, R, O, rfl, hpe, hk⟩
  have q3 : Q _ w3 := hk.below
  replace B5 := Lib.hid (B5.out.stays q3)
  replace Q2 := Lib.hid (Q2.out.trans q3)
  replace HV := Lib.hid (HV.out.stays q3)
  have HP := Lib.hid (hPW.out hpe)
  clear hpe hk q3 cP hPW
  unfold rv
  simp only
  cases hEE : (E == 0) with
  | false =>
    have hno := Lib.hid (hE.out (by simpa using hEE))
    clear HP HV B5 cB
    go_wp2_with fail
    go_ret
    exact WiEnds.no hno (Q2.out.trans (Q.alloc _ _))
  | true =>
  cases O with
  | false =>
    have hno := Lib.hid (HP.out.1 rfl)
    clear HP HV B5 cB
    go_wp2_with fail
    go_ret
    exact WiEnds.no hno (Q2.out.trans (Q.alloc _ _))
  | true =>
  cases hR : R.toList.isEmpty with
  | false =>
    have hno := Lib.hid (HP.out.2.1 rfl (fun h => by rw [(isEmpty_nil R).2 h] at hR; cases hR))
    clear HP HV B5 cB
    go_wp2_with fail
    go_ret
    exact WiEnds.no hno (Q2.out.trans (Q.alloc _ _))
  | true =>
    obtain ⟨ps, hps, hsr, hwi⟩ := HP.out.2.2 rfl ((isEmpty_nil R).1 hR)
    have HW : Hid (Wi L P ↔ Bl MS ⟨d, ty, nm, ⟨kd, m, t⟩⟩ ps ⟨d2, ty2, nm2, ⟨kd2, m2, t2⟩⟩) := Lib.hid ⟨fun h => (hwi.1 h).2, fun h => hwi.2 ⟨beq_iff_eq.1 hEE, h⟩⟩
    have O7 := Q.alloc w3 (.cells #[.slice A2 n2 c2, .bool d2, .string ty2, .string nm2, .int .i64 kd2, .int .i64 m2, .string t2] 27)
    have cX := Lib.hid (cB.out A A2 n c n2 c2 MS ps ⟨d, ty, nm, ⟨kd, m, t⟩⟩ ⟨d2, ty2, nm2, ⟨kd2, m2, t2⟩⟩ _ hn.out hsr.len (HV.out.in.stays O7) (hsr.in.stays O7) (by have h1 := hn.out; have h2 := hML.out; omega) ha.out)
    replace B5 := Lib.hid (B5.out.stays O7)
    replace Q2 := Lib.hid (Q2.out.trans O7)
    have u0 := B5.out.at 0 (.slice A n c) rfl
    have u1 := B5.out.at 1 (.bool d) rfl
    have u2 := B5.out.at 2 (.string ty) rfl
    have u3 := B5.out.at 3 (.string nm) rfl
    have u4 := B5.out.at 4 (.int .i64 kd) rfl
    have u5 := B5.out.at 5 (.int .i64 m) rfl
    have u6 := B5.out.at 6 (.string t) rfl
    clear HP HV cB hps hsr hwi O7 B5
    go_wp2_with fail
    refine cX.out.mono ?_; rintro e w5 ⟨B, rfl, hB, q5⟩
    go_wp2_with fail
    go_ret
    exact WiEnds.of (Lib.hid ⟨fun h => HW.out.2 (hB.out.1 h), fun h => hB.out.2 (HW.out.1 h)⟩) (Q2.out.trans q5)

/-! ### without keys -/
def bareS (s : St) : St := ⟨s.name, K.zero⟩
def bareR (r : Rs) : Rs := ⟨r.data, r.type, r.name, K.zero⟩
def three (w : World) (g o k : Nat) : World := ((w.setCell ⟨g, o + k * 4 + 1, none⟩ (.int .i64 0)).setCell ⟨g, o + k * 4 + 1 + 1, none⟩ (.int .i64 0)).setCell ⟨g, o + k * 4 + 1 + 2, none⟩ (.string ⟨#[]⟩)
theorem stCells_set : ∀ (ms : List St) (k : Nat) (h : k < ms.length), stCells (ms.set k (bareS ms[k])) = (((stCells ms).set (k * 4 + 1) (.int .i64 0)).set (k * 4 + 2) (.int .i64 0)).set (k * 4 + 3) (.string ⟨#[]⟩)
  | [], k, h => absurd h (Nat.not_lt_zero _)
  | s :: t, 0, _ => rfl
  | s :: t, k + 1, h => by
    have ih := stCells_set t k (by simpa using h)
    have e1 : (k + 1) * 4 + 1 = k * 4 + 1 + 1 + 1 + 1 + 1 := by omega
    have e2 : (k + 1) * 4 + 2 = k * 4 + 2 + 1 + 1 + 1 + 1 := by omega
    have e3 : (k + 1) * 4 + 3 = k * 4 + 3 + 1 + 1 + 1 + 1 := by omega
    rw [e1, e2, e3]
    show _ :: _ :: _ :: _ :: stCells (t.set k (bareS (t[k]'(by simpa using h)))) = _
    rw [ih]
    rfl
theorem set_heap {w : World} {g : Nat} {cur : Array Value} {e : TypeId} (h : w.heap[g]? = some (.cells cur e (0, 0))) (j : Nat) (u : Value) : (w.setCell ⟨g, j, none⟩ u).heap[g]? = some (.cells (cur.setIfInBounds j u) e (0, 0)) := by
  simp only [World.setCell, Array.getElem?_modify, if_pos, h]
  rfl
/-- A row whose cells may be written: a step loses its key. -/
theorem Sr.three {B g o n c k : Nat} {ms : List St} {w : World} (h : Sr B (.slice (some ⟨g, o, none⟩) n c) ms w) (hk : k < ms.length) :
    Sr B (.slice (some ⟨g, o, none⟩) n c) (ms.set k (bareS ms[k])) (three w g o k) ∧
    w.cell? ⟨g, o + k * 4 + 1, none⟩ = some (.int .i64 ms[k].key.kind) ∧ w.cell? ⟨g, o + k * 4 + 1 + 1, none⟩ = some (.int .i64 ms[k].key.num) ∧ w.cell? ⟨g, o + k * 4 + 1 + 2, none⟩ = some (.string ms[k].key.str) ∧
    (∀ j, w.frozen? ⟨g, j, none⟩ = false) ∧ B ≤ g ∧ (∀ p cs t, t ≠ 44 → Bk p cs t w → p ≠ g) := by
  have hin := h.in (by intro e; rw [e] at hk; cases hk)
  obtain ⟨b', o', e', _, hcc⟩ := hin
  simp only [Option.some.injEq, Addr.mk.injEq, and_true] at e'
  obtain ⟨rfl, rfl⟩ := e'
  obtain ⟨_, c1, c2, c3⟩ := hcc k hk
  have hap := fun (p : Nat) (cs : Array Value) (t : TypeId) (ht : t ≠ 44) (hb : Bk p cs t w) => h.apart hb ht
  rcases h.2 with ⟨hv, _⟩ | ⟨g', cap, cur, hv, hB, hc, hnc, hcm, hsz, ht⟩
  · cases hv
  · simp only [Value.slice.injEq, Option.some.injEq, Addr.mk.injEq, and_true] at hv
    obtain ⟨⟨rfl, rfl⟩, rfl, rfl⟩ := hv
    refine ⟨⟨?_, .inr ⟨g, c, ((cur.setIfInBounds (0 + k * 4 + 1) (.int .i64 0)).setIfInBounds (0 + k * 4 + 1 + 1) (.int .i64 0)).setIfInBounds (0 + k * 4 + 1 + 2) (.string ⟨#[]⟩), ?_, hB, ?_, ?_, hcm, ?_, ?_⟩⟩, c1, c2, c3, fun j => ?_, hB, fun p cs t ht hb e => ?_⟩
    · rw [stCells_len]
    · rw [List.length_set]
    · exact set_heap (set_heap (set_heap hc _ _) _ _) _ _
    · rw [List.length_set]; exact hnc
    · simp only [Array.size_setIfInBounds]; exact hsz
    · rw [stCells_set ms k hk, List.length_set, ← ht]
      simp only [Array.toList_setIfInBounds, List.take_set, Nat.zero_add]
    · unfold World.frozen?
      simp only [hc]
      rw [Bool.and_eq_false_iff]
      right
      exact decide_eq_false (by simp)
    · subst e
      exact hap p cs t ht hb rfl

theorem parsed_ok {l : List UInt8} (h : pErr l = 0) : chkS (pMods l) = 0 ∧ chkR (pRes l) = 0 := by
  unfold pErr at h
  unfold pMods pRes
  split
  · rename_i ms r hf
    rw [hf] at h
    simp only at h
    split at h
    · cases h
    · rename_i hx
      rw [if_neg hx, if_neg hx]
      obtain ⟨h1, h2, _⟩ := full_res_ok hf
      exact ⟨h1, h2⟩
  · rename_i hx
    split at h
    · rename_i ms r hf
      exact absurd hf (hx ms r)
    · cases h
theorem bare_chkN {n : ByteArray} {k : K} (h : chkN n k = 0) : chkN n K.zero = 0 := by
  obtain ⟨h1, _⟩ := chkN_ok h
  unfold chkN
  rw [h1, okK_zero]
  rfl
theorem bare_chkS : ∀ (ms : List St), chkS ms = 0 → chkS (ms.map bareS) = 0
  | [], _ => rfl
  | s :: t, h => by
    obtain ⟨h1, h2⟩ := (chkS_cons s t).1 h
    exact (chkS_cons (bareS s) (t.map bareS)).2 ⟨bare_chkN h1, bare_chkS t h2⟩
theorem bare_chkR {r : Rs} (h : chkR r = 0) : chkR (bareR r) = 0 := by
  obtain ⟨h1, h2⟩ := chkR_ok h
  unfold chkR bareR
  simp only
  rw [h1, bare_chkN h2]
  rfl
theorem bare_ok {ms : List St} {r : Rs} (h1 : chkS ms = 0) (h2 : chkR r = 0) : chkS (ms.map bareS) = 0 ∧ chkR ⟨r.data, r.type, r.name, K.zero⟩ = 0 := ⟨bare_chkS ms h1, bare_chkR h2⟩
theorem bare_step (ms : List St) (k : Nat) (h : k < ms.length) : ((ms.take k).map bareS ++ ms.drop k).set k (bareS (((ms.take k).map bareS ++ ms.drop k)[k]'(by rw [List.length_append, List.length_map, List.length_take, List.length_drop]; omega))) = (ms.take (k + 1)).map bareS ++ ms.drop (k + 1) := by
  have hl : ((ms.take k).map bareS).length = k := by rw [List.length_map, List.length_take]; omega
  have e : ((ms.take k).map bareS ++ ms.drop k)[k]'(by rw [List.length_append, hl, List.length_drop]; omega) = ms[k] := by
    rw [List.getElem_append_right (by omega), List.getElem_drop]
    congr 1
    omega
  have e2 : ms.drop k = ms[k] :: ms.drop (k + 1) := List.drop_eq_getElem_cons h
  rw [e, List.set_append_right _ _ (by omega), hl, Nat.sub_self, e2, List.take_succ_eq_append_getElem h, List.map_append, List.append_assoc]
  rfl
set_option maxHeartbeats 16000000 in
theorem static_any (s : ByteArray) (w : World) (f : Fa w) (hs : s.size ≤ 1000000) :
    Calls Tryz.prog 17 #[.string s] w fun e w' => e = .returned (.tuple #[.string ⟨(if pErr s.data.toList = 0 then fA ⟨(pMods s.data.toList).map bareS, bareR (pRes s.data.toList)⟩ else []).toArray⟩, .int .i64 (pErr s.data.toList)]) ∧ Q w w' := by
  have cA := Lib.hid (parse_any s w f hs)
  have cF : Hid (∀ (A : Option Addr) (n c : Nat) (ms : List St) (r : Rs) (w' : World), Q w w' → n = ms.length → In A ms w' → Ab ms r → ms.length ≤ maxLen → Calls Tryz.prog 11 #[.agg #[.slice A n c, .bool r.data, .string r.type, .string r.name, .int .i64 r.key.kind, .int .i64 r.key.num, .string r.key.str]] w' fun e w'' => e = .returned (.string ⟨(fA ⟨ms, r⟩).toArray⟩) ∧ Q w' w'') := Lib.hid (fun A n c ms r w' q => format_any A n c ms r w' (q.fa f))
  clear f
  generalize s.data.toList = L at *
  have hML := Lib.hid (pMods_len L)
  have hOK := Lib.hid (fun h => parsed_ok (l := L) h)
  obtain ⟨E, hE0⟩ : ∃ e, pErr L = e := ⟨_, rfl⟩
  obtain ⟨MS, hMS0⟩ : ∃ e, pMods L = e := ⟨_, rfl⟩
  obtain ⟨RS, hRS0⟩ : ∃ e, pRes L = e := ⟨_, rfl⟩
  rw [hE0, hMS0, hRS0] at cA ⊢
  rw [hMS0] at hML
  rw [hE0, hMS0, hRS0] at hOK
  clear hE0 hMS0 hRS0
  obtain ⟨d, ty, nm, kd, m, t⟩ := RS
  cases hEE : (E != 0) with
  | true =>
    have e0 : ¬ E = 0 := by simpa using hEE
    rw [if_neg e0]
    clear e0
    go_enter Tryz.func17, Tryz.ntmps17
    go_wp2_with fail
    refine cA.out.mono ?_; rintro e w1 ⟨A, n, c, rfl, hv, q1⟩
    have Q1 := Lib.hid q1
    clear hv q1 cA
    unfold rv
    simp only
    go_wp2_with fail
    go_ret2
    exact ⟨rfl, Q1.out.trans (Q.alloc _ _)⟩
  | false =>
    have e0 : E = 0 := by simpa using hEE
    subst e0
    rw [if_pos rfl]
    go_enter Tryz.func17, Tryz.ntmps17
    go_wp2_with fail
    refine cA.out.mono ?_; rintro e w1 ⟨A, n, c, rfl, hv, q1⟩
    have HV := Lib.hid (hv.stays (Q.alloc w1 (.cells #[.slice A n c, .bool d, .string ty, .string nm, .int .i64 kd, .int .i64 m, .string t] 27)))
    have hn := Lib.hid hv.len
    have ha := Lib.hid hv.addr
    have Q1 := Lib.hid (q1.trans (Q.alloc w1 (.cells #[.slice A n c, .bool d, .string ty, .string nm, .int .i64 kd, .int .i64 m, .string t] 27)))
    have B4 := Lib.hid (Bk.new #[.slice A n c, .bool d, .string ty, .string nm, .int .i64 kd, .int .i64 m, .string t] 27 w1)
    have h4 : Hid (w.heap.size ≤ w1.heap.size) := Lib.hid q1.size
    clear hv q1 cA
    unfold rv
    simp only
    have l0 := B4.out.at 0 (.slice A n c) rfl
    go_wp2_with fail
    generalize w1.alloc (.cells #[.slice A n c, .bool d, .string ty, .string nm, .int .i64 kd, .int .i64 m, .string t] 27) = w2 at *
    generalize w1.heap.size = p4 at *
    clear l0
    go_loopw [18] (fun i wr => ∃ k : Nat, k ≤ n ∧ i = .int .i64 k ∧ Hid (Q w wr) ∧ Hid (Bk p4 #[.slice A n c, .bool d, .string ty, .string nm, .int .i64 kd, .int .i64 m, .string t] 27 wr) ∧ Hid (Sr w.heap.size (.slice A n c) ((MS.take k).map bareS ++ MS.drop k) wr)) (fun i _ => n - (intOf i).toNat)
    case atStart => exact ⟨0, Nat.zero_le _, rfl, Q1, B4, HV⟩
    case round =>
      clear Q1 B4 HV
      obtain ⟨k, hk, rfl, QQ, B4, HV⟩ := hrel
      have l0 := B4.out.at 0 (.slice A n c) rfl
      by_cases hlt : k < n
      · have hlt2 : k < MS.length := by rw [← hn.out]; exact hlt
        have f0 : (0 : Int) ≤ (k : Int) := by omega
        have f1 : (k : Int) < (n : Int) := by omega
        have f2 : (k : Int) ≤ 16 := by have h1 := hML.out; omega
        rcases ha.out with ⟨_, h0, _⟩ | ⟨⟨g, o, rfl⟩, _⟩
        · omega
        obtain ⟨s1, x1, x2, x3, zz, hBg, hap⟩ := HV.out.three (k := k) (by rw [List.length_append, List.length_map, List.length_take, List.length_drop]; omega)
        have hset : ((MS.take k).map bareS ++ MS.drop k).set k (bareS (((MS.take k).map bareS ++ MS.drop k)[k]'(by rw [List.length_append, List.length_map, List.length_take, List.length_drop]; omega))) = (MS.take (k + 1)).map bareS ++ MS.drop (k + 1) := bare_step MS k hlt2
        rw [hset] at s1
        have S1 := Lib.hid s1
        have z1 := zz (o + k * 4 + 1)
        have z2 := zz (o + k * 4 + 1 + 1)
        have z3 := zz (o + k * 4 + 1 + 2)
        have hpg := hap _ _ _ (by decide) B4.out
        have BP := Lib.hid (((B4.out.other hpg (o + k * 4 + 1) (.int .i64 0)).other hpg (o + k * 4 + 1 + 1) (.int .i64 0)).other hpg (o + k * 4 + 1 + 2) (.string ⟨#[]⟩))
        have QP := Lib.hid (((QQ.out.put hBg (o + k * 4 + 1) (.int .i64 0)).put hBg (o + k * 4 + 1 + 1) (.int .i64 0)).put hBg (o + k * 4 + 1 + 2) (.string ⟨#[]⟩))
        clear s1 hset zz hBg hap hpg HV B4 QQ ha
        unfold three at S1
        go_wp2_with fail
        go_roundw
        case rel => exact ⟨k + 1, hlt, by go_num, QP, BP, S1⟩
        case measure => simp [intOf]; omega
      · obtain rfl : n = k := by omega
        have e1 : (MS.take n).map bareS ++ MS.drop n = MS.map bareS := by
          rw [List.take_of_length_le (by rw [hn.out]; exact Nat.le_refl _), List.drop_of_length_le (by rw [hn.out]; exact Nat.le_refl _), List.append_nil]
        rw [e1] at HV
        obtain ⟨o1, o2⟩ := bare_ok (hOK.out (by first | rfl | trivial)).1 (hOK.out (by first | rfl | trivial)).2
        have x4 := B4.out.at 4 (.int .i64 kd) rfl
        have x5 := B4.out.at 5 (.int .i64 m) rfl
        have x6 := B4.out.at 6 (.string t) rfl
        have z4 := B4.out.frozen 4
        have z5 := B4.out.frozen 5
        have z6 := B4.out.frozen 6
        have b4 : Bk p4 #[.slice A n c, .bool d, .string ty, .string nm, .int .i64 0, .int .i64 m, .string t] 27 (wr.setCell ⟨p4, 4, none⟩ (.int .i64 0)) := B4.out.set 4 _
        have b5 : Bk p4 #[.slice A n c, .bool d, .string ty, .string nm, .int .i64 0, .int .i64 0, .string t] 27 ((wr.setCell ⟨p4, 4, none⟩ (.int .i64 0)).setCell ⟨p4, 5, none⟩ (.int .i64 0)) := b4.set 5 _
        have b6 : Bk p4 #[.slice A n c, .bool d, .string ty, .string nm, .int .i64 0, .int .i64 0, .string ⟨#[]⟩] 27 (((wr.setCell ⟨p4, 4, none⟩ (.int .i64 0)).setCell ⟨p4, 5, none⟩ (.int .i64 0)).setCell ⟨p4, 6, none⟩ (.string ⟨#[]⟩)) := b5.set 6 _
        have s6 := ((HV.out.put B4.out (by decide) 4 (.int .i64 0)).put b4 (by decide) 5 (.int .i64 0)).put b5 (by decide) 6 (.string ⟨#[]⟩)
        have q6 := ((QQ.out.put h4.out 4 (.int .i64 0)).put h4.out 5 (.int .i64 0)).put h4.out 6 (.string ⟨#[]⟩)
        have y0 := b6.at 0 (.slice A n c) rfl
        have y1 := b6.at 1 (.bool d) rfl
        have y2 := b6.at 2 (.string ty) rfl
        have y3 := b6.at 3 (.string nm) rfl
        have y4 := b6.at 4 (.int .i64 0) rfl
        have y5 := b6.at 5 (.int .i64 0) rfl
        have y6 := b6.at 6 (.string ⟨#[]⟩) rfl
        have cX := Lib.hid (cF.out A n c (MS.map bareS) ⟨d, ty, nm, K.zero⟩ _ q6 (by rw [List.length_map]; exact hn.out) s6.in (Ab.of o1 o2) (by rw [List.length_map]; have := hML.out; unfold maxLen; omega))
        have Q6 := Lib.hid q6
        clear b4 b5 b6 s6 q6 HV B4 QQ cF ha o1 o2 hOK e1 hlt hk
        go_wp2_with fail
        refine cX.out.mono ?_; rintro e w7 ⟨rfl, q7⟩
        go_wp2_with fail
        go_ret2
        exact ⟨rfl, Q6.out.trans q7⟩

end Go.Proofs.YthekabflbpfjoaaGreatDoor.adr
