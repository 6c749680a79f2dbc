/- visitNodes: the visit of a value's nodes by a stack, for any closure. -/
import Derived.Test.YtjmchjphdfbhiaaGreatDoorChecked
import Derived.Test.YtjmchjphdfbhiaaGreatDoorVst
import Derived.WalkKit
import Derived.WalkSpells
import Derived.WalkLawsBesides
import Derived.Handy
import Derived.Lib.Hide
import Derived.BigQuiet
import Derived.Deep.QuietTactic
import Derived.Deep.AppendLies
import Derived.OwnWalk
import Derived.LoopTactic
namespace Go.Proofs.YtjmchjphdfbhiaaGreatDoor.val
open Go.RowKit
/-- What a closure does that is called for each node. -/
def Visits {S : Type} (step : S → V → Nat → S × Bool) (Has : Nat → S → World → Prop) (w0 : World) (a B : Nat) (g : Nat) (lb : Array Value) : Prop :=
  ∀ (k : Nat) (s : S) (x : V) (c3 c4 : Value) (lv : Nat) (w : World), k < 262144 → Q w0 w → Has k s w → B ≤ w.heap.size → Is c3 x.items w0 → Ks c4 x.keys w0 → Wf x → lv ≤ 300000 →
    Calls Tryz.prog g (#[.agg #[.int .i64 x.kind, .int .i64 x.num, .string x.str, c3, c4], .int .i64 lv] ++ lb) w fun e w' => e = .returned (.bool (step s x lv).2) ∧ Has (k + 1) (step s x lv).1 w' ∧ Mid a B w w'

theorem info_rows : (Tryz.prog.info? 23).map (fun i => (i.zero, i.size, i.bytes)) = some (some (.slice none 0 0), 1, 24) := by kernel_rfl
/-- append of one element to a slice of rows that is the call's own. -/
theorem wpList_ow {w : World} {ops : Array Oper} {rest : List Oper} {o : Oper} {a : Act} {Q' : Exit → Act → World → Prop} (hgd : o.guard = none) (s x : Operand)
    (ho : o.op = .call { callee := .builtin .append, args := #[s, x], argTypes := #[77, 77] })
    (B g n cap : Nat) (xs : List Value) (hn : n = xs.length) (hs : a.eval s = .slice (some ⟨g, 0, none⟩) n cap) (hown : Ow 23 B g cap xs w) (ad : Addr) (hx : a.eval x = .slice (some ad) 1 1)
    (u : Value) (hnews : w.cell? ad = some u) (h1 : u.oneCell' = true) (hlim : xs.length ≤ 1000000) (hbase : B ≤ w.heap.size)
    (h : ∀ g' cap' w', Ow 23 B g' cap' (xs ++ [u]) w' → w.grownBy w' (some g) → (g' = g ∨ g' = w.heap.size) → wpList Tryz.prog ops Q' rest (a.put o.dst (.slice (some ⟨g', 0, none⟩) (n + 1) cap')) w') : wpList Tryz.prog ops Q' (o :: rest) a w := by
  obtain ⟨i0, hi, hz0, hz1, hz2⟩ := info_parts info_rows
  subst hn
  refine wpList_append_lies w hgd s x 77 ho B 23 i0 (.slice none 0 0) 1 24 Tryz.underlying77 hi hz0 hz1 hz2 rfl (by decide) _ xs.length xs hs hown ad 1 1 [u] hx rfl ?_ ?_ (by decide) (by unfold maxLen; omega) (by omega) hbase w.heap.size rfl ?_
  · intro j u' hj
    match j, hj with
    | 0, hj =>
      simp only [List.getElem?_cons_zero, Option.some.injEq] at hj
      subst hj
      obtain ⟨b, o, sp⟩ := ad
      simpa [Addr.add] using hnews
  · intro u' hu
    simp only [List.mem_singleton] at hu
    subst hu
    exact h1
  · intro g' cap' w' h2 h3 h4 _
    refine h g' cap' w' ?_ h3 ?_
    · unfold Ow
      rw [List.length_append]
      exact h2
    · rcases h4 with h4 | h4
      · simp only [Value.ownBlock, Option.some.injEq] at h4
        exact .inl h4.symm
      · exact .inr h4
theorem Is.one {v : Value} {l : List V} {w : World} (h : Is v l w) : v.oneCell' = true := by
  obtain ⟨A, c, rfl, _⟩ := h
  rfl
/-- What the loop knows. -/
structure VnI {S : Type} (step : S → V → Nat → S × Bool) (Has : Nat → S → World → Prop) (w0 w : World) (a : Nat) (ANS : S) (k g n cap : Nat) (ys : List Value) (ls : List (List V)) (s : S) (wr : World) : Prop where
  len : ys.length = n
  own : Ow 23 w.heap.size g cap ys.reverse wr
  sk : SK w0 w.heap.size g ys ls wr
  has : Has k s wr
  q : Q w0 wr
  mid : Mid a w.heap.size w wr
  few : n ≤ k + 1
  ans : visG step (262144 - k) s ls = ANS
theorem VnI.next {S : Type} {step : S → V → Nat → S × Bool} {Has : Nat → S → World → Prop} {w0 w w1 w2 w3 : World} {a : Nat} {ANS : S} {k g g' n m cap' : Nat} {ys : List Value} {ls : List (List V)} {s' : S} {x : V} {t : List V} {Y D : Value} {ob : Obj}
    (hK : ∀ k s w1 w2, Below w.heap.size w1 w2 → Has k s w1 → Has k s w2) (hB : w0.heap.size ≤ w.heap.size) (hg : w.heap.size ≤ g) (M2 : Mid a w.heap.size w w1) (Q2 : Q w0 w1) (H1 : Has (k + 1) s' w1) (S1 : SK w0 w.heap.size g ys ls w1)
    (hb1 : Below w.heap.size w1 w2) (hb2 : ∀ j, j ≠ g → w2.heap[j]? = w1.heap[j]?) (hs2 : w2.heap.size = w1.heap.size) (O3 : Ow 23 w.heap.size g' cap' (ys.reverse ++ [Y, D]) w3) (G3 : (w2.alloc ob).grownBy w3 (some g)) (hg3 : g' = g ∨ g' = w2.heap.size + 1)
    (hi : Is D x.items w0) (hw : Wf x) (hY : Is Y t w0) (htw : WfL t) (hn : n = m + 1) (hm : ys.length = m) (few : n ≤ k + 1) (ans : visG step (262144 - (k + 1)) s' (x.items :: t :: ls) = ANS) :
    VnI step Has w0 w a ANS (k + 1) g' (n + 1) cap' (D :: Y :: ys) (x.items :: t :: ls) s' w3 := by
  have hsz : (w2.alloc ob).heap.size = w2.heap.size + 1 := by simp
  have key : ∀ j, j ≠ g → j < w1.heap.size → w3.heap[j]? = w1.heap[j]? := by
    intro j hj hlt
    rw [G3.block j (by omega) (by simp only [ne_eq, Option.some.injEq]; omega), heap_alloc_old w2 ob (by omega), hb2 j hj]
  have B3 : Below w.heap.size w1 w3 := by
    refine ⟨G3.os.trans (hb1.os), G3.tape.trans hb1.tape, G3.output.trans hb1.output, ?_, ?_⟩
    · have := G3.size
      omega
    · intro j hj
      have := M2.size
      exact key j (by omega) (by omega)
  refine ⟨by simp; omega, ?_, ⟨Rk.of hw.items hi, Rk.of htw hY, ?_⟩, hK _ _ _ _ B3 H1, ?_, ?_, by omega, ans⟩
  · rw [List.reverse_cons, List.reverse_cons, List.append_assoc]
    exact O3
  · refine S1.kept (fun b hb hne hlt => ⟨?_, key b hne hlt⟩) B3.size
    rcases hg3 with h | h
    · omega
    · omega
  · exact ⟨B3.os.trans Q2.os, B3.tape.trans Q2.tape, B3.output.trans Q2.output, Nat.le_trans Q2.size B3.size, fun j hj => (B3.block j (Nat.lt_of_lt_of_le hj hB)).trans (Q2.block j hj)⟩
  · exact ⟨B3.os.trans M2.os, B3.tape.trans M2.tape, B3.output.trans M2.output, Nat.le_trans M2.size B3.size, fun j hj hb => (B3.block j hj).trans (M2.block j hj hb)⟩

set_option maxRecDepth 100000 in
set_option maxHeartbeats 4000000 in
theorem visitNodes_any {S : Type} (step : S → V → Nat → S × Bool) (Has : Nat → S → World → Prop) (w0 : World) (a : Nat) (ha : w0.heap.size ≤ a) (fg : Nat) (lb : Array Value) (s0 : S) (v : V) (c3 c4 : Value) (w : World)
    (eg : ∀ args w, (callFunc fg args).run Tryz.prog w = .ok (.enter fg args) w) (hC : Visits step Has w0 a w.heap.size fg lb) (hK : ∀ k s w1 w2, Below w.heap.size w1 w2 → Has k s w1 → Has k s w2) (hM : ∀ k s w1, Has k s w1 → Has (k + 1) s w1)
    (hq : Q w0 w) (h3 : Is c3 v.items w0) (h4 : Ks c4 v.keys w0) (hv : Wf v) (hs : Has 0 s0 w) :
    Calls Tryz.prog 45 #[.agg #[.int .i64 v.kind, .int .i64 v.num, .string v.str, c3, c4], .func (.func fg) #[] lb] w fun e w' => e = .returned (.tuple #[]) ∧ (∃ k, Has k (visG step 262144 s0 [[v]]) w') ∧ Mid a w.heap.size w w' := by
  go_enter Tryz.func45, Tryz.ntmps45
  obtain ⟨ANS, hANS⟩ : ∃ A, visG step 262144 s0 [[v]] = A := ⟨_, rfl⟩
  rw [hANS]
  have hB := hq.size
  have H0 : Hid (VnI step Has w0 w a ANS 0 (w.heap.size + 1 + 1) 1 1 [.slice (some ⟨w.heap.size + 1, 0, none⟩) 1 1] [[v]] s0 (((w.alloc (.cells #[.int .i64 v.kind, .int .i64 v.num, .string v.str, c3, c4] 26)).alloc (.cells #[.int .i64 v.kind, .int .i64 v.num, .string v.str, c3, c4] 26)).alloc (.cells #[.slice (some ⟨w.heap.size + 1, 0, none⟩) 1 1] 23))) := by
    have hx : Below w.heap.size w (((w.alloc (.cells #[.int .i64 v.kind, .int .i64 v.num, .string v.str, c3, c4] 26)).alloc (.cells #[.int .i64 v.kind, .int .i64 v.num, .string v.str, c3, c4] 26)).alloc (.cells #[.slice (some ⟨w.heap.size + 1, 0, none⟩) 1 1] 23)) :=
      (((Below.refl _ w).alloc (Nat.le_refl _) _).alloc (by simp) _).alloc (by simp only [size_alloc]; omega) _
    refine ⟨rfl, ?_, ⟨⟨(WfL_cons _ _).2 ⟨hv, WfL_nil⟩, .inr ⟨w.heap.size + 1, v, c3, c4, rfl, rfl, by omega, by omega, by simp only [size_alloc]; omega, ?_, h3, h4⟩⟩, trivial⟩, hK _ _ _ _ hx hs, ?_, Mid.of hx, by omega, hANS⟩
    · have h := World.ownsRow_lit (base := w.heap.size) (e := 23) (size := 1) ((w.alloc (.cells #[.int .i64 v.kind, .int .i64 v.num, .string v.str, c3, c4] 26)).alloc (.cells #[.int .i64 v.kind, .int .i64 v.num, .string v.str, c3, c4] 26)) #[.slice (some ⟨w.heap.size + 1, 0, none⟩) 1 1] 1 (by simp only [size_alloc]; omega) (by decide) rfl
      simp only [size_alloc] at h
      exact h
    · exact (C5.made _ _ _ _ _ _ _ _ (by rw [size_alloc])).past _
    · exact Q.trans hq hx
  have hC' := Lib.hid hC
  have hK' := Lib.hid hK
  have hM' := Lib.hid hM
  have ha' := Lib.hid ha
  clear hC hK hM ha hq h3 h4 hv hs hANS
  go_wp2_with fail
  go_loopw [4, 10] (fun op i wr => ∃ k n g cap : Nat, k ≤ 262144 ∧ i = .int .i64 k ∧ op = .slice (some ⟨g, 0, none⟩) n cap ∧ Hid (∃ ys ls s, VnI step Has w0 w a ANS k g n cap ys ls s wr)) (fun _ i _ => 262144 - (intOf i).toNat)
  case atStart => exact ⟨0, 1, _, 1, by omega, rfl, rfl, Lib.hid ⟨_, _, _, H0.out⟩⟩
  case round =>
    obtain ⟨k, n, g, cap, hk, rfl, rfl, hI⟩ := hrel
    obtain ⟨ys, ls, s, I⟩ := hI.out
    clear hI H0
    have hgl : w.heap.size ≤ g ∧ g < wr.heap.size := I.own.base
    by_cases hlt : k < 262144
    · have hltz : (k : Int) < 262144 := by omega
      have hstep : visG step (262144 - k) s ls = visG step (262144 - (k + 1) + 1) s ls := by rw [show 262144 - k = 262144 - (k + 1) + 1 by omega]
      have hans := I.ans
      rw [hstep] at hans
      have hsk := I.sk
      rcases ys with _ | ⟨y, ys⟩
      · rcases ls with _ | ⟨l, ls⟩
        rotate_left 1
        · exact hsk.elim
        obtain rfl : n = 0 := I.len.symm
        rw [visG_none] at hans
        subst hans
        have R : Hid ((∃ k, Has k s wr) ∧ Mid a w.heap.size w wr) := ⟨⟨_, I.has⟩, I.mid⟩
        clear I hstep
        go_wp2_with fail
        (try simp only [Exit.inBlock, Exit.then]); refine bodyPost_ret (results_none rfl _ _ _) rfl ?_
        exact ⟨rfl, R.out⟩
      rcases ls with _ | ⟨l, ls⟩
      · exact hsk.elim
      obtain ⟨m, hn⟩ : ∃ m, n = m + 1 := ⟨ys.length, I.len.symm⟩
      have hm : ys.length = m := by have := I.len; simp at this; omega
      have hn1 : (n : Int) - 1 = (m : Int) := by omega
      rcases l with _ | ⟨x, t⟩
      · rw [visG_pop] at hans
        obtain ⟨A, c, rfl, hc⟩ := hsk.1.shape
        have hc1 := I.own.at m (.slice A 0 c) (by simp [hm])
        have hmk : (m : Int) ≤ 262144 := by have := I.few; omega
        have HI := Lib.hid I
        have HG := Lib.hid hgl
        have HM := Lib.hid hm
        have HB := Lib.hid hB
        have HC := Lib.hid hc
        have HK := Lib.hid hlt
        have hz : ((n : Int) == 0) = false := by rw [beq_eq_false_iff_ne]; omega
        clear I hans hstep hsk hgl hm hB hc hk hlt hn
        have hcap : (m : Int) ≤ (cap : Int) := by have := HI.out.own.cap; simp at this; have := HM.out; omega
        go_wp2_with fail
        go_roundw
        case rel =>
          have I := HI.out
          have hlt := HK.out
          refine ⟨k + 1, m, g, cap, by omega, by go_num, rfl, Lib.hid ⟨ys, ls, s, ⟨HM.out, ?_, I.sk.2, hM'.out _ _ _ I.has, I.q, I.mid, by have := I.few; omega, ?_⟩⟩⟩
          · have h := I.own
            rw [List.reverse_cons] at h
            exact h.drop
          · have h := I.ans
            rw [show 262144 - k = 262144 - (k + 1) + 1 by omega, visG_pop] at h
            exact h
        case measure =>
          have hlt := HK.out
          simp [intOf]
          omega
      · obtain ⟨b, o, c, d3, d4, rfl, hc, hbg', hb0', h5', hi3', hk4', hxw', htw', htl'⟩ := hsk.1.cons I.q hB hgl.1
        obtain ⟨A3, k3, rfl, hk3⟩ := hi3'.shape
        clear hk3
        obtain ⟨n3, hn3⟩ : ∃ n3, x.items.length = n3 := ⟨_, rfl⟩
        rw [hn3] at hi3' h5'
        clear hn3
        have hc1 := I.own.at m (.slice (some ⟨b, o, none⟩) (t.length + 1) c) (by simp [hm])
        have hmk : (m : Int) ≤ 262144 := by have := I.few; omega
        have hz : ((n : Int) == 0) = false := by rw [beq_eq_false_iff_ne]; omega
        have hcap : (m : Int) ≤ (cap : Int) := by have := I.own.cap; simp at this; omega
        obtain ⟨p, hp⟩ : ∃ p, t.length + 1 = p := ⟨_, rfl⟩
        have hp1 : (1 : Int) ≤ (p : Int) := by omega
        have hpz : ((p : Int) == 0) = false := by rw [beq_eq_false_iff_ne]; omega
        rw [hp] at hc1
        have x0 := h5'.a
        have x1 := h5'.b
        have x2 := h5'.c
        have x3 := h5'.d
        have x4 := h5'.e
        have HI := Lib.hid I
        have HG := Lib.hid hgl
        have HM := Lib.hid hm
        have HB := Lib.hid hB
        have HC := Lib.hid hc
        have HK := Lib.hid hlt
        have cV := Lib.hid (hC'.out k s x (.slice A3 n3 k3) d4 n wr hlt I.q I.has (by have := I.mid.size; exact this) hi3' hk4' hxw' (by have := I.few; omega))
        have hskt := hsk.2
        have h5 := Lib.hid h5'
        have hb0 := Lib.hid hb0'
        have htl := Lib.hid htl'
        have hn' := Lib.hid hn
        have hi3 := Lib.hid hi3'
        have hxw := Lib.hid hxw'
        have htw := Lib.hid htw'
        have hbg := Lib.hid hbg'
        clear I hstep hsk hgl hB hc hk hlt hk4' h5' hb0' htl' hi3' hxw' htw' hbg'
        rw [visG_go, ← SK.len ys ls hskt, hm, ← hn] at hans
        have HA := Lib.hid hans
        clear hans hskt hn hm
        go_wp2_with fail
        refine cV.out.mono ?_; rintro e w1 ⟨rfl, h1, M1⟩
        clear x0 x1 x2 x3 x4 hc1
        obtain ⟨R, hR⟩ : ∃ R, (step s x n).2 = R := ⟨_, rfl⟩
        obtain ⟨s', hs'⟩ : ∃ s', (step s x n).1 = s' := ⟨_, rfl⟩
        rw [hs'] at h1
        rw [hR]
        have HA2 := HA.out
        rw [hs', hR] at HA2
        have M2 := Lib.hid (HI.out.mid.trans M1)
        have Q2 := Lib.hid (M1.q ha'.out HI.out.q)
        have hg1 : w1.heap[g]? = wr.heap[g]? := M1.block g HG.out.2 (.inr HG.out.1)
        cases R with
        | false =>
          rw [if_neg (by decide)] at HA2
          subst HA2
          have R : Hid ((∃ k, Has k s' w1) ∧ Mid a w.heap.size w w1) := ⟨⟨_, h1⟩, M2.out⟩
          clear h1 M1 hg1
          go_wp2_with fail
          (try simp only [Exit.inBlock, Exit.then]); refine bodyPost_ret (results_none rfl _ _ _) rfl ?_
          exact ⟨rfl, R.out⟩
        | true =>
          rw [if_pos rfl] at HA2
          have HA3 := Lib.hid HA2
          clear HA2
          have O1 := Lib.hid (HI.out.own.kept hg1)
          have S1 := Lib.hid (HI.out.sk.kept (g' := g) (w' := w1) (fun b hb hne hlt => ⟨hne, M1.block b hlt (.inr hb)⟩) M1.size)
          have C1 := Lib.hid (h5.out.kept (M1.block b (cell_lt h5.out.a) (hb0.out.imp (fun h => Nat.lt_of_lt_of_le h ha'.out) id)))
          have H1 := Lib.hid h1
          clear M1 hg1 h1
          have f1 := O1.out.frozen m
          have y1 := O1.out.at m (.slice (some ⟨b, o, none⟩) (t.length + 1) c) (by simp [HM.out])
          have x3' := C1.out.d
          have hp' := Lib.hid hp
          have hgb : b ≠ g := hbg.out
          obtain ⟨Y, hY, hYi⟩ : ∃ Y, Y = (if c = 1 then .slice (some ⟨b, o, none⟩) (p - 1) (c - 1) else .slice (some ⟨b, o + 5, none⟩) (p - 1) (c - 1)) ∧ Is Y t w0 := by
            refine ⟨_, rfl, ?_⟩
            split
            · rename_i h
              have := htl.out (some ⟨b, o, none⟩) (.inl h)
              rw [show p - 1 = t.length by omega]
              exact this
            · have := htl.out (some ⟨b, o + 5, none⟩) (.inr rfl)
              rw [show p - 1 = t.length by omega]
              exact this
          have T2 := Lib.hid hYi
          obtain ⟨w2, hw2⟩ : ∃ w2, w1.setCell ⟨g, m, none⟩ Y = w2 := ⟨_, rfl⟩
          have O2 : Hid (Ow 23 w.heap.size g cap (ys.reverse ++ [Y]) w2) := by
            have h := O1.out.set m Y
            rw [hw2] at h
            have e : ((Value.slice (some ⟨b, o, none⟩) (t.length + 1) c :: ys).reverse).set m Y = ys.reverse ++ [Y] := by
              rw [List.reverse_cons, List.set_append_right _ _ (by simp [HM.out])]
              simp [HM.out]
            rw [e] at h
            exact h
          have hbl : ∀ j, j ≠ g → w2.heap[j]? = w1.heap[j]? := fun j hj => by rw [← hw2]; exact Below.heap_setCell _ _ _ _ hj
          have hsz : w2.heap.size = w1.heap.size := by rw [← hw2]; simp [World.setCell]
          have x3 : w2.cell? ⟨b, o + 3, none⟩ = some (.slice A3 n3 k3) := (cell_block (a := ⟨b, o + 3, none⟩) (hbl b hgb)).trans x3'
          have W2 : Hid (Below w.heap.size w1 w2 ∧ (∀ j, j ≠ g → w2.heap[j]? = w1.heap[j]?) ∧ w2.heap.size = w1.heap.size) := by
            refine ⟨?_, hbl, hsz⟩
            rw [← hw2]
            exact Below.setCell (Below.refl _ _) HG.out.1 _
          clear hp hbl hsz hYi hgb x3'
          have hsz3 : Hid (w.heap.size ≤ (w2.alloc (.cells #[.slice A3 n3 k3] 23)).heap.size) := by
            have := O2.out.base
            show w.heap.size ≤ _
            simp
            omega
          have own3 : Hid (Ow 23 w.heap.size g cap (ys.reverse ++ [Y]) (w2.alloc (.cells #[.slice A3 n3 k3] 23))) := O2.out.kept (heap_alloc_old w2 _ O2.out.base.2)
          have news : Hid ((w2.alloc (.cells #[.slice A3 n3 k3] 23)).cell? ⟨w2.heap.size, 0, none⟩ = some (.slice A3 n3 k3)) := World.cell?_alloc_at (w := w2) #[.slice A3 n3 k3] 23 w2.heap.size 0 rfl
          by_cases hc1 : c = 1
          · rw [if_pos hc1] at hY
            subst hc1
            subst hY
            have hl2 : Hid (n = (ys.reverse ++ [Value.slice (some ⟨b, o, none⟩) (p - 1) 0]).length ∧ (ys.reverse ++ [Value.slice (some ⟨b, o, none⟩) (p - 1) 0]).length ≤ 1000000) := by
              have := hn'.out
              have := HM.out
              have := HI.out.few
              have := HK.out
              refine ⟨?_, ?_⟩
              · show n = _
                simp
                omega
              · simp
                omega
            clear hltz
            go_wp2_with (at_builtin; refine wpList_ow rfl _ _ rfl w.heap.size g n cap _ hl2.out.1 rfl own3.out ⟨w2.heap.size, 0, none⟩ rfl (.slice A3 n3 k3) news.out rfl hl2.out.2 hsz3.out ?_)
            intro g' cap' w3 O3 G3 hg3
            have NX := Lib.hid (VnI.next hK'.out HB.out HG.out.1 M2.out Q2.out H1.out S1.out.2 W2.out.1 W2.out.2.1 W2.out.2.2 (by simpa using O3) G3 (by simpa using hg3) hi3.out hxw.out T2.out htw.out hn'.out HM.out HI.out.few HA3.out)
            clear O3 G3 hg3 x3 y1 f1 hw2
            have hltz : (k : Int) < 262144 := by have := HK.out; omega
            clear hmk hcap
            go_wp2_with fail
            go_roundw
            case rel => exact ⟨k + 1, n + 1, g', cap', HK.out, by go_num, rfl, Lib.hid ⟨_, _, _, NX.out⟩⟩
            case measure =>
              have := HK.out
              simp [intOf]
              omega
          · rw [if_neg hc1] at hY
            have hcn : (c = 1) = False := by simp [hc1]
            subst hY
            clear hc1
            have hl2 : Hid (n = (ys.reverse ++ [Value.slice (some ⟨b, o + 5, none⟩) (p - 1) (c - 1)]).length ∧ (ys.reverse ++ [Value.slice (some ⟨b, o + 5, none⟩) (p - 1) (c - 1)]).length ≤ 1000000) := by
              have := hn'.out
              have := HM.out
              have := HI.out.few
              have := HK.out
              refine ⟨?_, ?_⟩
              · show n = _
                simp
                omega
              · simp
                omega
            clear hltz
            go_wp2_with (at_builtin; refine wpList_ow rfl _ _ rfl w.heap.size g n cap _ hl2.out.1 rfl own3.out ⟨w2.heap.size, 0, none⟩ rfl (.slice A3 n3 k3) news.out rfl hl2.out.2 hsz3.out ?_)
            intro g' cap' w3 O3 G3 hg3
            have NX := Lib.hid (VnI.next hK'.out HB.out HG.out.1 M2.out Q2.out H1.out S1.out.2 W2.out.1 W2.out.2.1 W2.out.2.2 (by simpa using O3) G3 (by simpa using hg3) hi3.out hxw.out T2.out htw.out hn'.out HM.out HI.out.few HA3.out)
            clear O3 G3 hg3 x3 y1 f1 hw2
            have hltz : (k : Int) < 262144 := by have := HK.out; omega
            clear hmk hcap
            go_wp2_with fail
            go_roundw
            case rel => exact ⟨k + 1, n + 1, g', cap', HK.out, by go_num, rfl, Lib.hid ⟨_, _, _, NX.out⟩⟩
            case measure =>
              have := HK.out
              simp [intOf]
              omega
    · obtain rfl : k = 262144 := by omega
      have hans := I.ans
      have : visG step (262144 - 262144) s ls = s := by rw [Nat.sub_self, visG]
      rw [this] at hans
      subst hans
      have R : Hid ((∃ k, Has k s wr) ∧ Mid a w.heap.size w wr) := ⟨⟨_, I.has⟩, I.mid⟩
      clear I
      go_wp2_with fail
      go_end0
      exact ⟨rfl, R.out⟩

end Go.Proofs.YtjmchjphdfbhiaaGreatDoor.val
