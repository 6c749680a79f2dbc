/- visitPairs: the visit of the entries of two values by a stack, for any closure. -/
import Derived.Test.YtjmchjphdfbhiaaGreatDoorVps
import Derived.Test.YtjmchjphdfbhiaaGreatDoorVno
namespace Go.Proofs.YtjmchjphdfbhiaaGreatDoor.val
open Go.RowKit
open Go.Proofs.YtjmchjphdfbhiaaGreatDoor
/-- What a closure does that is called for each pair of entries. -/
def VisitsP {S : Type} (step : S → En → En → S × Nat) (Has : Nat → S → World → Prop) (w0 : World) (a B : Nat) (g : Nat) (lb : Array Value) : Prop :=
  ∀ (i : Nat) (s : S) (x y : En) (A A' C C' : Option Addr) (n n' m m' c c' d d' : Nat) (w : World), i < 262144 → Q w0 w → Has i s w → B ≤ w.heap.size → n = x.1.length → n' = y.1.length → m = x.2.length → m' = y.2.length → n ≤ 1 → n' ≤ 1 → m ≤ 1 → m' ≤ 1 →
    Ka A x.1 w → Ka A' y.1 w → Ia C x.2 w → Ia C' y.2 w →
    Calls Tryz.prog g (#[.agg #[.slice A n c, .slice C m d], .agg #[.slice A' n' c', .slice C' m' d']] ++ lb) w fun e w' => e = .returned (.int .i64 (((step s x y).2 : Nat) : Int)) ∧ Has (i + 1) (step s x y).1 w' ∧ Mid a B w w'
theorem Bk.kept' {p : Nat} {cs : Array Value} {t : TypeId} {w w' : World} (h : Bk p cs t w) (e : w'.heap[p]? = w.heap[p]?) : Bk p cs t w' := e.trans h
theorem one_le {n k : Nat} (h : min (1 : Int) (n : Int) = (k : Int)) : k ≤ 1 := by omega
theorem emptyE_nil {e : En} (h : emptyE e = true) : e = ([], []) := by
  obtain ⟨a, b⟩ := e
  unfold emptyE at h
  simp only [Bool.and_eq_true, List.isEmpty_iff] at h
  rw [h.1, h.2]
theorem info_pair : (Tryz.prog.info? 90).map (fun i => (i.zero, i.size, i.bytes)) = some (some (.agg #[.slice none 0 0, .slice none 0 0, .slice none 0 0, .slice none 0 0]), 4, 96) := by kernel_rfl
/-- append of a pair to a slice of pairs that is the call's own, in a region that draws. -/
theorem step_op4 {w : World} {ops : Array Oper} {o : Oper} {a : Act} {K : Act → World → Prop} {Q' : Exit → Act → World → Prop} {E : Prop} (hgd : o.guard = none) (s x : Operand)
    (ho : o.op = .call { callee := .builtin .append, args := #[s, x], argTypes := #[91, 91] })
    (B g n cap : Nat) (qs : List Qd) (hn : n = qs.length) (hs : a.eval s = .slice (some ⟨g, 0, none⟩) n cap) (hown : Op4 90 B g cap qs w) (ad : Addr) (hx : a.eval x = .slice (some ad) 1 1)
    (q : Qd) (hnews : ∀ j u, (pcells [q])[j]? = some u → w.cell? (ad.add j) = some u) (h1 : ∀ u ∈ pcells [q], u.oneCell' = true) (hlim : qs.length ≤ 1000000) (hbase : B ≤ w.heap.size)
    (h : ∀ g' cap' w', Op4 90 B g' cap' (qs ++ [q]) w' → w.grownBy w' (some g) → (g' = g ∨ g' = w.heap.size) → K (a.put o.dst (.slice (some ⟨g', 0, none⟩) (n + 1) cap')) w') :
    if Region.wanted o (yielded ops a.tmps) = true then Oper.wp Tryz.prog o a w K Q' else E := by
  obtain ⟨i0, hi, hz0, hz1, hz2⟩ := info_parts info_pair
  subst hn
  refine step_append_lies _ hgd s x 91 ho B 90 i0 (.agg #[.slice none 0 0, .slice none 0 0, .slice none 0 0, .slice none 0 0]) 4 96 Tryz.underlying91 hi hz0 hz1 hz2 rfl (by decide) _ qs.length (pcells qs) hs hown ad 1 1 (pcells [q]) hx rfl hnews h1 (by decide) (by unfold maxLen; omega) (by omega) hbase w.heap.size rfl ?_
  intro g' cap' w' h2 h3 h4 _
  refine h g' cap' w' ?_ h3 ?_
  · unfold Op4
    rw [List.length_append, pcells_app]
    exact h2
  · rcases h4 with h4 | h4
    · simp only [Value.ownBlock, Option.some.injEq] at h4
      exact .inl h4.symm
    · exact .inr h4
/-- What the loop knows. -/
structure VpI {S : Type} (step : S → En → En → S × Nat) (Has : Nat → S → World → Prop) (w0 w : World) (a : Nat) (ANS : S) (k g n cap : Nat) (ys : List Qd) (ls : List (En × En)) (s : S) (wr : World) : Prop where
  len : ys.length = n
  own : Op4 90 w.heap.size g cap ys.reverse wr
  sk : SP w0 w.heap.size g ys ls wr
  has : Has k s wr
  q : Q w0 wr
  mid : Mid a w.heap.size w wr
  few : n ≤ k + 1
  ans : visP step (262144 - k) s ls = ANS

theorem VpI.moved {S : Type} {step : S → En → En → S × Nat} {Has : Nat → S → World → Prop} {w0 w wr w2 : World} {a : Nat} {ANS : S} {k g n cap : Nat} {ys : List Qd} {ls : List (En × En)} {s : S}
    (I : VpI step Has w0 w a ANS k g n cap ys ls s wr) (hK : ∀ k s w1 w2, Below w.heap.size w1 w2 → Has k s w1 → Has k s w2) (q : Q wr w2) : VpI step Has w0 w a ANS k g n cap ys ls s w2 := by
  have hb := I.own.base
  refine ⟨I.len, I.own.kept (q.block g hb.2), I.sk.kept (fun b _ hne hlt => ⟨hne, q.block b hlt⟩) q.size, hK _ _ _ _ (Below.mono q (by omega)) I.has, I.q.trans q, I.mid.trans (Mid.of q), I.few, I.ans⟩

theorem VpI.after {S : Type} {step : S → En → En → S × Nat} {Has : Nat → S → World → Prop} {w0 w wr w9 w10 : World} {a : Nat} {ANS : S} {k g n cap : Nat} {ys : List Qd} {ls : List (En × En)} {s : S}
    (I : VpI step Has w0 w a ANS k g n cap ys ls s wr) (M9 : Mv g wr w9) (MM : Mid a w.heap.size w9 w10) (ha : w0.heap.size ≤ a) (hg : w.heap.size ≤ g) (hB : w0.heap.size ≤ w.heap.size) :
    (∀ b, w.heap.size ≤ b → b ≠ g → b < wr.heap.size → w10.heap[b]? = wr.heap[b]?) ∧ wr.heap.size ≤ w10.heap.size ∧ Q w0 w10 ∧ Mid a w.heap.size w w10 := by
  have h1 := I.mid.size
  refine ⟨fun b hb hne hlt => (MM.block b (Nat.lt_of_lt_of_le hlt M9.size) (.inr hb)).trans (M9.block b hne hlt), Nat.le_trans M9.size MM.size, ?_, ?_⟩
  · refine MM.q ha ⟨M9.os.trans I.q.os, M9.tape.trans I.q.tape, M9.output.trans I.q.output, Nat.le_trans I.q.size M9.size, fun j hj => (M9.block j (by omega) (Nat.lt_of_lt_of_le hj I.q.size)).trans (I.q.block j hj)⟩
  · have h2 := M9.size
    exact ⟨MM.os.trans (M9.os.trans I.mid.os), MM.tape.trans (M9.tape.trans I.mid.tape), MM.output.trans (M9.output.trans I.mid.output), Nat.le_trans h1 (Nat.le_trans h2 MM.size), fun j hj hb => (MM.block j (by omega) hb).trans ((M9.block j (by omega) (by omega)).trans (I.mid.block j hj hb))⟩
theorem VpI.pass {S : Type} {step : S → En → En → S × Nat} {Has : Nat → S → World → Prop} {w0 w wr w10 : World} {a : Nat} {ANS : S} {k g n cap : Nat} {y y' : Qd} {ys : List Qd} {p p' : En × En} {ls : List (En × En)} {s s' : S}
    (I : VpI step Has w0 w a ANS k g n cap (y :: ys) (p :: ls) s wr) (hb : ∀ b, w.heap.size ≤ b → b ≠ g → b < wr.heap.size → w10.heap[b]? = wr.heap[b]?) (hs : wr.heap.size ≤ w10.heap.size) (q : Q w0 w10) (mi : Mid a w.heap.size w w10)
    (O : Op4 90 w.heap.size g cap (ys.reverse ++ [y']) w10) (hh : Has (k + 1) s' w10) (rp : RP w0 w.heap.size g y' p' w10) (ans : visP step (262144 - (k + 1)) s' (p' :: ls) = ANS) :
    VpI step Has w0 w a ANS (k + 1) g n cap (y' :: ys) (p' :: ls) s' w10 := by
  have h1 := I.len
  refine ⟨h1, by rw [List.reverse_cons]; exact O, ⟨rp, SP.kept (fun b h1 h2 h3 => ⟨h2, hb b h1 h2 h3⟩) hs ys ls I.sk.2⟩, hh, q, mi, by have := I.few; omega, ans⟩
theorem one_four (A6 A5 B6 B5 : Option Addr) (n6 c6 n5 c5 m6 e6 m5 e5 : Nat) : ∀ u ∈ pcells [((.slice A6 n6 c6, .slice A5 n5 c5, .slice B6 m6 e6, .slice B5 m5 e5) : Qd)], u.oneCell' = true := by
  intro u hu
  simp only [pcells, List.mem_cons, List.not_mem_nil, or_false] at hu
  rcases hu with rfl | rfl | rfl | rfl <;> rfl
theorem VpI.enter {S : Type} {step : S → En → En → S × Nat} {Has : Nat → S → World → Prop} {w0 w wr w10 W w13 : World} {a : Nat} {ANS : S} {k g g' n cap cap' : Nat} {y y' z : Qd} {ys : List Qd} {p p' p'' : En × En} {ls : List (En × En)} {s s' : S}
    (I : VpI step Has w0 w a ANS k g n cap (y :: ys) (p :: ls) s wr) (hK : ∀ k s w1 w2, Below w.heap.size w1 w2 → Has k s w1 → Has k s w2) (hg : w.heap.size ≤ g) (hB : w0.heap.size ≤ w.heap.size)
    (hb : ∀ b, w.heap.size ≤ b → b ≠ g → b < wr.heap.size → w10.heap[b]? = wr.heap[b]?) (hs : wr.heap.size ≤ w10.heap.size) (q : Q w0 w10) (mi : Mid a w.heap.size w w10) (hh : Has (k + 1) s' w10) (qW : Q w10 W)
    (O : Op4 90 w.heap.size g' cap' ((ys.reverse ++ [y']) ++ [z]) w13) (G : W.grownBy w13 (some g)) (hg' : g' = g ∨ g' = W.heap.size) (rp : RP w0 w.heap.size g y' p' w10) (rz : RP w0 w.heap.size g z p'' w10) (hgl : g < w10.heap.size)
    (ans : visP step (262144 - (k + 1)) s' (p'' :: p' :: ls) = ANS) :
    VpI step Has w0 w a ANS (k + 1) g' (n + 1) cap' (z :: y' :: ys) (p'' :: p' :: ls) s' w13 := by
  have h1 := I.len
  have h2 := qW.size
  have h3 := mi.size
  have h4 := G.size
  have key : ∀ j, j ≠ g → j < w10.heap.size → w13.heap[j]? = w10.heap[j]? := fun j hj hl => (G.block j (by omega) (by simp only [ne_eq, Option.some.injEq]; omega)).trans (qW.block j hl)
  have B3 : Below w.heap.size w10 w13 := ⟨G.os.trans qW.os, G.tape.trans qW.tape, G.output.trans qW.output, by omega, fun j hj => key j (by omega) (by omega)⟩
  have stk : ∀ b, w.heap.size ≤ b → b ≠ g → b < w10.heap.size → b ≠ g' ∧ w13.heap[b]? = w10.heap[b]? := fun b h1 h2 h3 => ⟨by omega, key b h2 h3⟩
  have rows : SP w0 w.heap.size g (z :: y' :: ys) (p'' :: p' :: ls) w10 := ⟨rz, rp, SP.kept (fun b h1 h2 h3 => ⟨h2, hb b h1 h2 h3⟩) hs ys ls I.sk.2⟩
  refine ⟨by have : (y :: ys).length = n := h1; simp at this ⊢; omega, ?_, SP.kept stk (by omega) _ _ rows, hK _ _ _ _ B3 hh, ?_, ?_, by have := I.few; omega, ans⟩
  · rw [List.reverse_cons, List.reverse_cons]
    exact O
  · exact ⟨B3.os.trans q.os, B3.tape.trans q.tape, B3.output.trans q.output, Nat.le_trans q.size B3.size, fun j hj => (B3.block j (Nat.lt_of_lt_of_le hj hB)).trans (q.block j hj)⟩
  · exact ⟨B3.os.trans mi.os, B3.tape.trans mi.tape, B3.output.trans mi.output, Nat.le_trans mi.size B3.size, fun j hj hc => (B3.block j hj).trans (mi.block j hj hc)⟩

set_option maxRecDepth 100000 in
set_option maxHeartbeats 16000000 in
theorem visitPairs_any {S : Type} (step : S → En → En → S × Nat) (Has : Nat → S → World → Prop) (w0 : World) (a : Nat) (ha : w0.heap.size ≤ a) (fg : Nat) (lb : Array Value) (s0 : S) (u v : V) (c3 c4 d3 d4 : Value) (w : World)
    (eg : ∀ args w, (callFunc fg args).run Tryz.prog w = .ok (.enter fg args) w) (hC : VisitsP step Has w0 a w.heap.size fg lb) (hK : ∀ k s w1 w2, Below w.heap.size w1 w2 → Has k s w1 → Has k s w2) (hM : ∀ k s w1, Has k s w1 → Has (k + 1) s w1)
    (hr : ∀ s x y, (step s x y).2 ≤ 2) (hq : Q w0 w) (h3 : Is c3 u.items w0) (h4 : Ks c4 u.keys w0) (hu : Wf u) (h5 : Is d3 v.items w0) (h6 : Ks d4 v.keys w0) (hv : Wf v) (hs : Has 0 s0 w) :
    Calls Tryz.prog 58 #[.agg #[.int .i64 u.kind, .int .i64 u.num, .string u.str, c3, c4], .agg #[.int .i64 v.kind, .int .i64 v.num, .string v.str, d3, d4], .func (.func fg) #[] lb] w fun e w' => e = .returned (.tuple #[]) ∧ (∃ k, Has k (visP step 262144 s0 [(([], [u]), ([], [v]))]) w') ∧ Mid a w.heap.size w w' := by
  obtain ⟨ANS, hANS⟩ : ∃ A, visP step 262144 s0 [(([], [u]), ([], [v]))] = A := ⟨_, rfl⟩
  rw [hANS]
  have hB := hq.size
  obtain ⟨A3, k3, rfl, -⟩ := h3.shape
  obtain ⟨A4, k4, rfl, -⟩ := h4.shape
  obtain ⟨C3, l3, rfl, -⟩ := h5.shape
  obtain ⟨C4, l4, rfl, -⟩ := h6.shape
  have hC' := Lib.hid hC
  have hK' := Lib.hid hK
  have hM' := Lib.hid hM
  have ha' := Lib.hid ha
  have H3 := Lib.hid h3
  have H4 := Lib.hid h4
  have H5 := Lib.hid h5
  have H6 := Lib.hid h6
  have HU := Lib.hid hu
  have HV := Lib.hid hv
  have HQ := Lib.hid hq
  have HS := Lib.hid hs
  have HR := Lib.hid hr
  have HA := Lib.hid hANS
  clear hC hK hM hr ha hq h3 h4 h5 h6 hu hv hs hANS
  have H0 : Hid (VpI step Has w0 w a ANS 0 (w.heap.size + 1 + 1 + 1 + 1) 1 1 [(.slice none 0 0, .slice (some ⟨w.heap.size + 1 + 1, 0, none⟩) 1 1, .slice none 0 0, .slice (some ⟨w.heap.size + 1 + 1 + 1, 0, none⟩) 1 1)] [(([], [u]), ([], [v]))] s0 (((((w.alloc (.cells #[.int .i64 u.kind, .int .i64 u.num, .string u.str, .slice A3 u.items.length k3, .slice A4 u.keys.length k4] 26)).alloc (.cells #[.int .i64 v.kind, .int .i64 v.num, .string v.str, .slice C3 v.items.length l3, .slice C4 v.keys.length l4] 26)).alloc (.cells #[.int .i64 u.kind, .int .i64 u.num, .string u.str, .slice A3 u.items.length k3, .slice A4 u.keys.length k4] 26)).alloc (.cells #[.int .i64 v.kind, .int .i64 v.num, .string v.str, .slice C3 v.items.length l3, .slice C4 v.keys.length l4] 26)).alloc (.cells #[.slice none 0 0, .slice (some ⟨w.heap.size + 1 + 1, 0, none⟩) 1 1, .slice none 0 0, .slice (some ⟨w.heap.size + 1 + 1 + 1, 0, none⟩) 1 1] 90))) := by
    have hx := (((((Q.box w (.cells #[.int .i64 u.kind, .int .i64 u.num, .string u.str, .slice A3 u.items.length k3, .slice A4 u.keys.length k4] 26)).trans (Q.box _ (.cells #[.int .i64 v.kind, .int .i64 v.num, .string v.str, .slice C3 v.items.length l3, .slice C4 v.keys.length l4] 26))).trans (Q.box _ (.cells #[.int .i64 u.kind, .int .i64 u.num, .string u.str, .slice A3 u.items.length k3, .slice A4 u.keys.length k4] 26))).trans (Q.box _ (.cells #[.int .i64 v.kind, .int .i64 v.num, .string v.str, .slice C3 v.items.length l3, .slice C4 v.keys.length l4] 26))).trans (Q.box _ (.cells #[.slice none 0 0, .slice (some ⟨w.heap.size + 1 + 1, 0, none⟩) 1 1, .slice none 0 0, .slice (some ⟨w.heap.size + 1 + 1 + 1, 0, none⟩) 1 1] 90)))
    have hB := hB
    refine ⟨rfl, ?_, ⟨⟨Ks.nil _ _ _, ⟨(WfL_cons _ _).2 ⟨HU.out, WfL_nil⟩, .inr ⟨w.heap.size + 1 + 1, u, .slice A3 u.items.length k3, .slice A4 u.keys.length k4, rfl, rfl, by omega, by omega, by simp only [size_alloc]; omega, ?_, H3.out, H4.out⟩⟩, Ks.nil _ _ _, ⟨(WfL_cons _ _).2 ⟨HV.out, WfL_nil⟩, .inr ⟨w.heap.size + 1 + 1 + 1, v, .slice C3 v.items.length l3, .slice C4 v.keys.length l4, rfl, rfl, by omega, by omega, by simp only [size_alloc]; omega, ?_, H5.out, H6.out⟩⟩⟩, trivial⟩, hK'.out _ _ _ _ hx HS.out, Q.trans HQ.out hx, Mid.of hx, by omega, HA.out⟩
    · have h := World.ownsRow_lit (base := w.heap.size) (e := 90) (size := 4) ((((w.alloc (.cells #[.int .i64 u.kind, .int .i64 u.num, .string u.str, .slice A3 u.items.length k3, .slice A4 u.keys.length k4] 26)).alloc (.cells #[.int .i64 v.kind, .int .i64 v.num, .string v.str, .slice C3 v.items.length l3, .slice C4 v.keys.length l4] 26)).alloc (.cells #[.int .i64 u.kind, .int .i64 u.num, .string u.str, .slice A3 u.items.length k3, .slice A4 u.keys.length k4] 26)).alloc (.cells #[.int .i64 v.kind, .int .i64 v.num, .string v.str, .slice C3 v.items.length l3, .slice C4 v.keys.length l4] 26)) #[.slice none 0 0, .slice (some ⟨w.heap.size + 1 + 1, 0, none⟩) 1 1, .slice none 0 0, .slice (some ⟨w.heap.size + 1 + 1 + 1, 0, none⟩) 1 1] 1 (by simp only [size_alloc]; omega) (by decide) rfl
      simp only [size_alloc] at h
      exact h
    · exact ((C5.made _ _ _ _ _ _ _ _ (by simp only [size_alloc])).past _).past _
    · exact (C5.made _ _ _ _ _ _ _ _ (by simp only [size_alloc])).past _
  clear H3 H4 H5 H6 HU HV HQ HS HA
  go_enter Tryz.func58, Tryz.ntmps58
  go_wp2_with fail
  go_loopw [6, 18] (fun op i wr => ∃ k n g cap : Nat, k ≤ 262144 ∧ i = .int .i64 k ∧ op = .slice (some ⟨g, 0, none⟩) n cap ∧ Hid (∃ ys ls s, VpI step Has w0 w a ANS k g n cap ys ls s wr)) (fun _ i _ => 262144 - (intOf i).toNat)
  case atStart => exact ⟨0, 1, _, 1, by omega, rfl, rfl, Lib.hid ⟨_, _, _, H0.out⟩⟩
  case round =>
    obtain ⟨k, n, g, cap, hk, rfl, rfl, hI⟩ := hrel
    obtain ⟨ys, ls, s, I⟩ := hI.out
    clear hI H0
    have hgl : w.heap.size ≤ g ∧ g < wr.heap.size := I.own.base
    by_cases hlt : k < 262144
    · have hltz : (k : Int) < 262144 := by omega
      have hstep : visP step (262144 - k) s ls = visP step (262144 - (k + 1) + 1) s ls := by rw [show 262144 - k = 262144 - (k + 1) + 1 by omega]
      have hans := I.ans
      rw [hstep] at hans
      have hsk := I.sk
      rcases ys with _ | ⟨y, ys⟩
      · rcases ls with _ | ⟨l, ls⟩
        rotate_left 1
        · exact hsk.elim
        obtain rfl : n = 0 := I.len.symm
        rw [visP_none] at hans
        subst hans
        have R : Hid ((∃ k, Has k s wr) ∧ Mid a w.heap.size w wr) := ⟨⟨_, I.has⟩, I.mid⟩
        clear I hstep
        go_wp2_with fail
        (try simp only [Exit.inBlock, Exit.then]); refine bodyPost_ret (results_none rfl _ _ _) rfl ?_
        exact ⟨rfl, R.out⟩
      rcases ls with _ | ⟨⟨ea, eb⟩, ls⟩
      · exact hsk.elim
      obtain ⟨m, hn⟩ : ∃ m, n = m + 1 := ⟨ys.length, I.len.symm⟩
      have hm : ys.length = m := by have := I.len; simp at this; omega
      have hn1 : (n : Int) - 1 = (m : Int) := by omega
      obtain ⟨ka, ia, kb, ib⟩ := y
      obtain ⟨⟨r1, r2, r3, r4⟩, hskt⟩ := hsk
      obtain ⟨A3', A4', A5, A6, na, ca, ma, da, ja, pa, n5, c5, n6, c6, EA⟩ := entry_facts I.q hB hgl.1 r1 r2
      obtain ⟨B3', B4', B5, B6, nb, cb, mb, db, jb, pb, m5, e5, m6, e6, EB⟩ := entry_facts I.q hB hgl.1 r3 r4
      obtain rfl := EA.ek
      obtain rfl := EA.ei
      obtain rfl := EB.ek
      obtain rfl := EB.ei
      clear r1 r2 r3 r4
      have htop := I.own
      rw [List.reverse_cons] at htop
      have hcap : (m : Int) ≤ (cap : Int) := by have := htop.cap; simp at this; omega
      obtain ⟨x0, x1, x2, x3⟩ := htop.top m (by simp [hm])
      simp only at x0 x1 x2 x3
      have hmk : (m : Int) ≤ 262144 := by have := I.few; omega
      have hz : ((n : Int) == 0) = false := by rw [beq_eq_false_iff_ne]; omega
      have HI := Lib.hid I
      have HG := Lib.hid hgl
      have HM := Lib.hid hm
      have HB := Lib.hid hB
      have HK := Lib.hid hlt
      have HN := Lib.hid hn
      have HE := Lib.hid hans
      have HT := Lib.hid hskt
      have HO := Lib.hid htop
      have EA' := Lib.hid EA
      have EB' := Lib.hid EB
      have cA := Lib.hid (fun w' => isEmpty_any A3' A4' na ma ca da w')
      have cB := Lib.hid (fun w' => isEmpty_any B3' B4' nb mb cb db w')
      rw [EA.empty] at cA
      rw [EB.empty] at cB
      clear I hstep hgl hB hk hlt hn hm hans hskt htop EA EB
      cases hea : emptyE ea with
      | true =>
        rw [hea] at cA
        cases heb : emptyE eb with
        | true =>
          rw [heb] at cB
          have HE2 : Hid (visP step (262144 - (k + 1)) s ls = ANS) := by
            have h := HE.out
            have e1 : ea = ([], []) := emptyE_nil hea
            have e2 : eb = ([], []) := emptyE_nil heb
            rw [e1, e2, visP_pop] at h
            exact h
          go_wp2_with fail
          refine (cA.out _).mono ?_; rintro e w1 ⟨rfl, q1⟩
          have y2 := cell_stays q1 x2
          have y3 := cell_stays q1 x3
          have Q1 := Lib.hid q1
          clear x0 x1 x2 x3 q1
          go_wp2_with fail
          refine (cB.out _).mono ?_; rintro e w2 ⟨rfl, q2⟩
          have I2 := Lib.hid (HI.out.moved hK'.out (Q1.out.trans q2))
          clear y2 y3 q2
          go_wp2_with fail
          go_roundw
          case rel =>
            have I := I2.out
            have hlt := HK.out
            refine ⟨k + 1, m, g, cap, by omega, by go_num, rfl, Lib.hid ⟨ys, ls, s, ⟨HM.out, ?_, I.sk.2, hM'.out _ _ _ I.has, I.q, I.mid, by have := I.few; have := HN.out; omega, HE2.out⟩⟩⟩
            have h := I.own
            rw [List.reverse_cons] at h
            exact h.drop
          case measure =>
            have hlt := HK.out
            simp [intOf]
            omega
        | false =>
          rw [heb] at cB
          go_wp2_with fail
          refine (cA.out _).mono ?_; rintro e w1 ⟨rfl, q1⟩
          have y2 := cell_stays q1 x2
          have y3 := cell_stays q1 x3
          have Q1 := Lib.hid q1
          clear x0 x1 x2 x3 q1
          go_wp2_with fail
          refine (cB.out _).mono ?_; rintro e w2 ⟨rfl, q2⟩
          have Q2 := Lib.hid (Q1.out.trans q2)
          clear y2 y3 q2
          have hne : Hid ((emptyE ea && emptyE eb) = false) := by show _ = _; rw [heb, Bool.and_false]
          have I2 := Lib.hid (HI.out.moved hK'.out Q2.out)
          have O2 := Lib.hid (HO.out.kept (Q2.out.block g HG.out.2))
          have cCA := fun w' => cut_any A3' A4' na ma ca da ja pa w' EA'.out.hk EA'.out.hj EA'.out.hkn EA'.out.hjm EA'.out.hkc EA'.out.hjc
          have cCB := fun w' => cut_any B3' B4' nb mb cb db jb pb w' EB'.out.hk EB'.out.hj EB'.out.hkn EB'.out.hjm EB'.out.hkc EB'.out.hjc
          have rKA := EA'.out.restK
          have rIA := EA'.out.restI
          have rKB := EB'.out.restK
          have rIB := EB'.out.restI
          generalize restAt A3' ca ja 1 = Ra0 at cCA rKA
          generalize na - ja = ra0 at cCA rKA
          generalize ca - ja = rc0 at cCA rKA
          generalize restAt A4' da pa 5 = Ra1 at cCA rIA
          generalize ma - pa = ra1 at cCA rIA
          generalize da - pa = rc1 at cCA rIA
          generalize restAt B3' cb jb 1 = Rb0 at cCB rKB
          generalize nb - jb = rb0 at cCB rKB
          generalize cb - jb = rd0 at cCB rKB
          generalize restAt B4' db pb 5 = Rb1 at cCB rIB
          generalize mb - pb = rb1 at cCB rIB
          generalize db - pb = rd1 at cCB rIB
          have RKA := Lib.hid rKA
          have RIA := Lib.hid rIA
          have RKB := Lib.hid rKB
          have RIB := Lib.hid rIB
          have CCA := Lib.hid cCA
          have CCB := Lib.hid cCB
          clear rKA rIA rKB rIB cCA cCB
          obtain ⟨P, hP⟩ : ∃ P, w2.heap.size = P := ⟨_, rfl⟩
          obtain ⟨w3, hw3⟩ : ∃ w3, (w2.alloc (.cells #[.slice none 0 0, .slice none 0 0] 70)).alloc (.cells #[.slice none 0 0, .slice none 0 0] 70) = w3 := ⟨_, rfl⟩
          have q3 : Q w2 w3 := by rw [← hw3]; exact two_box _ _ _
          have bx : Bk P #[.slice none 0 0, .slice none 0 0] 70 w3 := by rw [← hw3, ← hP]; exact (Bk.new _ _ _).stays (Q.box _ _)
          have by' : Bk (P + 1) #[.slice none 0 0, .slice none 0 0] 70 w3 := by rw [← hw3, ← hP, ← size_alloc w2 (.cells #[.slice none 0 0, .slice none 0 0] 70)]; exact Bk.new _ _ _
          have hgP : g < P := by have := O2.out.base.2; omega
          have hwP : Hid (wr.heap.size ≤ P ∧ g < P ∧ w.heap.size ≤ g) := ⟨by have := Q2.out.size; omega, hgP, HG.out.1⟩
          have O3 := O2.out.kept (q3.block g O2.out.base.2)
          obtain ⟨x0, x1, x2, x3⟩ := O3.top m (by simp [HM.out])
          simp only at x0 x1 x2 x3
          have BX3 := Lib.hid bx
          have BY3 := Lib.hid by'
          have O3 := Lib.hid O3
          have M3 : Hid (Mv g wr w3) := (Mv.of Q2.out).q q3
          clear q3 bx by' hgP
          go_wp2_with fail
          refine (CCA.out _).mono ?_; rintro e w4 ⟨rfl, q4⟩
          clear x0 x1 x2 x3 hw3
          have bx := BX3.out.stays q4
          have by' := BY3.out.stays q4
          have O4 := O3.out.kept (q4.block g O3.out.base.2)
          have n1 : g ≠ P := by have := hwP.out; omega
          have n2 : P + 1 ≠ P := by omega
          have n3 : g ≠ P + 1 := by have := hwP.out; omega
          obtain ⟨s1, hs1⟩ : ∃ z, w4.setCell ⟨P, 0, none⟩ (.slice A3' ja ca) = z := ⟨_, rfl⟩
          obtain ⟨w5, hw5⟩ : ∃ z, s1.setCell ⟨P, 1, none⟩ (.slice A4' pa da) = z := ⟨_, rfl⟩
          obtain ⟨s2, hs2⟩ : ∃ z, w5.setCell ⟨g, m * 4, none⟩ (.slice Ra0 ra0 rc0) = z := ⟨_, rfl⟩
          obtain ⟨w6, hw6⟩ : ∃ z, s2.setCell ⟨g, m * 4 + 1, none⟩ (.slice Ra1 ra1 rc1) = z := ⟨_, rfl⟩
          have bx1 := bx.set 0 (.slice A3' ja ca)
          rw [hs1] at bx1
          have bx5 := bx1.set 1 (.slice A4' pa da)
          rw [hw5] at bx5
          have y0 := bx.at 0 _ rfl
          have f0 := bx.frozen 0
          have y1 := bx1.at 1 (.slice none 0 0) rfl
          have f1 := bx1.frozen 1
          have o1 := O4.kept (Below.heap_setCell w4 ⟨P, 0, none⟩ (.slice A3' ja ca) g n1)
          rw [hs1] at o1
          have o5 := o1.kept (Below.heap_setCell s1 ⟨P, 1, none⟩ (.slice A4' pa da) g n1)
          rw [hw5] at o5
          obtain ⟨t0, t1, -, -⟩ := o5.top m (by simp [HM.out])
          simp only at t0 t1
          have g0 := o5.frozen (m * 4)
          have o2 := (o5.set m (by simp [HM.out]) (.slice Ra0 ra0 rc0)).1
          rw [hs2] at o2
          obtain ⟨-, t2, -, -⟩ := o2.top m (by simp [HM.out])
          simp only at t2
          have g1 := o2.frozen (m * 4 + 1)
          have o6 := (o2.set m (by simp [HM.out]) (.slice Ra1 ra1 rc1)).2.1
          rw [hw6] at o6
          have by1 := by'.other n2 0 (.slice A3' ja ca)
          rw [hs1] at by1
          have by5 := by1.other n2 1 (.slice A4' pa da)
          rw [hw5] at by5
          have by2 := by5.other n3.symm (m * 4) (.slice Ra0 ra0 rc0)
          rw [hs2] at by2
          have by6 := by2.other n3.symm (m * 4 + 1) (.slice Ra1 ra1 rc1)
          rw [hw6] at by6
          have bx2 := bx5.other n1.symm (m * 4) (.slice Ra0 ra0 rc0)
          rw [hs2] at bx2
          have bx6 := bx2.other n1.symm (m * 4 + 1) (.slice Ra1 ra1 rc1)
          rw [hw6] at bx6
          have m1 := (M3.out.q q4).set (p := P) (.inr hwP.out.1) 0 (.slice A3' ja ca)
          rw [hs1] at m1
          have m5 := m1.set (p := P) (.inr hwP.out.1) 1 (.slice A4' pa da)
          rw [hw5] at m5
          have m2 := m5.set (p := g) (.inl rfl) (m * 4) (.slice Ra0 ra0 rc0)
          rw [hs2] at m2
          have m6 := m2.set (p := g) (.inl rfl) (m * 4 + 1) (.slice Ra1 ra1 rc1)
          rw [hw6] at m6
          obtain ⟨-, -, z2, z3⟩ := o6.top m (by simp [HM.out])
          simp only at z2 z3
          have O6 := Lib.hid o6
          have BX6 := Lib.hid bx6
          have BY6 := Lib.hid by6
          have M6 := Lib.hid m6
          clear q4 bx by' O4 n1 n3 n2 bx1 bx5 o1 o5 o2 o6 by1 by5 by2 by6 bx2 bx6 m1 m5 m2 m6
          go_wp2_with fail
          refine (CCB.out _).mono ?_; rintro e w7 ⟨rfl, q7⟩
          clear z2 z3 hs1 hw5 hs2 hw6 y0 f0 y1 f1 t0 t1 g0 t2 g1
          have bx := BX6.out.stays q7
          have by' := BY6.out.stays q7
          have O7 := O6.out.kept (q7.block g O6.out.base.2)
          have n1 : g ≠ P := by have := hwP.out; omega
          have n2 : P ≠ P + 1 := by omega
          have n3 : g ≠ P + 1 := by have := hwP.out; omega
          obtain ⟨s1, hs1⟩ : ∃ z, w7.setCell ⟨P + 1, 0, none⟩ (.slice B3' jb cb) = z := ⟨_, rfl⟩
          obtain ⟨w8, hw8⟩ : ∃ z, s1.setCell ⟨P + 1, 1, none⟩ (.slice B4' pb db) = z := ⟨_, rfl⟩
          obtain ⟨s2, hs2⟩ : ∃ z, w8.setCell ⟨g, m * 4 + 2, none⟩ (.slice Rb0 rb0 rd0) = z := ⟨_, rfl⟩
          obtain ⟨w9, hw9⟩ : ∃ z, s2.setCell ⟨g, m * 4 + 2 + 1, none⟩ (.slice Rb1 rb1 rd1) = z := ⟨_, rfl⟩
          have by1 := by'.set 0 (.slice B3' jb cb)
          rw [hs1] at by1
          have by8 := by1.set 1 (.slice B4' pb db)
          rw [hw8] at by8
          have y0 := by'.at 0 _ rfl
          have f0 := by'.frozen 0
          have y1 := by1.at 1 (.slice none 0 0) rfl
          have f1 := by1.frozen 1
          have o1 := O7.kept (Below.heap_setCell w7 ⟨P + 1, 0, none⟩ (.slice B3' jb cb) g n3)
          rw [hs1] at o1
          have o8 := o1.kept (Below.heap_setCell s1 ⟨P + 1, 1, none⟩ (.slice B4' pb db) g n3)
          rw [hw8] at o8
          obtain ⟨-, -, t0, t1⟩ := o8.top m (by simp [HM.out])
          simp only at t0 t1
          have g0 := o8.frozen (m * 4 + 2)
          have o2 := (o8.set m (by simp [HM.out]) (.slice Rb0 rb0 rd0)).2.2.1
          rw [hs2] at o2
          obtain ⟨-, -, -, t2⟩ := o2.top m (by simp [HM.out])
          simp only at t2
          have g1 := o2.frozen (m * 4 + 3)
          have o9 := (o2.set m (by simp [HM.out]) (.slice Rb1 rb1 rd1)).2.2.2
          rw [show m * 4 + 3 = m * 4 + 2 + 1 from rfl, hw9] at o9
          have bx1 := bx.other n2 0 (.slice B3' jb cb)
          rw [hs1] at bx1
          have bx8 := bx1.other n2 1 (.slice B4' pb db)
          rw [hw8] at bx8
          have bx2 := bx8.other n1.symm (m * 4 + 2) (.slice Rb0 rb0 rd0)
          rw [hs2] at bx2
          have bx9 := bx2.other n1.symm (m * 4 + 2 + 1) (.slice Rb1 rb1 rd1)
          rw [hw9] at bx9
          have by2 := by8.other n3.symm (m * 4 + 2) (.slice Rb0 rb0 rd0)
          rw [hs2] at by2
          have by9 := by2.other n3.symm (m * 4 + 2 + 1) (.slice Rb1 rb1 rd1)
          rw [hw9] at by9
          have m1 := (M6.out.q q7).set (p := P + 1) (.inr (Nat.le_succ_of_le hwP.out.1)) 0 (.slice B3' jb cb)
          rw [hs1] at m1
          have m8 := m1.set (p := P + 1) (.inr (Nat.le_succ_of_le hwP.out.1)) 1 (.slice B4' pb db)
          rw [hw8] at m8
          have m2 := m8.set (p := g) (.inl rfl) (m * 4 + 2) (.slice Rb0 rb0 rd0)
          rw [hs2] at m2
          have m9 := m2.set (p := g) (.inl rfl) (m * 4 + 2 + 1) (.slice Rb1 rb1 rd1)
          rw [hw9] at m9
          have v0 := bx9.at 0 _ rfl
          have v1 := bx9.at 1 _ rfl
          have v2 := by9.at 0 _ rfl
          have v3 := by9.at 1 _ rfl
          have O9 := Lib.hid o9
          have BX9 := Lib.hid bx9
          have BY9 := Lib.hid by9
          have M9 := Lib.hid m9
          have B9 := Lib.hid (m9.below HG.out.1 HI.out.mid.size)
          have Q9 : Hid (Q w0 w9) := ⟨m9.os.trans HI.out.q.os, m9.tape.trans HI.out.q.tape, m9.output.trans HI.out.q.output, Nat.le_trans HI.out.q.size m9.size, fun j hj => (m9.block j (by have := HB.out; have := HG.out; omega) (Nat.lt_of_lt_of_le hj HI.out.q.size)).trans (HI.out.q.block j hj)⟩
          have KA := EA'.out.ka w9 (m9.but _ _)
          have KB := EB'.out.ka w9 (m9.but _ _)
          have cV := Lib.hid (hC'.out k s (headE ea) (headE eb) A3' B3' A4' B4' ja jb pa pb ca cb da db w9 HK.out Q9.out (hK'.out _ _ _ _ B9.out HI.out.has) (Nat.le_trans HI.out.mid.size m9.size) EA'.out.lk EB'.out.lk EA'.out.lj EB'.out.lj (one_le EA'.out.hk) (one_le EB'.out.hk) (one_le EA'.out.hj) (one_le EB'.out.hj) KA.1 KB.1 KA.2.1 KB.2.1)
          clear q7 bx by' O7 n1 n3 n2 bx1 bx8 o1 o8 o2 o9 by1 by8 by2 by9 bx2 bx9 m1 m8 m2 m9 KA KB
          go_wp2_with fail
          refine cV.out.mono ?_; rintro e w10 ⟨rfl, h1, MM⟩
          clear y0 f0 y1 f1 t0 t1 g0 t2 g1 v0 v1 v2 v3 hs1 hw8 hs2 hw9
          obtain ⟨s', hs'⟩ : ∃ z, (step s (headE ea) (headE eb)).1 = z := ⟨_, rfl⟩
          obtain ⟨R, hR⟩ : ∃ z, (step s (headE ea) (headE eb)).2 = z := ⟨_, rfl⟩
          have hst : Hid (step s (headE ea) (headE eb) = (s', R)) := by show _ = _; rw [← hs', ← hR]
          have hR2 : R ≤ 2 := by rw [← hR]; exact HR.out _ _ _
          rw [hs'] at h1
          rw [hR]
          have AF := Lib.hid (HI.out.after M9.out MM ha'.out HG.out.1 HB.out)
          have H1 := Lib.hid h1
          have O10 := Lib.hid (O9.out.kept (MM.block g O9.out.base.2 (.inr HG.out.1)))
          have BX10 := Lib.hid (BX9.out.kept' (MM.block P BX9.out.lt (.inr (by have := hwP.out; omega))))
          have BY10 := Lib.hid (BY9.out.kept' (MM.block (P + 1) BY9.out.lt (.inr (by have := hwP.out; omega))))
          have AB : Hid (But w0 w.heap.size g wr w10) := fun j h1 h2 h3 => (MM.block j (Nat.lt_of_lt_of_le h2 M9.out.size) (h3.imp (fun h => Nat.lt_of_lt_of_le h ha'.out) id)).trans (M9.out.block j h1 h2)
          clear h1 MM hs' hR
          have hRc : R = 0 ∨ R = 1 ∨ R = 2 := by omega
          clear hR2
          rcases hRc with rfl | rfl | rfl
          · have hb10 : But w0 w.heap.size g wr w10 := AB.out
            have cIA : Hid (∀ w', Hid (Q w10 w') → Calls Tryz.prog 86 #[.agg #[.slice A3' ja ca, .slice A4' pa da]] w' fun e w'' => e = .returned (.agg #[.slice A6 n6 c6, .slice A5 n5 c5]) ∧ Hid (Q w10 w'')) := Lib.hid (fun w' q => ((EA'.out.ka w' (hb10.q AF.out.2.1 q.out)).2.2).mono fun _ _ ⟨he, hq⟩ => ⟨he, Lib.hid (q.out.trans hq)⟩)
            have cIB : Hid (∀ w', Hid (Q w10 w') → Calls Tryz.prog 86 #[.agg #[.slice B3' jb cb, .slice B4' pb db]] w' fun e w'' => e = .returned (.agg #[.slice B6 m6 e6, .slice B5 m5 e5]) ∧ Hid (Q w10 w'')) := Lib.hid (fun w' q => ((EB'.out.ka w' (hb10.q AF.out.2.1 q.out)).2.2).mono fun _ _ ⟨he, hq⟩ => ⟨he, Lib.hid (q.out.trans hq)⟩)
            clear hb10
            have hq0 : Hid (Q w10 w10.drew) := Lib.hid ((Below.refl _ _).drew)
            have sees : Hid (∀ w', Hid (Q w10 w') → w'.cell? ⟨P, 0, none⟩ = some (.slice A3' ja ca) ∧ w'.cell? ⟨P, 1, none⟩ = some (.slice A4' pa da) ∧ w'.cell? ⟨P + 1, 0, none⟩ = some (.slice B3' jb cb) ∧ w'.cell? ⟨P + 1, 1, none⟩ = some (.slice B4' pb db)) := Lib.hid (fun w' q => by
              have x := BX10.out.stays q.out
              have y := BY10.out.stays q.out
              exact ⟨x.at 0 _ rfl, x.at 1 _ rfl, y.at 0 _ rfl, y.at 1 _ rfl⟩)
            have OWN : Hid (∀ W, Hid (Q w10 W) → Op4 90 w.heap.size g cap (ys.reverse ++ [(.slice Ra0 ra0 rc0, .slice Ra1 ra1 rc1, .slice Rb0 rb0 rd0, .slice Rb1 rb1 rd1)]) (W.alloc (.cells #[.slice A6 n6 c6, .slice A5 n5 c5, .slice B6 m6 e6, .slice B5 m5 e5] 90))) := Lib.hid (fun W q => O10.out.kept ((q.out.trans (Q.box _ _)).block g O10.out.base.2))
            have BAS : Hid (∀ W, Hid (Q w10 W) → w.heap.size ≤ (W.alloc (.cells #[.slice A6 n6 c6, .slice A5 n5 c5, .slice B6 m6 e6, .slice B5 m5 e5] 90)).heap.size) := Lib.hid (fun W q => by
              have h1 := (q.out.trans (Q.box W (.cells #[.slice A6 n6 c6, .slice A5 n5 c5, .slice B6 m6 e6, .slice B5 m5 e5] 90))).size
              have h2 := AF.out.2.2.2.size
              omega)
            have GRO : Hid (∀ W, Hid (Q w10 W) → ∀ w13, (W.alloc (.cells #[.slice A6 n6 c6, .slice A5 n5 c5, .slice B6 m6 e6, .slice B5 m5 e5] 90)).grownBy w13 (some g) → w13.cell? ⟨P, 0, none⟩ = some (.slice A3' ja ca) ∧ w13.cell? ⟨P, 1, none⟩ = some (.slice A4' pa da) ∧ w13.cell? ⟨P + 1, 0, none⟩ = some (.slice B3' jb cb) ∧ w13.cell? ⟨P + 1, 1, none⟩ = some (.slice B4' pb db)) := Lib.hid (fun W q w13 G => by
              have x := BX10.out.stays (q.out.trans (Q.box W (.cells #[.slice A6 n6 c6, .slice A5 n5 c5, .slice B6 m6 e6, .slice B5 m5 e5] 90)))
              have y := BY10.out.stays (q.out.trans (Q.box W (.cells #[.slice A6 n6 c6, .slice A5 n5 c5, .slice B6 m6 e6, .slice B5 m5 e5] 90)))
              have x' := x.kept' (G.block P x.lt (by have := hwP.out; simp only [ne_eq, Option.some.injEq]; omega))
              have y' := y.kept' (G.block (P + 1) y.lt (by have := hwP.out; simp only [ne_eq, Option.some.injEq]; omega))
              exact ⟨x'.at 0 _ rfl, x'.at 1 _ rfl, y'.at 0 _ rfl, y'.at 1 _ rfl⟩)
            have hl2 : Hid (n = (ys.reverse ++ [((.slice Ra0 ra0 rc0, .slice Ra1 ra1 rc1, .slice Rb0 rb0 rd0, .slice Rb1 rb1 rd1) : Qd)]).length ∧ (ys.reverse ++ [((.slice Ra0 ra0 rc0, .slice Ra1 ra1 rc1, .slice Rb0 rb0 rd0, .slice Rb1 rb1 rd1) : Qd)]).length ≤ 1000000) := by
              have e1 : (ys.reverse ++ [((.slice Ra0 ra0 rc0, .slice Ra1 ra1 rc1, .slice Rb0 rb0 rd0, .slice Rb1 rb1 rd1) : Qd)]).length = ys.length + 1 := by simp
              have := HN.out
              have := HM.out
              have := HI.out.few
              have := HK.out
              exact ⟨by omega, by omega⟩
            have FINI : Hid (∀ W, Hid (Q w10 W) → ∀ g' cap' w13, Op4 90 w.heap.size g' cap' ((ys.reverse ++ [(.slice Ra0 ra0 rc0, .slice Ra1 ra1 rc1, .slice Rb0 rb0 rd0, .slice Rb1 rb1 rd1)]) ++ [(.slice A6 n6 c6, .slice A5 n5 c5, .slice B6 m6 e6, .slice B5 m5 e5)]) w13 → (W.alloc (.cells #[.slice A6 n6 c6, .slice A5 n5 c5, .slice B6 m6 e6, .slice B5 m5 e5] 90)).grownBy w13 (some g) → (g' = g ∨ g' = (W.alloc (.cells #[.slice A6 n6 c6, .slice A5 n5 c5, .slice B6 m6 e6, .slice B5 m5 e5] 90)).heap.size) → VpI step Has w0 w a ANS (k + 1) g' (n + 1) cap' ((.slice A6 n6 c6, .slice A5 n5 c5, .slice B6 m6 e6, .slice B5 m5 e5) :: (.slice Ra0 ra0 rc0, .slice Ra1 ra1 rc1, .slice Rb0 rb0 rd0, .slice Rb1 rb1 rd1) :: ys) ((inE (headE ea), inE (headE eb)) :: (tailE ea, tailE eb) :: ls) s' w13) := Lib.hid (fun W q g' cap' w13 O13 G13 hg13 =>
              HI.out.enter hK'.out HG.out.1 HB.out AF.out.1 AF.out.2.1 AF.out.2.2.1 AF.out.2.2.2 H1.out (q.out.trans (Q.box _ _)) O13 G13 hg13 ⟨RKA.out, Rk.of EA'.out.wf RIA.out, RKB.out, Rk.of EB'.out.wf RIB.out⟩ ⟨EA'.out.inK, Rk.of EA'.out.inW EA'.out.inI, EB'.out.inK, Rk.of EB'.out.inW EB'.out.inI⟩ O10.out.base.2 (by
                have h := HE.out
                rw [visP_enter hne.out hst.out] at h
                exact h))
            clear BX10 BY10
            go_wp2_with fail
            refine Go.wp_region_held_drew (S := fun w' => w'.cell? ⟨P, 0, none⟩ = some (.slice A3' ja ca) ∧ w'.cell? ⟨P, 1, none⟩ = some (.slice A4' pa da) ∧ w'.cell? ⟨P + 1, 0, none⟩ = some (.slice B3' jb cb) ∧ w'.cell? ⟨P + 1, 1, none⟩ = some (.slice B4' pb db)) (by kernel_rfl) (sees.out _ hq0) (fun hHeld => ?_)
            refine Go.wpAnyH_take (i := 0) (oi := _) (v := ?_) rfl (by kernel_rfl) (by kernel_rfl) (by kernel_rfl) (fun _ _ _ h => h) (Or.inl ⟨by rfl, ?_⟩) (by assumption) ?_
            rotate_left 1
            · intro wx hSw
              go_simp <;> with_reducible rfl
            simp only [Act.put, List.getElem_toArray, List.getElem_cons_zero, List.setIfInBounds_toArray, List.set_cons_zero, List.set_cons_succ]
            refine Go.wpAnyH_take (i := 1) (oi := _) (v := ?_) rfl (by kernel_rfl) (by kernel_rfl) (by kernel_rfl) (fun _ _ _ h => h) (Or.inl ⟨by rfl, ?_⟩) (by assumption) ?_
            rotate_left 1
            · intro wx hSw
              go_simp <;> with_reducible rfl
            simp only [Act.put, List.getElem_toArray, List.getElem_cons_zero, List.getElem_cons_succ, List.setIfInBounds_toArray, List.set_cons_zero, List.set_cons_succ]
            refine Go.wpAnyH_take (i := 3) (oi := _) (v := ?_) rfl (by kernel_rfl) (by kernel_rfl) (by kernel_rfl) (fun _ _ _ h => h) (Or.inl ⟨by rfl, ?_⟩) (by assumption) ?_
            rotate_left 1
            · intro wx hSw
              go_simp <;> with_reducible rfl
            simp only [Act.put, List.getElem_toArray, List.getElem_cons_zero, List.getElem_cons_succ, List.setIfInBounds_toArray, List.set_cons_zero, List.set_cons_succ]
            refine Go.wpAnyH_ready (rs := [2]) (by kernel_rfl) (by simp) ?_
            refine Go.AllReadyH.cons rfl (fun K hK => ?_) Go.AllReadyH.nil
            rw [if_pos (by rfl)]
            go_simp
            refine (cIA.out _ hq0).mono ?_; rintro e v1 ⟨rfl, h1⟩
            refine hK.out _ _ (sees.out _ h1) (fun hHeld => ?_)
            clear hK K
            refine Go.wpAnyH_ready (rs := [4]) (by kernel_rfl) (by simp) ?_
            refine Go.AllReadyH.cons rfl (fun K hK => ?_) Go.AllReadyH.nil
            rw [if_pos (by rfl)]
            go_simp
            refine (cIB.out _ h1).mono ?_; rintro e v2 ⟨rfl, h2⟩
            refine hK.out _ _ (sees.out _ h2) (fun hHeld => ?_)
            clear hK K
            refine Go.wpAnyH_take (i := 5) (oi := _) (v := ?_) rfl (by kernel_rfl) (by kernel_rfl) (by kernel_rfl) (fun _ _ _ h => h) (Or.inl ⟨by rfl, ?_⟩) (by assumption) ?_
            rotate_left 1
            · intro wx hSw
              go_simp <;> with_reducible rfl
            simp only [Act.put, List.getElem_toArray, List.getElem_cons_zero, List.getElem_cons_succ, List.setIfInBounds_toArray, List.set_cons_zero, List.set_cons_succ]
            refine Go.wpAnyH_ready (rs := [6]) (by kernel_rfl) (by simp) ?_
            refine Go.AllReadyH.cons rfl (fun K hK => ?_) Go.AllReadyH.nil
            rw [if_pos (by rfl)]
            go_simp

            refine hK.out _ _ (sees.out _ (Q.al h2)) (fun hHeld => ?_)
            clear hK K
            refine Go.wpAnyH_ready (rs := [7]) (by kernel_rfl) (by simp) ?_
            refine Go.AllReadyH.cons rfl (fun K hK => ?_) Go.AllReadyH.nil
            refine step_op4 (by rfl) _ _ (by rfl) w.heap.size g n cap (ys.reverse ++ [(.slice Ra0 ra0 rc0, .slice Ra1 ra1 rc1, .slice Rb0 rb0 rd0, .slice Rb1 rb1 rd1)]) hl2.out.1 rfl (OWN.out v2 h2) ⟨v2.heap.size, 0, none⟩ rfl (.slice A6 n6 c6, .slice A5 n5 c5, .slice B6 m6 e6, .slice B5 m5 e5) (World.news_of_block (cs := #[.slice A6 n6 c6, .slice A5 n5 c5, .slice B6 m6 e6, .slice B5 m5 e5]) (t := 90) (fr := (0, 0)) (heap_alloc_new _ _)) (one_four _ _ _ _ _ _ _ _ _ _ _ _) hl2.out.2 (BAS.out v2 h2) ?_
            intro g' cap' w13 O13 G13 hg13
            have NX := Lib.hid (FINI.out v2 h2 g' cap' w13 O13 G13 hg13)
            refine hK.out _ _ (GRO.out v2 h2 w13 G13) (fun hHeld => ?_)
            clear hK K
            refine Go.wpAnyH_take (i := 8) (oi := _) (v := ?_) rfl (by kernel_rfl) (by kernel_rfl) (by kernel_rfl) (fun _ _ _ h => h) (Or.inl ⟨by rfl, ?_⟩) (by assumption) ?_
            rotate_left 1
            · intro wx hSw
              go_simp <;> with_reducible rfl
            simp only [Act.put, List.getElem_toArray, List.getElem_cons_zero, List.getElem_cons_succ, List.setIfInBounds_toArray, List.set_cons_zero, List.set_cons_succ]
            refine Go.wpAnyH_done (by kernel_rfl) ?_ _
            have hltz : (k : Int) < 262144 := by have := HK.out; omega
            clear hmk hcap O13 G13 hg13
            go_wp2_with fail
            go_roundw
            case rel => exact ⟨k + 1, n + 1, g', cap', HK.out, by go_num, rfl, Lib.hid ⟨_, _, _, NX.out⟩⟩
            case measure =>
              have := HK.out
              simp [intOf]
              omega
          · have NX : Hid (VpI step Has w0 w a ANS (k + 1) g n cap ((.slice Ra0 ra0 rc0, .slice Ra1 ra1 rc1, .slice Rb0 rb0 rd0, .slice Rb1 rb1 rd1) :: ys) ((tailE ea, tailE eb) :: ls) s' w10) := HI.out.pass AF.out.1 AF.out.2.1 AF.out.2.2.1 AF.out.2.2.2 O10.out H1.out ⟨RKA.out, Rk.of EA'.out.wf RIA.out, RKB.out, Rk.of EB'.out.wf RIB.out⟩ (by
              have h := HE.out
              rw [visP_pass hne.out hst.out] at h
              exact h)
            have hltz : (k : Int) < 262144 := by have := HK.out; omega
            clear hmk hcap
            go_wp2_with fail
            go_roundw
            case rel => exact ⟨k + 1, n, g, cap, HK.out, by go_num, rfl, Lib.hid ⟨_, _, _, NX.out⟩⟩
            case measure =>
              have := HK.out
              simp [intOf]
              omega
          · have : s' = ANS := by
              have h := HE.out
              rw [visP_stop hne.out hst.out] at h
              exact h
            subst this
            have R : Hid ((∃ k, Has k s' w10) ∧ Mid a w.heap.size w w10) := ⟨⟨_, H1.out⟩, AF.out.2.2.2⟩
            go_wp2_with fail
            (try simp only [Exit.inBlock, Exit.then]); refine bodyPost_ret (results_none rfl _ _ _) rfl ?_
            exact ⟨rfl, R.out⟩
      | false =>
        rw [hea] at cA
        have hne : Hid ((emptyE ea && emptyE eb) = false) := by show _ = _; rw [hea, Bool.false_and]
        go_wp2_with fail
        refine (cA.out _).mono ?_; rintro e w2 ⟨rfl, q2⟩
        have Q2 := Lib.hid q2
        clear x0 x1 x2 x3 q2
        have I2 := Lib.hid (HI.out.moved hK'.out Q2.out)
        have O2 := Lib.hid (HO.out.kept (Q2.out.block g HG.out.2))
        have cCA := fun w' => cut_any A3' A4' na ma ca da ja pa w' EA'.out.hk EA'.out.hj EA'.out.hkn EA'.out.hjm EA'.out.hkc EA'.out.hjc
        have cCB := fun w' => cut_any B3' B4' nb mb cb db jb pb w' EB'.out.hk EB'.out.hj EB'.out.hkn EB'.out.hjm EB'.out.hkc EB'.out.hjc
        have rKA := EA'.out.restK
        have rIA := EA'.out.restI
        have rKB := EB'.out.restK
        have rIB := EB'.out.restI
        generalize restAt A3' ca ja 1 = Ra0 at cCA rKA
        generalize na - ja = ra0 at cCA rKA
        generalize ca - ja = rc0 at cCA rKA
        generalize restAt A4' da pa 5 = Ra1 at cCA rIA
        generalize ma - pa = ra1 at cCA rIA
        generalize da - pa = rc1 at cCA rIA
        generalize restAt B3' cb jb 1 = Rb0 at cCB rKB
        generalize nb - jb = rb0 at cCB rKB
        generalize cb - jb = rd0 at cCB rKB
        generalize restAt B4' db pb 5 = Rb1 at cCB rIB
        generalize mb - pb = rb1 at cCB rIB
        generalize db - pb = rd1 at cCB rIB
        have RKA := Lib.hid rKA
        have RIA := Lib.hid rIA
        have RKB := Lib.hid rKB
        have RIB := Lib.hid rIB
        have CCA := Lib.hid cCA
        have CCB := Lib.hid cCB
        clear rKA rIA rKB rIB cCA cCB
        obtain ⟨P, hP⟩ : ∃ P, w2.heap.size = P := ⟨_, rfl⟩
        obtain ⟨w3, hw3⟩ : ∃ w3, (w2.alloc (.cells #[.slice none 0 0, .slice none 0 0] 70)).alloc (.cells #[.slice none 0 0, .slice none 0 0] 70) = w3 := ⟨_, rfl⟩
        have q3 : Q w2 w3 := by rw [← hw3]; exact two_box _ _ _
        have bx : Bk P #[.slice none 0 0, .slice none 0 0] 70 w3 := by rw [← hw3, ← hP]; exact (Bk.new _ _ _).stays (Q.box _ _)
        have by' : Bk (P + 1) #[.slice none 0 0, .slice none 0 0] 70 w3 := by rw [← hw3, ← hP, ← size_alloc w2 (.cells #[.slice none 0 0, .slice none 0 0] 70)]; exact Bk.new _ _ _
        have hgP : g < P := by have := O2.out.base.2; omega
        have hwP : Hid (wr.heap.size ≤ P ∧ g < P ∧ w.heap.size ≤ g) := ⟨by have := Q2.out.size; omega, hgP, HG.out.1⟩
        have O3 := O2.out.kept (q3.block g O2.out.base.2)
        obtain ⟨x0, x1, x2, x3⟩ := O3.top m (by simp [HM.out])
        simp only at x0 x1 x2 x3
        have BX3 := Lib.hid bx
        have BY3 := Lib.hid by'
        have O3 := Lib.hid O3
        have M3 : Hid (Mv g wr w3) := (Mv.of Q2.out).q q3
        clear q3 bx by' hgP
        go_wp2_with fail
        refine (CCA.out _).mono ?_; rintro e w4 ⟨rfl, q4⟩
        clear x0 x1 x2 x3 hw3
        have bx := BX3.out.stays q4
        have by' := BY3.out.stays q4
        have O4 := O3.out.kept (q4.block g O3.out.base.2)
        have n1 : g ≠ P := by have := hwP.out; omega
        have n2 : P + 1 ≠ P := by omega
        have n3 : g ≠ P + 1 := by have := hwP.out; omega
        obtain ⟨s1, hs1⟩ : ∃ z, w4.setCell ⟨P, 0, none⟩ (.slice A3' ja ca) = z := ⟨_, rfl⟩
        obtain ⟨w5, hw5⟩ : ∃ z, s1.setCell ⟨P, 1, none⟩ (.slice A4' pa da) = z := ⟨_, rfl⟩
        obtain ⟨s2, hs2⟩ : ∃ z, w5.setCell ⟨g, m * 4, none⟩ (.slice Ra0 ra0 rc0) = z := ⟨_, rfl⟩
        obtain ⟨w6, hw6⟩ : ∃ z, s2.setCell ⟨g, m * 4 + 1, none⟩ (.slice Ra1 ra1 rc1) = z := ⟨_, rfl⟩
        have bx1 := bx.set 0 (.slice A3' ja ca)
        rw [hs1] at bx1
        have bx5 := bx1.set 1 (.slice A4' pa da)
        rw [hw5] at bx5
        have y0 := bx.at 0 _ rfl
        have f0 := bx.frozen 0
        have y1 := bx1.at 1 (.slice none 0 0) rfl
        have f1 := bx1.frozen 1
        have o1 := O4.kept (Below.heap_setCell w4 ⟨P, 0, none⟩ (.slice A3' ja ca) g n1)
        rw [hs1] at o1
        have o5 := o1.kept (Below.heap_setCell s1 ⟨P, 1, none⟩ (.slice A4' pa da) g n1)
        rw [hw5] at o5
        obtain ⟨t0, t1, -, -⟩ := o5.top m (by simp [HM.out])
        simp only at t0 t1
        have g0 := o5.frozen (m * 4)
        have o2 := (o5.set m (by simp [HM.out]) (.slice Ra0 ra0 rc0)).1
        rw [hs2] at o2
        obtain ⟨-, t2, -, -⟩ := o2.top m (by simp [HM.out])
        simp only at t2
        have g1 := o2.frozen (m * 4 + 1)
        have o6 := (o2.set m (by simp [HM.out]) (.slice Ra1 ra1 rc1)).2.1
        rw [hw6] at o6
        have by1 := by'.other n2 0 (.slice A3' ja ca)
        rw [hs1] at by1
        have by5 := by1.other n2 1 (.slice A4' pa da)
        rw [hw5] at by5
        have by2 := by5.other n3.symm (m * 4) (.slice Ra0 ra0 rc0)
        rw [hs2] at by2
        have by6 := by2.other n3.symm (m * 4 + 1) (.slice Ra1 ra1 rc1)
        rw [hw6] at by6
        have bx2 := bx5.other n1.symm (m * 4) (.slice Ra0 ra0 rc0)
        rw [hs2] at bx2
        have bx6 := bx2.other n1.symm (m * 4 + 1) (.slice Ra1 ra1 rc1)
        rw [hw6] at bx6
        have m1 := (M3.out.q q4).set (p := P) (.inr hwP.out.1) 0 (.slice A3' ja ca)
        rw [hs1] at m1
        have m5 := m1.set (p := P) (.inr hwP.out.1) 1 (.slice A4' pa da)
        rw [hw5] at m5
        have m2 := m5.set (p := g) (.inl rfl) (m * 4) (.slice Ra0 ra0 rc0)
        rw [hs2] at m2
        have m6 := m2.set (p := g) (.inl rfl) (m * 4 + 1) (.slice Ra1 ra1 rc1)
        rw [hw6] at m6
        obtain ⟨-, -, z2, z3⟩ := o6.top m (by simp [HM.out])
        simp only at z2 z3
        have O6 := Lib.hid o6
        have BX6 := Lib.hid bx6
        have BY6 := Lib.hid by6
        have M6 := Lib.hid m6
        clear q4 bx by' O4 n1 n3 n2 bx1 bx5 o1 o5 o2 o6 by1 by5 by2 by6 bx2 bx6 m1 m5 m2 m6
        go_wp2_with fail
        refine (CCB.out _).mono ?_; rintro e w7 ⟨rfl, q7⟩
        clear z2 z3 hs1 hw5 hs2 hw6 y0 f0 y1 f1 t0 t1 g0 t2 g1
        have bx := BX6.out.stays q7
        have by' := BY6.out.stays q7
        have O7 := O6.out.kept (q7.block g O6.out.base.2)
        have n1 : g ≠ P := by have := hwP.out; omega
        have n2 : P ≠ P + 1 := by omega
        have n3 : g ≠ P + 1 := by have := hwP.out; omega
        obtain ⟨s1, hs1⟩ : ∃ z, w7.setCell ⟨P + 1, 0, none⟩ (.slice B3' jb cb) = z := ⟨_, rfl⟩
        obtain ⟨w8, hw8⟩ : ∃ z, s1.setCell ⟨P + 1, 1, none⟩ (.slice B4' pb db) = z := ⟨_, rfl⟩
        obtain ⟨s2, hs2⟩ : ∃ z, w8.setCell ⟨g, m * 4 + 2, none⟩ (.slice Rb0 rb0 rd0) = z := ⟨_, rfl⟩
        obtain ⟨w9, hw9⟩ : ∃ z, s2.setCell ⟨g, m * 4 + 2 + 1, none⟩ (.slice Rb1 rb1 rd1) = z := ⟨_, rfl⟩
        have by1 := by'.set 0 (.slice B3' jb cb)
        rw [hs1] at by1
        have by8 := by1.set 1 (.slice B4' pb db)
        rw [hw8] at by8
        have y0 := by'.at 0 _ rfl
        have f0 := by'.frozen 0
        have y1 := by1.at 1 (.slice none 0 0) rfl
        have f1 := by1.frozen 1
        have o1 := O7.kept (Below.heap_setCell w7 ⟨P + 1, 0, none⟩ (.slice B3' jb cb) g n3)
        rw [hs1] at o1
        have o8 := o1.kept (Below.heap_setCell s1 ⟨P + 1, 1, none⟩ (.slice B4' pb db) g n3)
        rw [hw8] at o8
        obtain ⟨-, -, t0, t1⟩ := o8.top m (by simp [HM.out])
        simp only at t0 t1
        have g0 := o8.frozen (m * 4 + 2)
        have o2 := (o8.set m (by simp [HM.out]) (.slice Rb0 rb0 rd0)).2.2.1
        rw [hs2] at o2
        obtain ⟨-, -, -, t2⟩ := o2.top m (by simp [HM.out])
        simp only at t2
        have g1 := o2.frozen (m * 4 + 3)
        have o9 := (o2.set m (by simp [HM.out]) (.slice Rb1 rb1 rd1)).2.2.2
        rw [show m * 4 + 3 = m * 4 + 2 + 1 from rfl, hw9] at o9
        have bx1 := bx.other n2 0 (.slice B3' jb cb)
        rw [hs1] at bx1
        have bx8 := bx1.other n2 1 (.slice B4' pb db)
        rw [hw8] at bx8
        have bx2 := bx8.other n1.symm (m * 4 + 2) (.slice Rb0 rb0 rd0)
        rw [hs2] at bx2
        have bx9 := bx2.other n1.symm (m * 4 + 2 + 1) (.slice Rb1 rb1 rd1)
        rw [hw9] at bx9
        have by2 := by8.other n3.symm (m * 4 + 2) (.slice Rb0 rb0 rd0)
        rw [hs2] at by2
        have by9 := by2.other n3.symm (m * 4 + 2 + 1) (.slice Rb1 rb1 rd1)
        rw [hw9] at by9
        have m1 := (M6.out.q q7).set (p := P + 1) (.inr (Nat.le_succ_of_le hwP.out.1)) 0 (.slice B3' jb cb)
        rw [hs1] at m1
        have m8 := m1.set (p := P + 1) (.inr (Nat.le_succ_of_le hwP.out.1)) 1 (.slice B4' pb db)
        rw [hw8] at m8
        have m2 := m8.set (p := g) (.inl rfl) (m * 4 + 2) (.slice Rb0 rb0 rd0)
        rw [hs2] at m2
        have m9 := m2.set (p := g) (.inl rfl) (m * 4 + 2 + 1) (.slice Rb1 rb1 rd1)
        rw [hw9] at m9
        have v0 := bx9.at 0 _ rfl
        have v1 := bx9.at 1 _ rfl
        have v2 := by9.at 0 _ rfl
        have v3 := by9.at 1 _ rfl
        have O9 := Lib.hid o9
        have BX9 := Lib.hid bx9
        have BY9 := Lib.hid by9
        have M9 := Lib.hid m9
        have B9 := Lib.hid (m9.below HG.out.1 HI.out.mid.size)
        have Q9 : Hid (Q w0 w9) := ⟨m9.os.trans HI.out.q.os, m9.tape.trans HI.out.q.tape, m9.output.trans HI.out.q.output, Nat.le_trans HI.out.q.size m9.size, fun j hj => (m9.block j (by have := HB.out; have := HG.out; omega) (Nat.lt_of_lt_of_le hj HI.out.q.size)).trans (HI.out.q.block j hj)⟩
        have KA := EA'.out.ka w9 (m9.but _ _)
        have KB := EB'.out.ka w9 (m9.but _ _)
        have cV := Lib.hid (hC'.out k s (headE ea) (headE eb) A3' B3' A4' B4' ja jb pa pb ca cb da db w9 HK.out Q9.out (hK'.out _ _ _ _ B9.out HI.out.has) (Nat.le_trans HI.out.mid.size m9.size) EA'.out.lk EB'.out.lk EA'.out.lj EB'.out.lj (one_le EA'.out.hk) (one_le EB'.out.hk) (one_le EA'.out.hj) (one_le EB'.out.hj) KA.1 KB.1 KA.2.1 KB.2.1)
        clear q7 bx by' O7 n1 n3 n2 bx1 bx8 o1 o8 o2 o9 by1 by8 by2 by9 bx2 bx9 m1 m8 m2 m9 KA KB
        go_wp2_with fail
        refine cV.out.mono ?_; rintro e w10 ⟨rfl, h1, MM⟩
        clear y0 f0 y1 f1 t0 t1 g0 t2 g1 v0 v1 v2 v3 hs1 hw8 hs2 hw9
        obtain ⟨s', hs'⟩ : ∃ z, (step s (headE ea) (headE eb)).1 = z := ⟨_, rfl⟩
        obtain ⟨R, hR⟩ : ∃ z, (step s (headE ea) (headE eb)).2 = z := ⟨_, rfl⟩
        have hst : Hid (step s (headE ea) (headE eb) = (s', R)) := by show _ = _; rw [← hs', ← hR]
        have hR2 : R ≤ 2 := by rw [← hR]; exact HR.out _ _ _
        rw [hs'] at h1
        rw [hR]
        have AF := Lib.hid (HI.out.after M9.out MM ha'.out HG.out.1 HB.out)
        have H1 := Lib.hid h1
        have O10 := Lib.hid (O9.out.kept (MM.block g O9.out.base.2 (.inr HG.out.1)))
        have BX10 := Lib.hid (BX9.out.kept' (MM.block P BX9.out.lt (.inr (by have := hwP.out; omega))))
        have BY10 := Lib.hid (BY9.out.kept' (MM.block (P + 1) BY9.out.lt (.inr (by have := hwP.out; omega))))
        have AB : Hid (But w0 w.heap.size g wr w10) := fun j h1 h2 h3 => (MM.block j (Nat.lt_of_lt_of_le h2 M9.out.size) (h3.imp (fun h => Nat.lt_of_lt_of_le h ha'.out) id)).trans (M9.out.block j h1 h2)
        clear h1 MM hs' hR
        have hRc : R = 0 ∨ R = 1 ∨ R = 2 := by omega
        clear hR2
        rcases hRc with rfl | rfl | rfl
        · have hb10 : But w0 w.heap.size g wr w10 := AB.out
          have cIA : Hid (∀ w', Hid (Q w10 w') → Calls Tryz.prog 86 #[.agg #[.slice A3' ja ca, .slice A4' pa da]] w' fun e w'' => e = .returned (.agg #[.slice A6 n6 c6, .slice A5 n5 c5]) ∧ Hid (Q w10 w'')) := Lib.hid (fun w' q => ((EA'.out.ka w' (hb10.q AF.out.2.1 q.out)).2.2).mono fun _ _ ⟨he, hq⟩ => ⟨he, Lib.hid (q.out.trans hq)⟩)
          have cIB : Hid (∀ w', Hid (Q w10 w') → Calls Tryz.prog 86 #[.agg #[.slice B3' jb cb, .slice B4' pb db]] w' fun e w'' => e = .returned (.agg #[.slice B6 m6 e6, .slice B5 m5 e5]) ∧ Hid (Q w10 w'')) := Lib.hid (fun w' q => ((EB'.out.ka w' (hb10.q AF.out.2.1 q.out)).2.2).mono fun _ _ ⟨he, hq⟩ => ⟨he, Lib.hid (q.out.trans hq)⟩)
          clear hb10
          have hq0 : Hid (Q w10 w10.drew) := Lib.hid ((Below.refl _ _).drew)
          have sees : Hid (∀ w', Hid (Q w10 w') → w'.cell? ⟨P, 0, none⟩ = some (.slice A3' ja ca) ∧ w'.cell? ⟨P, 1, none⟩ = some (.slice A4' pa da) ∧ w'.cell? ⟨P + 1, 0, none⟩ = some (.slice B3' jb cb) ∧ w'.cell? ⟨P + 1, 1, none⟩ = some (.slice B4' pb db)) := Lib.hid (fun w' q => by
            have x := BX10.out.stays q.out
            have y := BY10.out.stays q.out
            exact ⟨x.at 0 _ rfl, x.at 1 _ rfl, y.at 0 _ rfl, y.at 1 _ rfl⟩)
          have OWN : Hid (∀ W, Hid (Q w10 W) → Op4 90 w.heap.size g cap (ys.reverse ++ [(.slice Ra0 ra0 rc0, .slice Ra1 ra1 rc1, .slice Rb0 rb0 rd0, .slice Rb1 rb1 rd1)]) (W.alloc (.cells #[.slice A6 n6 c6, .slice A5 n5 c5, .slice B6 m6 e6, .slice B5 m5 e5] 90))) := Lib.hid (fun W q => O10.out.kept ((q.out.trans (Q.box _ _)).block g O10.out.base.2))
          have BAS : Hid (∀ W, Hid (Q w10 W) → w.heap.size ≤ (W.alloc (.cells #[.slice A6 n6 c6, .slice A5 n5 c5, .slice B6 m6 e6, .slice B5 m5 e5] 90)).heap.size) := Lib.hid (fun W q => by
            have h1 := (q.out.trans (Q.box W (.cells #[.slice A6 n6 c6, .slice A5 n5 c5, .slice B6 m6 e6, .slice B5 m5 e5] 90))).size
            have h2 := AF.out.2.2.2.size
            omega)
          have GRO : Hid (∀ W, Hid (Q w10 W) → ∀ w13, (W.alloc (.cells #[.slice A6 n6 c6, .slice A5 n5 c5, .slice B6 m6 e6, .slice B5 m5 e5] 90)).grownBy w13 (some g) → w13.cell? ⟨P, 0, none⟩ = some (.slice A3' ja ca) ∧ w13.cell? ⟨P, 1, none⟩ = some (.slice A4' pa da) ∧ w13.cell? ⟨P + 1, 0, none⟩ = some (.slice B3' jb cb) ∧ w13.cell? ⟨P + 1, 1, none⟩ = some (.slice B4' pb db)) := Lib.hid (fun W q w13 G => by
            have x := BX10.out.stays (q.out.trans (Q.box W (.cells #[.slice A6 n6 c6, .slice A5 n5 c5, .slice B6 m6 e6, .slice B5 m5 e5] 90)))
            have y := BY10.out.stays (q.out.trans (Q.box W (.cells #[.slice A6 n6 c6, .slice A5 n5 c5, .slice B6 m6 e6, .slice B5 m5 e5] 90)))
            have x' := x.kept' (G.block P x.lt (by have := hwP.out; simp only [ne_eq, Option.some.injEq]; omega))
            have y' := y.kept' (G.block (P + 1) y.lt (by have := hwP.out; simp only [ne_eq, Option.some.injEq]; omega))
            exact ⟨x'.at 0 _ rfl, x'.at 1 _ rfl, y'.at 0 _ rfl, y'.at 1 _ rfl⟩)
          have hl2 : Hid (n = (ys.reverse ++ [((.slice Ra0 ra0 rc0, .slice Ra1 ra1 rc1, .slice Rb0 rb0 rd0, .slice Rb1 rb1 rd1) : Qd)]).length ∧ (ys.reverse ++ [((.slice Ra0 ra0 rc0, .slice Ra1 ra1 rc1, .slice Rb0 rb0 rd0, .slice Rb1 rb1 rd1) : Qd)]).length ≤ 1000000) := by
            have e1 : (ys.reverse ++ [((.slice Ra0 ra0 rc0, .slice Ra1 ra1 rc1, .slice Rb0 rb0 rd0, .slice Rb1 rb1 rd1) : Qd)]).length = ys.length + 1 := by simp
            have := HN.out
            have := HM.out
            have := HI.out.few
            have := HK.out
            exact ⟨by omega, by omega⟩
          have FINI : Hid (∀ W, Hid (Q w10 W) → ∀ g' cap' w13, Op4 90 w.heap.size g' cap' ((ys.reverse ++ [(.slice Ra0 ra0 rc0, .slice Ra1 ra1 rc1, .slice Rb0 rb0 rd0, .slice Rb1 rb1 rd1)]) ++ [(.slice A6 n6 c6, .slice A5 n5 c5, .slice B6 m6 e6, .slice B5 m5 e5)]) w13 → (W.alloc (.cells #[.slice A6 n6 c6, .slice A5 n5 c5, .slice B6 m6 e6, .slice B5 m5 e5] 90)).grownBy w13 (some g) → (g' = g ∨ g' = (W.alloc (.cells #[.slice A6 n6 c6, .slice A5 n5 c5, .slice B6 m6 e6, .slice B5 m5 e5] 90)).heap.size) → VpI step Has w0 w a ANS (k + 1) g' (n + 1) cap' ((.slice A6 n6 c6, .slice A5 n5 c5, .slice B6 m6 e6, .slice B5 m5 e5) :: (.slice Ra0 ra0 rc0, .slice Ra1 ra1 rc1, .slice Rb0 rb0 rd0, .slice Rb1 rb1 rd1) :: ys) ((inE (headE ea), inE (headE eb)) :: (tailE ea, tailE eb) :: ls) s' w13) := Lib.hid (fun W q g' cap' w13 O13 G13 hg13 =>
            HI.out.enter hK'.out HG.out.1 HB.out AF.out.1 AF.out.2.1 AF.out.2.2.1 AF.out.2.2.2 H1.out (q.out.trans (Q.box _ _)) O13 G13 hg13 ⟨RKA.out, Rk.of EA'.out.wf RIA.out, RKB.out, Rk.of EB'.out.wf RIB.out⟩ ⟨EA'.out.inK, Rk.of EA'.out.inW EA'.out.inI, EB'.out.inK, Rk.of EB'.out.inW EB'.out.inI⟩ O10.out.base.2 (by
              have h := HE.out
              rw [visP_enter hne.out hst.out] at h
              exact h))
          clear BX10 BY10
          go_wp2_with fail
          refine Go.wp_region_held_drew (S := fun w' => w'.cell? ⟨P, 0, none⟩ = some (.slice A3' ja ca) ∧ w'.cell? ⟨P, 1, none⟩ = some (.slice A4' pa da) ∧ w'.cell? ⟨P + 1, 0, none⟩ = some (.slice B3' jb cb) ∧ w'.cell? ⟨P + 1, 1, none⟩ = some (.slice B4' pb db)) (by kernel_rfl) (sees.out _ hq0) (fun hHeld => ?_)
          refine Go.wpAnyH_take (i := 0) (oi := _) (v := ?_) rfl (by kernel_rfl) (by kernel_rfl) (by kernel_rfl) (fun _ _ _ h => h) (Or.inl ⟨by rfl, ?_⟩) (by assumption) ?_
          rotate_left 1
          · intro wx hSw
            go_simp <;> with_reducible rfl
          simp only [Act.put, List.getElem_toArray, List.getElem_cons_zero, List.setIfInBounds_toArray, List.set_cons_zero, List.set_cons_succ]
          refine Go.wpAnyH_take (i := 1) (oi := _) (v := ?_) rfl (by kernel_rfl) (by kernel_rfl) (by kernel_rfl) (fun _ _ _ h => h) (Or.inl ⟨by rfl, ?_⟩) (by assumption) ?_
          rotate_left 1
          · intro wx hSw
            go_simp <;> with_reducible rfl
          simp only [Act.put, List.getElem_toArray, List.getElem_cons_zero, List.getElem_cons_succ, List.setIfInBounds_toArray, List.set_cons_zero, List.set_cons_succ]
          refine Go.wpAnyH_take (i := 3) (oi := _) (v := ?_) rfl (by kernel_rfl) (by kernel_rfl) (by kernel_rfl) (fun _ _ _ h => h) (Or.inl ⟨by rfl, ?_⟩) (by assumption) ?_
          rotate_left 1
          · intro wx hSw
            go_simp <;> with_reducible rfl
          simp only [Act.put, List.getElem_toArray, List.getElem_cons_zero, List.getElem_cons_succ, List.setIfInBounds_toArray, List.set_cons_zero, List.set_cons_succ]
          refine Go.wpAnyH_ready (rs := [2]) (by kernel_rfl) (by simp) ?_
          refine Go.AllReadyH.cons rfl (fun K hK => ?_) Go.AllReadyH.nil
          rw [if_pos (by rfl)]
          go_simp
          refine (cIA.out _ hq0).mono ?_; rintro e v1 ⟨rfl, h1⟩
          refine hK.out _ _ (sees.out _ h1) (fun hHeld => ?_)
          clear hK K
          refine Go.wpAnyH_ready (rs := [4]) (by kernel_rfl) (by simp) ?_
          refine Go.AllReadyH.cons rfl (fun K hK => ?_) Go.AllReadyH.nil
          rw [if_pos (by rfl)]
          go_simp
          refine (cIB.out _ h1).mono ?_; rintro e v2 ⟨rfl, h2⟩
          refine hK.out _ _ (sees.out _ h2) (fun hHeld => ?_)
          clear hK K
          refine Go.wpAnyH_take (i := 5) (oi := _) (v := ?_) rfl (by kernel_rfl) (by kernel_rfl) (by kernel_rfl) (fun _ _ _ h => h) (Or.inl ⟨by rfl, ?_⟩) (by assumption) ?_
          rotate_left 1
          · intro wx hSw
            go_simp <;> with_reducible rfl
          simp only [Act.put, List.getElem_toArray, List.getElem_cons_zero, List.getElem_cons_succ, List.setIfInBounds_toArray, List.set_cons_zero, List.set_cons_succ]
          refine Go.wpAnyH_ready (rs := [6]) (by kernel_rfl) (by simp) ?_
          refine Go.AllReadyH.cons rfl (fun K hK => ?_) Go.AllReadyH.nil
          rw [if_pos (by rfl)]
          go_simp

          refine hK.out _ _ (sees.out _ (Q.al h2)) (fun hHeld => ?_)
          clear hK K
          refine Go.wpAnyH_ready (rs := [7]) (by kernel_rfl) (by simp) ?_
          refine Go.AllReadyH.cons rfl (fun K hK => ?_) Go.AllReadyH.nil
          refine step_op4 (by rfl) _ _ (by rfl) w.heap.size g n cap (ys.reverse ++ [(.slice Ra0 ra0 rc0, .slice Ra1 ra1 rc1, .slice Rb0 rb0 rd0, .slice Rb1 rb1 rd1)]) hl2.out.1 rfl (OWN.out v2 h2) ⟨v2.heap.size, 0, none⟩ rfl (.slice A6 n6 c6, .slice A5 n5 c5, .slice B6 m6 e6, .slice B5 m5 e5) (World.news_of_block (cs := #[.slice A6 n6 c6, .slice A5 n5 c5, .slice B6 m6 e6, .slice B5 m5 e5]) (t := 90) (fr := (0, 0)) (heap_alloc_new _ _)) (one_four _ _ _ _ _ _ _ _ _ _ _ _) hl2.out.2 (BAS.out v2 h2) ?_
          intro g' cap' w13 O13 G13 hg13
          have NX := Lib.hid (FINI.out v2 h2 g' cap' w13 O13 G13 hg13)
          refine hK.out _ _ (GRO.out v2 h2 w13 G13) (fun hHeld => ?_)
          clear hK K
          refine Go.wpAnyH_take (i := 8) (oi := _) (v := ?_) rfl (by kernel_rfl) (by kernel_rfl) (by kernel_rfl) (fun _ _ _ h => h) (Or.inl ⟨by rfl, ?_⟩) (by assumption) ?_
          rotate_left 1
          · intro wx hSw
            go_simp <;> with_reducible rfl
          simp only [Act.put, List.getElem_toArray, List.getElem_cons_zero, List.getElem_cons_succ, List.setIfInBounds_toArray, List.set_cons_zero, List.set_cons_succ]
          refine Go.wpAnyH_done (by kernel_rfl) ?_ _
          have hltz : (k : Int) < 262144 := by have := HK.out; omega
          clear hmk hcap O13 G13 hg13
          go_wp2_with fail
          go_roundw
          case rel => exact ⟨k + 1, n + 1, g', cap', HK.out, by go_num, rfl, Lib.hid ⟨_, _, _, NX.out⟩⟩
          case measure =>
            have := HK.out
            simp [intOf]
            omega
        · have NX : Hid (VpI step Has w0 w a ANS (k + 1) g n cap ((.slice Ra0 ra0 rc0, .slice Ra1 ra1 rc1, .slice Rb0 rb0 rd0, .slice Rb1 rb1 rd1) :: ys) ((tailE ea, tailE eb) :: ls) s' w10) := HI.out.pass AF.out.1 AF.out.2.1 AF.out.2.2.1 AF.out.2.2.2 O10.out H1.out ⟨RKA.out, Rk.of EA'.out.wf RIA.out, RKB.out, Rk.of EB'.out.wf RIB.out⟩ (by
            have h := HE.out
            rw [visP_pass hne.out hst.out] at h
            exact h)
          have hltz : (k : Int) < 262144 := by have := HK.out; omega
          clear hmk hcap
          go_wp2_with fail
          go_roundw
          case rel => exact ⟨k + 1, n, g, cap, HK.out, by go_num, rfl, Lib.hid ⟨_, _, _, NX.out⟩⟩
          case measure =>
            have := HK.out
            simp [intOf]
            omega
        · have : s' = ANS := by
            have h := HE.out
            rw [visP_stop hne.out hst.out] at h
            exact h
          subst this
          have R : Hid ((∃ k, Has k s' w10) ∧ Mid a w.heap.size w w10) := ⟨⟨_, H1.out⟩, AF.out.2.2.2⟩
          go_wp2_with fail
          (try simp only [Exit.inBlock, Exit.then]); refine bodyPost_ret (results_none rfl _ _ _) rfl ?_
          exact ⟨rfl, R.out⟩
    · obtain rfl : k = 262144 := by omega
      have hans := I.ans
      have : visP step (262144 - 262144) s ls = s := by rw [Nat.sub_self, visP]
      rw [this] at hans
      subst hans
      have R : Hid ((∃ k, Has k s wr) ∧ Mid a w.heap.size w wr) := ⟨⟨_, I.has⟩, I.mid⟩
      clear I
      go_wp2_with fail
      go_end0
      exact ⟨rfl, R.out⟩

end Go.Proofs.YtjmchjphdfbhiaaGreatDoor.val
