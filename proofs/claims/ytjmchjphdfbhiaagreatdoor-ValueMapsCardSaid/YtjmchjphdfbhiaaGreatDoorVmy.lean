/- Map: two rows that grow side by side in a block's cells; Map; Map: what its loop leaves is a value. -/
import Derived.Test.YtjmchjphdfbhiaaGreatDoorVmq
namespace Go.Proofs.YtjmchjphdfbhiaaGreatDoor.val
open Go.RowKit
open Go.Proofs.YtjmchjphdfbhiaaGreatDoor
/-- Two rows of the call's own, in different blocks, made since w3, where block S alone of the older ones has changed. -/
structure Tw (S : Nat) (T1 : TypeId) (z1 : Nat) (v1 : Value) (n1 : Nat) (xs1 : List Value) (T2 : TypeId) (z2 : Nat) (v2 : Value) (n2 : Nat) (xs2 : List Value) (w3 wr : World) : Prop where
  own1 : wr.ownsRow w3.heap.size T1 z1 v1 n1 xs1
  own2 : wr.ownsRow w3.heap.size T2 z2 v2 n2 xs2
  ne : ∀ g, v1.ownBlock = some g → v2.ownBlock ≠ some g
  q : w3.grownBy wr (some S)
  hS : S < w3.heap.size
theorem Tw.swap {S : Nat} {T1 : TypeId} {z1 : Nat} {v1 : Value} {n1 : Nat} {xs1 : List Value} {T2 : TypeId} {z2 : Nat} {v2 : Value} {n2 : Nat} {xs2 : List Value} {w3 wr : World} (h : Tw S T1 z1 v1 n1 xs1 T2 z2 v2 n2 xs2 w3 wr) : Tw S T2 z2 v2 n2 xs2 T1 z1 v1 n1 xs1 w3 wr :=
  ⟨h.own2, h.own1, fun g e e' => h.ne g e' e, h.q, h.hS⟩
theorem own_block {w w' : World} {B : Nat} {T : TypeId} {z : Nat} {v : Value} {n : Nat} {xs : List Value} (h : w.ownsRow B T z v n xs) (hb : ∀ g, v.ownBlock = some g → w'.heap[g]? = w.heap[g]?) : w'.ownsRow B T z v n xs := by
  refine ⟨h.1, ?_⟩
  rcases h.2 with hn | ⟨g, cap, cur, rfl, hb', hg, rest⟩
  · exact .inl hn
  · exact .inr ⟨g, cap, cur, rfl, hb', (hb g rfl).trans hg, rest⟩
theorem Tw.quiet {S : Nat} {T1 : TypeId} {z1 : Nat} {v1 : Value} {n1 : Nat} {xs1 : List Value} {T2 : TypeId} {z2 : Nat} {v2 : Value} {n2 : Nat} {xs2 : List Value} {w3 wr : World} (h : Tw S T1 z1 v1 n1 xs1 T2 z2 v2 n2 xs2 w3 wr) {W : World} (q : Q wr W) : Tw S T1 z1 v1 n1 xs1 T2 z2 v2 n2 xs2 w3 W :=
  ⟨own_block h.own1 fun g e => q.block g (h.own1.lt g e).2, own_block h.own2 fun g e => q.block g (h.own2.lt g e).2, h.ne, ⟨q.os.trans h.q.os, q.tape.trans h.q.tape, q.output.trans h.q.output, Nat.le_trans h.q.size q.size, fun k hk hn => (q.block k (Nat.lt_of_lt_of_le hk h.q.size)).trans (h.q.block k hk hn)⟩, h.hS⟩
theorem Tw.push {S : Nat} {T1 : TypeId} {z1 : Nat} {v1 : Value} {n1 : Nat} {xs1 : List Value} {T2 : TypeId} {z2 : Nat} {v2 : Value} {n2 : Nat} {xs2 : List Value} {w3 wr : World} (h : Tw S T1 z1 v1 n1 xs1 T2 z2 v2 n2 xs2 w3 wr)
    {w' : World} {v' : Value} {n' : Nat} {xs' : List Value} {H g' : Nat} (own' : w'.ownsRow w3.heap.size T1 z1 v' n' xs') (G : wr.grownBy w' v1.ownBlock) (hv : v'.ownBlock = some g') (hg : v1.ownBlock = some g' ∨ g' = H) (hH : wr.heap.size = H) (j : Nat) (u : Value) :
    Tw S T1 z1 v' n' xs' T2 z2 v2 n2 xs2 w3 (w'.setCell ⟨S, j, none⟩ u) := by
  have hset : ∀ k, k ≠ S → (w'.setCell ⟨S, j, none⟩ u).heap[k]? = w'.heap[k]? := fun k hk => Below.heap_setCell w' ⟨S, j, none⟩ u k hk
  have hw : (w'.setCell ⟨S, j, none⟩ u).os = w'.os ∧ (w'.setCell ⟨S, j, none⟩ u).tape = w'.tape ∧ (w'.setCell ⟨S, j, none⟩ u).output = w'.output ∧ (w'.setCell ⟨S, j, none⟩ u).heap.size = w'.heap.size := by
    have q := (Q.refl w').setCell (p := ⟨w'.heap.size, j, none⟩) (Nat.le_refl _) u
    exact ⟨rfl, rfl, rfl, by simp [World.setCell]⟩
  refine ⟨own_block own' fun g e => hset g ?_, own_block h.own2 fun g e => ?_, fun g e e' => ?_, ⟨?_, ?_, ?_, ?_, fun k hk hn => ?_⟩, h.hS⟩
  · have := (own'.lt g e).1
    have := h.hS
    omega
  · have h1 := h.own2.lt g e
    have := h.hS
    rw [hset g (by omega), G.block g h1.2 (fun e' => h.ne g e'.symm e)]
  · rw [hv] at e
    simp only [Option.some.injEq] at e
    subst e
    rcases hg with hg | hg
    · exact h.ne _ hg e'
    · have := (h.own2.lt _ e').2
      omega
  · exact hw.1.trans (G.os.trans h.q.os)
  · exact hw.2.1.trans (G.tape.trans h.q.tape)
  · exact hw.2.2.1.trans (G.output.trans h.q.output)
  · have := h.q.size
    have := G.size
    omega
  · have hk' := Nat.lt_of_lt_of_le hk h.q.size
    rw [hset k (fun e => hn (by rw [e])), G.block k hk' (fun e => ?_), h.q.block k hk hn]
    have := (h.own1.lt k e.symm).1
    omega
/-- Block S, of which one cell was stored. -/
theorem Tw.blk {S : Nat} {T1 : TypeId} {z1 : Nat} {v1 : Value} {n1 : Nat} {xs1 : List Value} {T2 : TypeId} {z2 : Nat} {v2 : Value} {n2 : Nat} {xs2 : List Value} {w3 wr : World} (h : Tw S T1 z1 v1 n1 xs1 T2 z2 v2 n2 xs2 w3 wr) {w' : World} (G : wr.grownBy w' v1.ownBlock) {cs : Array Value} {t : TypeId} (b : Bk S cs t wr) : Bk S cs t w' :=
  (G.block S b.lt (fun e => by have := (h.own1.lt S e.symm).1; have := h.hS; omega)).trans b
/-- A cell of an older block. -/
theorem Tw.cell {S : Nat} {T1 : TypeId} {z1 : Nat} {v1 : Value} {n1 : Nat} {xs1 : List Value} {T2 : TypeId} {z2 : Nat} {v2 : Value} {n2 : Nat} {xs2 : List Value} {w3 wr : World} (h : Tw S T1 z1 v1 n1 xs1 T2 z2 v2 n2 xs2 w3 wr) {a : Addr} {u : Value} (g : w3.cell? a = some u) (hb : a.block ≠ S) : wr.cell? a = some u :=
  h.q.cell g (fun e => hb (Option.some.inj e))
theorem Tw.grown {S : Nat} {T1 : TypeId} {z1 : Nat} {v1 : Value} {n1 : Nat} {xs1 : List Value} {T2 : TypeId} {z2 : Nat} {v2 : Value} {n2 : Nat} {xs2 : List Value} {w w3 wr : World} (h : Tw S T1 z1 v1 n1 xs1 T2 z2 v2 n2 xs2 w3 wr) (q : Q w w3) (hS : w.heap.size ≤ S) : Q w wr :=
  ⟨h.q.os.trans q.os, h.q.tape.trans q.tape, h.q.output.trans q.output, Nat.le_trans q.size h.q.size, fun k hk => (h.q.block k (Nat.lt_of_lt_of_le hk q.size) (fun e => by have := Option.some.inj e; omega)).trans (q.block k hk)⟩
/-- append of one string, and of one value, at a step of a region that draws. -/
theorem step_str {w : World} {ops : Array Oper} {o : Oper} {a : Act} {K : Act → World → Prop} {Q' : Exit → Act → World → Prop} {E : Prop} (hgd : o.guard = none) (s x : Operand)
    (ho : o.op = .call { callee := .builtin .append, args := #[s, x], argTypes := #[24, 24] })
    (B : Nat) (v : Value) (n : Nat) (xs : List Value) (hs : a.eval s = v) (hown : w.ownsRow B 9 1 v n xs) (ad : Addr) (hx : a.eval x = .slice (some ad) 1 1)
    (u : Value) (hnews : w.cell? ad = some u) (h1 : u.oneCell' = true) (hlim : n ≤ 1000000) (hbase : B ≤ w.heap.size) (H : Nat) (hH : w.heap.size = H)
    (h : ∀ g cap w', w'.ownsRow B 9 1 (.slice (some ⟨g, 0, none⟩) (n + 1) cap) (n + 1) (xs ++ [u]) → w.grownBy w' v.ownBlock → (v.ownBlock = some g ∨ g = H) → K (a.put o.dst (.slice (some ⟨g, 0, none⟩) (n + 1) cap)) w') :
    if Region.wanted o (yielded ops a.tmps) = true then Oper.wp Tryz.prog o a w K Q' else E := by
  obtain ⟨i0, hi, hz0, hz1, hz2⟩ := info_parts info_str
  refine step_append_lies w hgd s x 24 ho B 9 i0 (.string ⟨#[]⟩) 1 16 Tryz.underlying24 hi hz0 hz1 hz2 rfl (by decide) v n xs hs hown ad 1 1 [u] hx rfl ?_ ?_ (by decide) (by unfold maxLen; omega) (by omega) hbase H hH ?_
  · intro j u' hj
    match j, hj with
    | 0, hj =>
      simp only [List.getElem?_cons_zero, Option.some.injEq] at hj
      subst hj
      obtain ⟨b, o, sp⟩ := ad
      simpa [Addr.add] using hnews
  · intro u' hu
    simp only [List.mem_singleton] at hu
    subst hu
    exact h1
  · intro g cap w' h2 h3 h4 _
    exact h g cap w' h2 h3 h4
theorem step_val {w : World} {ops : Array Oper} {o : Oper} {a : Act} {K : Act → World → Prop} {Q' : Exit → Act → World → Prop} {E : Prop} (hgd : o.guard = none) (s x : Operand)
    (ho : o.op = .call { callee := .builtin .append, args := #[s, x], argTypes := #[23, 23] })
    (B : Nat) (v : Value) (n : Nat) (xs : List Value) (hs : a.eval s = v) (hown : w.ownsRow B 26 5 v n xs) (b : Nat) (hx : a.eval x = .slice (some ⟨b, 0, none⟩) 1 1)
    (cs : Array Value) (hcs : cs.size = 5) (hnews : Bk b cs 26 w) (h1 : ∀ u ∈ cs.toList, u.oneCell' = true) (hlim : n ≤ 1000000) (hbase : B ≤ w.heap.size) (H : Nat) (hH : w.heap.size = H)
    (h : ∀ g cap w', w'.ownsRow B 26 5 (.slice (some ⟨g, 0, none⟩) (n + 1) cap) (n + 1) (xs ++ cs.toList) → w.grownBy w' v.ownBlock → (v.ownBlock = some g ∨ g = H) → K (a.put o.dst (.slice (some ⟨g, 0, none⟩) (n + 1) cap)) w') :
    if Region.wanted o (yielded ops a.tmps) = true then Oper.wp Tryz.prog o a w K Q' else E := by
  obtain ⟨i0, hi, hz0, hz1, hz2⟩ := info_parts info_val
  refine step_append_lies w hgd s x 23 ho B 26 i0 _ 5 80 Tryz.underlying23 hi hz0 hz1 hz2 rfl (by decide) v n xs hs hown ⟨b, 0, none⟩ 1 1 cs.toList hx (by rw [Array.length_toList, hcs]) ?_ h1 (by decide) (by unfold maxLen; omega) (by omega) hbase H hH ?_
  · intro j u' hj
    rw [Array.getElem?_toList] at hj
    have := hnews.at j u' hj
    rw [Addr.add_lit, Nat.zero_add]
    exact this
  · intro g cap w' h2 h3 h4 _
    exact h g cap w' h2 h3 h4

end Go.Proofs.YtjmchjphdfbhiaaGreatDoor.val

namespace Go.Proofs.YtjmchjphdfbhiaaGreatDoor.val
open Go.RowKit
open Go.Proofs.YtjmchjphdfbhiaaGreatDoor
open Go.Proofs.YtjmchjphdfbhiaaGreatDoor.val.cp (Fit FitL Fit_iff FitL_mem Wi Wi_iff Kg set5 set5_block set5_world set5_at)
/-- The cells of a value whose items and keys are these slices. -/
def c5 (v : V) (s : Value × Value) : Array Value := #[.int .i64 v.kind, .int .i64 v.num, .string v.str, s.1, s.2]
def flat (F : Nat → Value × Value) (l : List V) : List Nat → List Value
  | [] => []
  | i :: t => (c5 (l[i]?.getD V0) (F i)).toList ++ flat F l t
theorem flat_app (F : Nat → Value × Value) (l : List V) : ∀ a b : List Nat, flat F l (a ++ b) = flat F l a ++ flat F l b
  | [], _ => rfl
  | i :: t, b => by rw [List.cons_append, flat, flat, flat_app F l t b, List.append_assoc]
theorem flat_at (F : Nat → Value × Value) (l : List V) : ∀ (p : List Nat) (i : Nat) (h : i < p.length) (j : Nat), j < 5 → (flat F l p)[i * 5 + j]? = (c5 (l[p[i]]?.getD V0) (F p[i]))[j]?
  | [], i, h, _, _ => absurd h (Nat.not_lt_zero _)
  | a :: t, 0, _, j, hj => by
    rw [flat, List.getElem?_append_left (by show 0 * 5 + j < 5; omega), Array.getElem?_toList]
    simp
  | a :: t, i + 1, h, j, hj => by
    rw [flat, List.getElem?_append_right (by show 5 ≤ (i + 1) * 5 + j; omega)]
    have := flat_at F l t i (by simpa using h) j hj
    rw [show (i + 1) * 5 + j - (c5 (l[a]?.getD V0) (F a)).toList.length = i * 5 + j by show (i + 1) * 5 + j - 5 = _; omega, this]
    rfl
/-- What Map's loop knows. -/
structure MS (ks : List ByteArray) (l : List V) (p : List Nat) (F : Nat → Value × Value) (S k : Nat) (AK : Option Addr) (cK : Nat) (AI : Option Addr) (cI : Nat) (w3 wr : World) : Prop where
  tw : Tw S 9 1 (.slice AK k cK) k (((Kp ks p).take k).map .string) 26 5 (.slice AI k cI) k (flat F l (p.take k)) w3 wr
  bk : Bk S #[.int .i64 5, .int .i64 0, .string ⟨#[]⟩, .slice AI k cI, .slice AK k cK] 26 wr
  srt : srt ((Kp ks p).take k)
theorem lit_one (w : World) (u : Value) (t : TypeId) : (w.alloc (.cells #[u] t)).cell? ⟨w.heap.size, 0, none⟩ = some u := World.cell?_alloc_at (w := w) _ _ _ _ rfl
/-- What Map hands back. -/
def Mapped (ks : List ByteArray) (l : List V) (w : World) (e : Ending) (w' : World) : Prop :=
  Q w w' ∧ if ks.length = l.length then (match mapP [] (ks.zip l) with
    | some r => ∃ s3 s4, e = .returned (.tuple #[.agg #[.int .i64 5, .int .i64 0, .string ⟨#[]⟩, s3, s4], .int .i64 0]) ∧ Is s3 (r.map (fun b => b.2)) w' ∧ Ks s4 (r.map (fun b => b.1)) w'
    | none => e = .returned (.tuple #[.agg #[.int .i64 0, .int .i64 0, .string ⟨#[]⟩, .slice none 0 0, .slice none 0 0], .int .i64 8]))
  else e = .returned (.tuple #[.agg #[.int .i64 0, .int .i64 0, .string ⟨#[]⟩, .slice none 0 0, .slice none 0 0], .int .i64 1])
set_option maxHeartbeats 4000000 in
set_option maxRecDepth 100000 in
theorem map_ne (ks : List ByteArray) (l : List V) (A4 A3 : Option Addr) (k4 k3 : Nat) (w : World) (hne : ¬ ks.length = l.length) :
    Calls Tryz.prog 27 #[.slice A4 ks.length k4, .slice A3 l.length k3] w (Mapped ks l w) := by
  have hres : Hid (∀ e w', Q w w' → e = .returned (.tuple #[.agg #[.int .i64 0, .int .i64 0, .string ⟨#[]⟩, .slice none 0 0, .slice none 0 0], .int .i64 1]) → Mapped ks l w e w') := Lib.hid (fun e w' q h => ⟨q, by rw [if_neg hne]; exact h⟩)
  obtain ⟨n4, hn4⟩ : ∃ n4, ks.length = n4 := ⟨_, rfl⟩
  obtain ⟨n3, hn3⟩ : ∃ n3, l.length = n3 := ⟨_, rfl⟩
  rw [hn4, hn3] at hne ⊢
  have h1 : ((n4 : Int) != (n3 : Int)) = true := bne_iff_ne.2 (by omega)
  obtain ⟨P, hP⟩ : ∃ P, w.heap.size = P := ⟨_, rfl⟩
  obtain ⟨w1, hw1⟩ : ∃ w1, w.alloc (.cells #[.int .i64 0, .int .i64 0, .string ⟨#[]⟩, .slice none 0 0, .slice none 0 0] 26) = w1 := ⟨_, rfl⟩
  have q1 : Q w w1 := by rw [← hw1]; exact Q.box _ _
  have z : Bk P #[.int .i64 0, .int .i64 0, .string ⟨#[]⟩, .slice none 0 0, .slice none 0 0] 26 w1 := by rw [← hw1, ← hP]; exact Bk.new _ _ _
  have u0 := z.at 0 _ rfl
  have u1 := z.at 1 _ rfl
  have u2 := z.at 2 _ rfl
  have u3 := z.at 3 _ rfl
  have u4 := z.at 4 _ rfl
  have f0 := z.frozen 0
  have f1 := z.frozen 1
  have f2 := z.frozen 2
  have f3 := z.frozen 3
  have f4 := z.frozen 4
  obtain ⟨bf, qf⟩ := store5 (k := 0) (n := 0) (s := ⟨#[]⟩) (s3 := .slice none 0 0) (s4 := .slice none 0 0) hP.symm z q1
  obtain ⟨wf, hwf⟩ : ∃ wf, set5 w1 P 0 (.int .i64 0) (.int .i64 0) (.string ⟨#[]⟩) (.slice none 0 0) (.slice none 0 0) = wf := ⟨_, rfl⟩
  rw [hwf] at bf qf
  unfold set5 at hwf
  simp only [Nat.zero_add] at hwf
  have r0 := bf.at 0 _ rfl
  have r1 := bf.at 1 _ rfl
  have r2 := bf.at 2 _ rfl
  have r3 := bf.at 3 _ rfl
  have r4 := bf.at 4 _ rfl
  have QF := Lib.hid qf
  clear bf qf z q1 hne hn3 hn4
  go_enter Tryz.func27, Tryz.ntmps27
  go_wp2_with fail
  refine bodyPost_ret (by simp [results, Tryz.results27, go_sem, r0, r1, r2, r3, r4]; try rfl) rfl ?_
  exact hres.out _ _ QF.out rfl

end Go.Proofs.YtjmchjphdfbhiaaGreatDoor.val

namespace Go.Proofs.YtjmchjphdfbhiaaGreatDoor.val
open Go.RowKit
open Go.Proofs.YtjmchjphdfbhiaaGreatDoor
open Go.Proofs.YtjmchjphdfbhiaaGreatDoor.val.cp (Fit FitL Fit_iff FitL_mem set5 set5_block set5_world set5_at)
theorem map_wi {ks : List ByteArray} {l : List V} {p : List Nat} {F : Nat → Value × Value} {S k : Nat} {AK : Option Addr} {cK : Nat} {AI : Option Addr} {cI : Nat} {w w3 wr : World} (h : MS ks l p F S k AK cK AI cI w3 wr) (hk : k = p.length) (hF : ∀ i (hi : i < l.length), ∃ b o, Hd l[i] b o (F i).1 (F i).2 w) (hlt : ∀ i ∈ p, i < l.length) (qw : Q w wr) :
    cp.Wi wr.heap.size (fun b => (w.heap.size ≤ b ∧ b < w3.heap.size) ∨ wr.heap.size ≤ b) ⟨5, 0, ⟨#[]⟩, Lp l p, Kp ks p⟩ (.int .i64 5) (.int .i64 0) (.string ⟨#[]⟩) (.slice AI k cI) (.slice AK k cK) wr := by
  have hlK := Kp_len ks p
  have hlL := Lp_len l p
  have o1 := h.tw.own1
  have o2 := h.tw.own2
  have hqs := h.tw.q.size
  have ht1 : (Kp ks p).take k = Kp ks p := List.take_of_length_le (by omega)
  have ht2 : p.take k = p := List.take_of_length_le (by omega)
  rw [ht1] at o1
  rw [ht2] at o2
  have e3 : Value.slice AI k cI = .slice AI (Lp l p).length cI := by rw [hlL, hk]
  have e4 : Value.slice AK k cK = .slice AK (Kp ks p).length cK := by rw [hlK, hk]
  refine (cp.Wi_iff ..).2 ⟨rfl, rfl, rfl, ⟨AI, cI, e3, ?_, fun hn => ?_⟩, ⟨AK, cK, e4, ?_, fun hn => ?_⟩⟩
  · show (Lp l p).length ≤ cI
    rcases o2.2 with ⟨e, e0⟩ | ⟨g, cap, cur, e, _, _, hc, _⟩
    · omega
    · simp only [Value.slice.injEq] at e
      omega
  · rcases o2.2 with ⟨e, e0⟩ | ⟨g, cap, cur, e, _, _, hc, _⟩
    · exact absurd (List.length_eq_zero_iff.1 (by show (Lp l p).length = 0; omega)) hn
    · simp only [Value.slice.injEq] at e
      obtain ⟨rfl, -, rfl⟩ := e
      have hb := o2.lt g rfl
      refine ⟨g, 0, rfl, .inl hb.2, fun e => by omega, cp.WL.of_at _ _ _ _ _ _ (fun i hi => ?_)⟩
      have hi' : i < p.length := by rw [← hlL]; exact hi
      have hil : p[i] < l.length := hlt _ (List.getElem_mem hi')
      have key : ∀ j, j < 5 → wr.cell? ⟨g, 0 + i * 5 + j, none⟩ = (c5 l[p[i]] (F p[i]))[j]? := fun j hj => by
        rw [Nat.zero_add, World.ownsRow.cellAt o2 (i * 5 + j) (by omega), flat_at F l p i hi' j hj, List.getElem?_eq_getElem hil]
        rfl
      obtain ⟨b, o, hd⟩ := hF _ hil
      have hvi := (cp.Vi.both_wi w wr.heap.size qw.size (fun b => (w.heap.size ≤ b ∧ b < w3.heap.size) ∨ wr.heap.size ≤ b) (fun b hb e => by have := qw.size; omega)).1 _ _ _ _ _ _ hd.vi
      have hvi := (cp.Wi.both_stays _ _ qw).1 _ _ _ _ _ _ hvi
      have e : ∀ hh : i < (Lp l p).length, (Lp l p)[i] = l[p[i]] := fun hh => by
        have e' : (Lp l p)[i]? = some l[p[i]] := by
          unfold Lp
          rw [List.getElem?_map, List.getElem?_eq_getElem hi', Option.map_some, List.getElem?_eq_getElem hil]
          rfl
        exact Option.some.inj ((List.getElem?_eq_getElem hh).symm.trans e')
      refine ⟨_, _, _, _, _, ⟨key 0 (by decide), key 1 (by decide), key 2 (by decide), key 3 (by decide), key 4 (by decide)⟩, ?_⟩
      have hi3 : i < (Lp l p).length := hi
      show cp.Wi _ _ ((Lp l p)[i]'hi3) _ _ _ _ _ _
      rw [e]
      exact hvi
  · show (Kp ks p).length ≤ cK
    rcases o1.2 with ⟨e, e0⟩ | ⟨g, cap, cur, e, _, _, hc, _⟩
    · omega
    · simp only [Value.slice.injEq] at e
      omega
  · rcases o1.2 with ⟨e, e0⟩ | ⟨g, cap, cur, e, _, _, hc, _⟩
    · exact absurd (List.length_eq_zero_iff.1 (by show (Kp ks p).length = 0; omega)) hn
    · simp only [Value.slice.injEq] at e
      obtain ⟨rfl, -, rfl⟩ := e
      have hb := o1.lt g rfl
      refine ⟨g, 0, rfl, fun e => by omega, KL.of_at _ _ _ _ (fun i hi => ?_)⟩
      have hi2 : i < (Kp ks p).length := hi
      rw [Nat.zero_add, World.ownsRow.cellAt o1 i (by omega), List.getElem?_map, List.getElem?_eq_getElem hi2]
      rfl
theorem nodesL_perm {l m : List V} (h : l.Perm m) : nodesL l = nodesL m := by
  induction h with
  | nil => rfl
  | cons x _ ih => rw [nodesL, nodesL, ih]
  | swap x y t => rw [nodesL, nodesL, nodesL, nodesL]; omega
  | trans _ _ h1 h2 => exact h1.trans h2
theorem Lp_perm {ks : List ByteArray} {l : List V} {p : List Nat} (h : Ord ks p) (hl : ks.length = l.length) : (Lp l p).Perm l := by
  have := h.perm.map (fun i => l[i]?.getD V0)
  rw [hl, range_map] at this
  exact this
theorem Kp_perm {ks : List ByteArray} {p : List Nat} (h : Ord ks p) : (Kp ks p).Perm ks := by
  have := h.perm.map (fun i => ks[i]?.getD ⟨#[]⟩)
  rw [range_map] at this
  exact this
/-- `cp.copyOf_gen` for a value written out. -/
theorem copy_gmk (k n : Int) (s : ByteArray) (l : List V) (ks : List ByteArray) (A3 A4 : Option Addr) (k3 k4 n3 n4 most : Nat) (e3 : n3 = l.length) (e4 : n4 = ks.length) (w : World) (X : Nat → Prop) (hX : cp.Wi w.heap.size (fun b => X b ∨ w.heap.size ≤ b) ⟨k, n, s, l, ks⟩ (.int .i64 k) (.int .i64 n) (.string s) (.slice A3 n3 k3) (.slice A4 n4 k4) w) (hf : Fit ⟨k, n, s, l, ks⟩) (hm : nodesL l ≤ most) (hb : most ≤ 1000000000) (hv : nodesL l ≤ 899990) :
    Calls Tryz.prog 50 #[.agg #[.int .i64 k, .int .i64 n, .string s, .slice A3 n3 k3, .slice A4 n4 k4], .int .i64 most] w fun e w' => ∃ B3 d3 B4 d4, e = .returned (.agg #[.int .i64 k, .int .i64 n, .string s, .slice B3 n3 d3, .slice B4 n4 d4]) ∧ (∀ wf : World, (∀ j, j < w'.heap.size → (¬ X j ∨ w.heap.size ≤ j) → wf.heap[j]? = w'.heap[j]?) → Is (.slice B3 n3 d3) l wf ∧ Ks (.slice B4 n4 d4) ks wf) ∧ Q w w' := by
  subst e3
  subst e4
  refine (cp.copyOf_gen ⟨k, n, s, l, ks⟩ A3 A4 k3 k4 most w X hX hf hm hb (by rw [nodes]; omega)).mono ?_
  rintro e w' ⟨s3, s4, rfl, hI, q⟩
  have hh := hI w' (fun j _ _ => rfl)
  obtain ⟨B3, d3, rfl, -⟩ := hh.1.shape
  obtain ⟨B4, d4, rfl, -⟩ := hh.2.shape
  exact ⟨B3, d3, B4, d4, rfl, hI, q⟩

end Go.Proofs.YtjmchjphdfbhiaaGreatDoor.val
