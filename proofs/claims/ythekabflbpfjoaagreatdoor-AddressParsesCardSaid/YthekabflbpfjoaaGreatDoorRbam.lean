/- The reference's Bare. -/
import Derived.Test.YthekabflbpfjoaaGreatDoorAvgm
import Derived.Deep.RegionHeld3
import Derived.Deep.AppendLies
namespace Go.Proofs.YthekabflbpfjoaaGreatDoor.adr
open Go.RowKit
open Go.Proofs.YthekabflbpfjoaaGreatDoor

theorem step_sr {w : World} {ops : Array Oper} {o : Oper} {a : Act} {K : Act → World → Prop} {Q' : Exit → Act → World → Prop} {E : Prop} (hgd : o.guard = none) (s x : Operand)
    (ho : o.op = .call { callee := .builtin .append, args := #[s, x], argTypes := #[22, 22] })
    (B : Nat) (v : Value) (l : List St) (st : St) (hs : a.eval s = v) (hown : Sr B v l w) (ad : Addr) (c : Nat) (hx : a.eval x = .slice (some ad) 1 c)
    (hnews : ∀ j u, (stCells [st])[j]? = some u → w.cell? (ad.add j) = some u) (hlim : l.length ≤ 1000) (hbase : B ≤ w.heap.size)
    (h : ∀ v' w', Sr B v' (l ++ [st]) w' → Kp B w w' → K (a.put o.dst v') w') :
    if Region.wanted o (yielded ops a.tmps) = true then Oper.wp Tryz.prog o a w K Q' else E := by
  obtain ⟨i0, hi, hz0, hz1, hz2⟩ := info_parts info_step
  refine step_append_lies _ hgd s x 22 ho B 44 i0 (.agg #[.string ⟨#[]⟩, .int .i64 0, .int .i64 0, .string ⟨#[]⟩]) 4 48 Tryz.underlying22 hi hz0 hz1 hz2 rfl (by decide) v l.length (stCells l) hs hown ad 1 c (stCells [st]) hx (by rw [stCells_len]; rfl) hnews ?_ (by decide) (by unfold maxLen; omega) (by omega) hbase w.heap.size rfl ?_
  · intro u hu
    simp only [stCells, List.mem_cons, List.not_mem_nil, or_false] at hu
    rcases hu with rfl | rfl | rfl | rfl <;> rfl
  · intro g cap w' h1 h2 _ _
    refine h _ w' ?_ (Kp.grown hown h2 hbase)
    unfold Sr
    rw [List.length_append, stCells_app]
    exact h1

theorem seen_put {v5 : World} {p0 p1 b q : Nat} {x y u : Value} (h0 : p0 ≠ p1) (hb : b ≠ p1) (x0 : v5.cell? ⟨p0, 0, none⟩ = some x) (xb : v5.cell? ⟨b, q, none⟩ = some y) :
    (v5.setCell ⟨p1, 0, none⟩ u).cell? ⟨p0, 0, none⟩ = some x ∧ (v5.setCell ⟨p1, 0, none⟩ u).cell? ⟨b, q, none⟩ = some y :=
  ⟨(World.cell?_of_block (Below.heap_setCell v5 ⟨p1, 0, none⟩ u p0 h0)).trans x0, (World.cell?_of_block (Below.heap_setCell v5 ⟨p1, 0, none⟩ u b hb)).trans xb⟩
theorem Bk.set0 {p : Nat} {a b c d e f g : Value} {t : TypeId} {w : World} (h : Bk p #[a, b, c, d, e, f, g] t w) (x : Value) : Bk p #[x, b, c, d, e, f, g] t (w.setCell ⟨p, 0, none⟩ x) := h.set 0 x


/-- What Bare hands back. -/
def BaE (n : Nat) (ms : List St) (r : Rs) (w : World) (e : Ending) (w' : World) : Prop := ∃ A' c', e = .returned (rv (.slice A' n c') (bareR r)) ∧ In A' (ms.map bareS) w' ∧ Q w w'
set_option maxRecDepth 100000 in
set_option maxHeartbeats 16000000 in
theorem refBare_any (A : Option Addr) (n c : Nat) (ms : List St) (r : Rs) (w : World) (hn : n = ms.length) (hI : In A ms w) (h16 : ms.length ≤ 16) :
    Calls Tryz.prog 42 #[rv (.slice A n c) r] w (BaE n ms r w) := by
  have HN := Lib.hid hn
  have HI := Lib.hid hI
  have hn16 : Hid (n ≤ 16) := Lib.hid (by rw [hn]; exact h16)
  clear hn hI h16
  obtain ⟨d, ty, nm, ⟨kd, m, t⟩⟩ := r
  unfold rv
  simp only
  go_enter Tryz.func42, Tryz.ntmps42
  have q1 := Q.alloc w (.cells #[.slice A n c, .bool d, .string ty, .string nm, .int .i64 kd, .int .i64 m, .string t] 27)
  have q2 := Q.alloc (w.alloc (.cells #[.slice A n c, .bool d, .string ty, .string nm, .int .i64 kd, .int .i64 m, .string t] 27)) (.cells #[.slice none 0 0, .bool false, .string ⟨#[]⟩, .string ⟨#[]⟩, .int .i64 0, .int .i64 0, .string ⟨#[]⟩] 27)
  have e1 : (w.alloc (.cells #[.slice A n c, .bool d, .string ty, .string nm, .int .i64 kd, .int .i64 m, .string t] 27)).heap.size = w.heap.size + 1 := by simp
  have e2 : ((w.alloc (.cells #[.slice A n c, .bool d, .string ty, .string nm, .int .i64 kd, .int .i64 m, .string t] 27)).alloc (.cells #[.slice none 0 0, .bool false, .string ⟨#[]⟩, .string ⟨#[]⟩, .int .i64 0, .int .i64 0, .string ⟨#[]⟩] 27)).heap.size = w.heap.size + 1 + 1 := by simp
  have bb := (Bk.new #[.slice A n c, .bool d, .string ty, .string nm, .int .i64 kd, .int .i64 m, .string t] 27 w).stays q2
  have bz := Bk.new #[.slice none 0 0, .bool false, .string ⟨#[]⟩, .string ⟨#[]⟩, .int .i64 0, .int .i64 0, .string ⟨#[]⟩] 27 (w.alloc (.cells #[.slice A n c, .bool d, .string ty, .string nm, .int .i64 kd, .int .i64 m, .string t] 27))
  rw [e1] at bz
  have l0 := bb.at 0 _ rfl
  have l1 := bb.at 1 _ rfl
  have l2 := bb.at 2 _ rfl
  have l3 := bb.at 3 _ rfl
  go_wp2_with fail
  have q3 := Q.alloc ((w.alloc (.cells #[.slice A n c, .bool d, .string ty, .string nm, .int .i64 kd, .int .i64 m, .string t] 27)).alloc (.cells #[.slice none 0 0, .bool false, .string ⟨#[]⟩, .string ⟨#[]⟩, .int .i64 0, .int .i64 0, .string ⟨#[]⟩] 27)) (.cells #[.slice none 0 0, .bool d, .string ty, .string nm, .int .i64 0, .int .i64 0, .string ⟨#[]⟩] 27)
  have b1 := Bk.new #[.slice none 0 0, .bool d, .string ty, .string nm, .int .i64 0, .int .i64 0, .string ⟨#[]⟩] 27 ((w.alloc (.cells #[.slice A n c, .bool d, .string ty, .string nm, .int .i64 kd, .int .i64 m, .string t] 27)).alloc (.cells #[.slice none 0 0, .bool false, .string ⟨#[]⟩, .string ⟨#[]⟩, .int .i64 0, .int .i64 0, .string ⟨#[]⟩] 27))
  rw [e2] at b1
  have B1 := Lib.hid b1
  have BB := Lib.hid (bb.stays q3)
  have ZB : Hid (Zb (w.heap.size + 1) (((w.alloc (.cells #[.slice A n c, .bool d, .string ty, .string nm, .int .i64 kd, .int .i64 m, .string t] 27)).alloc (.cells #[.slice none 0 0, .bool false, .string ⟨#[]⟩, .string ⟨#[]⟩, .int .i64 0, .int .i64 0, .string ⟨#[]⟩] 27)).alloc (.cells #[.slice none 0 0, .bool d, .string ty, .string nm, .int .i64 0, .int .i64 0, .string ⟨#[]⟩] 27))) := Lib.hid (Bk.stays bz q3)
  have Q1 := Lib.hid ((q1.trans q2).trans q3)
  clear b1 bb bz q1 q2 q3 e1 e2 l0 l1 l2 l3
  generalize (((w.alloc (.cells #[.slice A n c, .bool d, .string ty, .string nm, .int .i64 kd, .int .i64 m, .string t] 27)).alloc (.cells #[.slice none 0 0, .bool false, .string ⟨#[]⟩, .string ⟨#[]⟩, .int .i64 0, .int .i64 0, .string ⟨#[]⟩] 27)).alloc (.cells #[.slice none 0 0, .bool d, .string ty, .string nm, .int .i64 0, .int .i64 0, .string ⟨#[]⟩] 27)) = w3 at *
  obtain ⟨p1, hp1⟩ : ∃ z, w.heap.size + 1 + 1 = z := ⟨_, rfl⟩
  rw [hp1] at B1 ⊢
  have hp01 : w.heap.size < p1 := by omega
  have hne2 : Hid (w.heap.size + 1 ≠ p1) := Lib.hid (by omega)
  clear hp1
  go_loopw [4] (fun i wr => ∃ (k : Nat) (V : Value), k ≤ n ∧ i = .int .i64 k ∧ Hid (Q w wr) ∧ Hid (Bk w.heap.size #[.slice A n c, .bool d, .string ty, .string nm, .int .i64 kd, .int .i64 m, .string t] 27 wr) ∧ Hid (Bk p1 #[V, .bool d, .string ty, .string nm, .int .i64 0, .int .i64 0, .string ⟨#[]⟩] 27 wr) ∧ Hid (Sr w.heap.size V ((ms.take k).map bareS) wr) ∧ Hid (Zb (w.heap.size + 1) wr)) (fun i _ => n - (intOf i).toNat)
  case atStart => exact ⟨0, .slice none 0 0, Nat.zero_le _, rfl, Q1, BB, B1, Lib.hid (Sr.nil _ _), ZB⟩
  case round =>
    clear BB Q1 B1 ZB
    obtain ⟨k, V, hk, rfl, QQ, BB, B1, SR, ZB⟩ := hrel
    have l0 := BB.out.at 0 (.slice A n c) rfl
    by_cases hlt : k < n
    · have hlt2 : k < ms.length := by rw [← HN.out]; exact hlt
      obtain ⟨b, o, rfl, hbb, hcc⟩ := HI.out (by intro e; rw [e] at hlt2; cases hlt2)
      obtain ⟨b', o', e', _, hcc'⟩ := (HI.out.stays QQ.out) (by intro e; rw [e] at hlt2; cases hlt2)
      simp only [Option.some.injEq, Addr.mk.injEq, and_true] at e'
      obtain ⟨rfl, rfl⟩ := e'
      obtain ⟨g0, _⟩ := hcc' k hlt2
      have hnx : Hid ((ms.take (k + 1)).map bareS = (ms.take k).map bareS ++ [⟨ms[k].name, K.zero⟩]) := Lib.hid (by rw [List.take_succ_eq_append_getElem hlt2, List.map_append]; rfl)
      have hll : Hid (((ms.take k).map bareS).length ≤ 1000) := Lib.hid (by rw [List.length_map, List.length_take]; have := hn16.out; omega)
      obtain ⟨nk, hnk⟩ : ∃ z, ms[k].name = z := ⟨_, rfl⟩
      rw [hnk] at g0 hnx
      have l1 := B1.out.at 0 V rfl
      have z1 := B1.out.frozen 0
      have lt0 : w.heap.size < wr.heap.size := BB.out.lt
      have lt1 : p1 < wr.heap.size := B1.out.lt
      have ltb : b < wr.heap.size := by omega
      have hSz : Hid (w.heap.size ≤ wr.heap.size) := Lib.hid (by omega)
      clear hcc hcc' hnk
      have hlt' : (k : Int) < (n : Int) := by omega
      have hk0 : (0 : Int) ≤ (k : Int) := Int.natCast_nonneg _
      have hk16 : (k : Int) ≤ 16 := by have := hn16.out; omega
      go_wp2_with fail
      have hne0 : w.heap.size ≠ p1 := by omega
      have hneb : b ≠ p1 := by omega
      have hS0 : wr.cell? ⟨w.heap.size, 0, none⟩ = some (.slice (some ⟨b, o, none⟩) n c) ∧ wr.cell? ⟨b, o + k * 4, none⟩ = some (.string nk) := ⟨l0, g0⟩
      have qA := (Q.drewN wr 1).trans (Q.alloc wr.drew (.cells #[.string nk, .int .i64 0, .int .i64 0, .string ⟨#[]⟩] 44))
      have hSA : (wr.drew.alloc (.cells #[.string nk, .int .i64 0, .int .i64 0, .string ⟨#[]⟩] 44)).cell? ⟨w.heap.size, 0, none⟩ = some (.slice (some ⟨b, o, none⟩) n c) ∧ (wr.drew.alloc (.cells #[.string nk, .int .i64 0, .int .i64 0, .string ⟨#[]⟩] 44)).cell? ⟨b, o + k * 4, none⟩ = some (.string nk) := ⟨(Below.cell qA (p := ⟨w.heap.size, 0, none⟩) lt0).trans l0, (Below.cell qA (p := ⟨b, o + k * 4, none⟩) ltb).trans g0⟩
      have l1A := (Below.cell qA (p := ⟨p1, 0, none⟩) lt1).trans l1
      refine Go.wp_region_held_drew (S := (fun w' => w'.cell? ⟨w.heap.size, 0, none⟩ = some (.slice (some ⟨b, o, none⟩) n c) ∧ w'.cell? ⟨b, o + k * 4, none⟩ = some (.string nk))) (by kernel_rfl) hS0 (fun hHeld => ?_)
      refine Go.wpAnyH_take (i := 0) (oi := _) (v := ?_) rfl (by kernel_rfl) (by kernel_rfl) (by kernel_rfl) (fun _ _ _ h => h) (Or.inl ⟨by rfl, ?_⟩) (by assumption) ?_
      rotate_left 1
      · intro wx hSw
        go_simp <;> with_reducible rfl
      simp only [Act.put, List.getElem_toArray, List.getElem_cons_zero, List.setIfInBounds_toArray, List.set_cons_zero, List.set_cons_succ]
      refine Go.wpAnyH_take (i := 2) (oi := _) (v := ?_) rfl (by kernel_rfl) (by kernel_rfl) (by kernel_rfl) (fun _ _ _ h => h) (Or.inl ⟨by rfl, ?_⟩) (by assumption) ?_
      rotate_left 1
      · intro wx hSw
        go_simp <;> with_reducible rfl
      simp only [Act.put, List.getElem_toArray, List.getElem_cons_zero, List.getElem_cons_succ, List.setIfInBounds_toArray, List.set_cons_zero, List.set_cons_succ]
      refine Go.wpAnyH_take (i := 3) (oi := _) (v := ?_) rfl (by kernel_rfl) (by kernel_rfl) (by kernel_rfl) (fun _ _ _ h => h) (Or.inl ⟨by rfl, ?_⟩) (by assumption) ?_
      rotate_left 1
      · intro wx hSw
        go_simp <;> with_reducible rfl
      simp only [Act.put, List.getElem_toArray, List.getElem_cons_zero, List.getElem_cons_succ, List.setIfInBounds_toArray, List.set_cons_zero, List.set_cons_succ]
      refine Go.wpAnyH_take (i := 4) (oi := _) (v := ?_) rfl (by kernel_rfl) (by kernel_rfl) (by kernel_rfl) (fun _ _ _ h => h) (Or.inl ⟨by rfl, ?_⟩) (by assumption) ?_
      rotate_left 1
      · intro wx hSw
        go_simp <;> with_reducible rfl
      simp only [Act.put, List.getElem_toArray, List.getElem_cons_zero, List.getElem_cons_succ, List.setIfInBounds_toArray, List.set_cons_zero, List.set_cons_succ]
      refine Go.wpAnyH_take (i := 5) (oi := _) (v := ?_) rfl (by kernel_rfl) (by kernel_rfl) (by kernel_rfl) (fun _ _ _ h => h) (Or.inl ⟨by rfl, ?_⟩) (by assumption) ?_
      rotate_left 1
      · intro wx hSw
        go_simp <;> with_reducible rfl
      simp only [Act.put, List.getElem_toArray, List.getElem_cons_zero, List.getElem_cons_succ, List.setIfInBounds_toArray, List.set_cons_zero, List.set_cons_succ]
      refine Go.wpAnyH_take (i := 6) (oi := _) (v := ?_) rfl (by kernel_rfl) (by kernel_rfl) (by kernel_rfl) (fun _ _ _ h => h) (Or.inl ⟨by rfl, ?_⟩) (by assumption) ?_
      rotate_left 1
      · intro wx hSw
        go_simp <;> with_reducible rfl
      simp only [Act.put, List.getElem_toArray, List.getElem_cons_zero, List.getElem_cons_succ, List.setIfInBounds_toArray, List.set_cons_zero, List.set_cons_succ]
      refine Go.wpAnyH_take (i := 7) (oi := _) (v := ?_) rfl (by kernel_rfl) (by kernel_rfl) (by kernel_rfl) (fun _ _ _ h => h) (Or.inl ⟨by rfl, ?_⟩) (by assumption) ?_
      rotate_left 1
      · intro wx hSw
        go_simp <;> with_reducible rfl
      simp only [Act.put, List.getElem_toArray, List.getElem_cons_zero, List.getElem_cons_succ, List.setIfInBounds_toArray, List.set_cons_zero, List.set_cons_succ]
      refine Go.wpAnyH_take (i := 8) (oi := _) (v := ?_) rfl (by kernel_rfl) (by kernel_rfl) (by kernel_rfl) (fun _ _ _ h => h) (Or.inl ⟨by rfl, ?_⟩) (by assumption) ?_
      rotate_left 1
      · intro wx hSw
        go_simp <;> with_reducible rfl
      simp only [Act.put, List.getElem_toArray, List.getElem_cons_zero, List.getElem_cons_succ, List.setIfInBounds_toArray, List.set_cons_zero, List.set_cons_succ]
      refine Go.wpAnyH_ready (rs := [1, 9]) (by kernel_rfl) (by simp) ?_
      refine Go.AllReadyH.cons rfl (fun Kx hK => ?_) (Go.AllReadyH.cons rfl (fun Kx hK => ?_) Go.AllReadyH.nil)
      · go_simp
        refine hK.out _ _ hS0 (fun hHeld => ?_)
        clear hK Kx
        try simp only [Act.put, List.getElem_toArray, List.getElem_cons_zero, List.getElem_cons_succ, List.setIfInBounds_toArray, List.set_cons_zero, List.set_cons_succ]
        refine Go.wpAnyH_ready (rs := [9]) (by kernel_rfl) (by simp) ?_
        refine Go.AllReadyH.cons rfl (fun Kx hK => ?_) Go.AllReadyH.nil
        go_simp
        refine hK.out _ _ (hSA) (fun hHeld => ?_)
        clear hK Kx
        try simp only [Act.put, List.getElem_toArray, List.getElem_cons_zero, List.getElem_cons_succ, List.setIfInBounds_toArray, List.set_cons_zero, List.set_cons_succ]
        refine Go.wpAnyH_ready (rs := [10]) (by kernel_rfl) (by simp) ?_
        refine Go.AllReadyH.cons rfl (fun Kx hK => ?_) Go.AllReadyH.nil
        refine step_sr (by rfl) _ _ (by rfl) w.heap.size V ((ms.take k).map bareS) ⟨nk, K.zero⟩ (by rfl) (SR.out.stays qA) ⟨wr.heap.size, 0, none⟩ 1 (by rfl) (World.news_of_block (cs := #[.string nk, .int .i64 0, .int .i64 0, .string ⟨#[]⟩]) (t := 44) (fr := (0, 0)) (heap_alloc_new _ _)) hll.out (Nat.le_trans hSz.out qA.size) ?_
        intro V5 v5 hs5 k5
        obtain ⟨A5, c5, rfl⟩ := hs5.shape
        obtain ⟨n5, hn5⟩ : ∃ z, ((ms.take k).map bareS ++ [(⟨nk, K.zero⟩ : St)]).length = z := ⟨_, rfl⟩
        rw [hn5] at hs5 ⊢
        clear hn5
        have B5 := Lib.hid ((B1.out.stays qA).kept (by decide) k5)
        have BA5 := Lib.hid ((BB.out.stays qA).kept (by decide) k5)
        have ZB5 := Lib.hid ((ZB.out.stays qA).kept k5)
        have KK5 := Lib.hid ((Kp.of qA hSz.out).trans k5)
        have SR5 := Lib.hid hs5
        clear hs5 k5
        have x1 := B5.out.at 0 V rfl
        have z5 := B5.out.frozen 0
        have x0 := BA5.out.at 0 (.slice (some ⟨b, o, none⟩) n c) rfl
        have xb := (Below.cell KK5.out.below (p := ⟨b, o + k * 4, none⟩) hbb).trans g0
        refine hK.out _ _ (⟨x0, xb⟩) (fun hHeld => ?_)
        clear hK Kx
        try simp only [Act.put, List.getElem_toArray, List.getElem_cons_zero, List.getElem_cons_succ, List.setIfInBounds_toArray, List.set_cons_zero, List.set_cons_succ]
        refine Go.wpAnyH_take (i := 11) (oi := _) (v := ?_) rfl (by kernel_rfl) (by kernel_rfl) (by kernel_rfl) (fun _ _ _ h => h) (Or.inl ⟨by rfl, ?_⟩) (by assumption) ?_
        rotate_left 1
        · intro wx hSw
          go_simp <;> with_reducible rfl
        simp only [Act.put, List.getElem_toArray, List.getElem_cons_zero, List.getElem_cons_succ, List.setIfInBounds_toArray, List.set_cons_zero, List.set_cons_succ]
        refine Go.wpAnyH_ready (rs := [12]) (by kernel_rfl) (by simp) ?_
        refine Go.AllReadyH.cons rfl (fun Kx hK => ?_) Go.AllReadyH.nil
        go_simp
        refine hK.out _ _ (seen_put hne0 hneb x0 xb) (fun hHeld => ?_)
        clear hK Kx
        try simp only [Act.put, List.getElem_toArray, List.getElem_cons_zero, List.getElem_cons_succ, List.setIfInBounds_toArray, List.set_cons_zero, List.set_cons_succ]
        refine Go.wpAnyH_done (by kernel_rfl) ?_ _
        have QQ6 := Lib.hid (Q.put (Below.trans QQ.out KK5.out.below) (p := p1) (Nat.le_of_lt hp01) 0 (.slice A5 n5 c5))
        have BB6 := Lib.hid (BA5.out.other hne0 0 (.slice A5 n5 c5))
        have B6 := Lib.hid (B5.out.set0 (.slice A5 n5 c5))
        have SR6 := Lib.hid (SR5.out.put B5.out (by decide) 0 (.slice A5 n5 c5))
        rw [← hnx.out] at SR6
        have ZB6 : Hid (Zb (w.heap.size + 1) _) := Lib.hid (Bk.other ZB5.out hne2.out 0 (.slice A5 n5 c5))
        go_wp2_with fail
        go_roundw
        case rel => exact ⟨k + 1, _, hlt, by go_num, QQ6, BB6, B6, SR6, ZB6⟩
        case measure => simp [intOf]; omega
      · go_simp
        refine hK.out _ _ hSA (fun hHeld => ?_)
        clear hK Kx
        try simp only [Act.put, List.getElem_toArray, List.getElem_cons_zero, List.getElem_cons_succ, List.setIfInBounds_toArray, List.set_cons_zero, List.set_cons_succ]
        refine Go.wpAnyH_ready (rs := [1]) (by kernel_rfl) (by simp) ?_
        refine Go.AllReadyH.cons rfl (fun Kx hK => ?_) Go.AllReadyH.nil
        go_simp
        refine hK.out _ _ (hSA) (fun hHeld => ?_)
        clear hK Kx
        try simp only [Act.put, List.getElem_toArray, List.getElem_cons_zero, List.getElem_cons_succ, List.setIfInBounds_toArray, List.set_cons_zero, List.set_cons_succ]
        refine Go.wpAnyH_ready (rs := [10]) (by kernel_rfl) (by simp) ?_
        refine Go.AllReadyH.cons rfl (fun Kx hK => ?_) Go.AllReadyH.nil
        refine step_sr (by rfl) _ _ (by rfl) w.heap.size V ((ms.take k).map bareS) ⟨nk, K.zero⟩ (by rfl) (SR.out.stays qA) ⟨wr.heap.size, 0, none⟩ 1 (by rfl) (World.news_of_block (cs := #[.string nk, .int .i64 0, .int .i64 0, .string ⟨#[]⟩]) (t := 44) (fr := (0, 0)) (heap_alloc_new _ _)) hll.out (Nat.le_trans hSz.out qA.size) ?_
        intro V5 v5 hs5 k5
        obtain ⟨A5, c5, rfl⟩ := hs5.shape
        obtain ⟨n5, hn5⟩ : ∃ z, ((ms.take k).map bareS ++ [(⟨nk, K.zero⟩ : St)]).length = z := ⟨_, rfl⟩
        rw [hn5] at hs5 ⊢
        clear hn5
        have B5 := Lib.hid ((B1.out.stays qA).kept (by decide) k5)
        have BA5 := Lib.hid ((BB.out.stays qA).kept (by decide) k5)
        have ZB5 := Lib.hid ((ZB.out.stays qA).kept k5)
        have KK5 := Lib.hid ((Kp.of qA hSz.out).trans k5)
        have SR5 := Lib.hid hs5
        clear hs5 k5
        have x1 := B5.out.at 0 V rfl
        have z5 := B5.out.frozen 0
        have x0 := BA5.out.at 0 (.slice (some ⟨b, o, none⟩) n c) rfl
        have xb := (Below.cell KK5.out.below (p := ⟨b, o + k * 4, none⟩) hbb).trans g0
        refine hK.out _ _ (⟨x0, xb⟩) (fun hHeld => ?_)
        clear hK Kx
        try simp only [Act.put, List.getElem_toArray, List.getElem_cons_zero, List.getElem_cons_succ, List.setIfInBounds_toArray, List.set_cons_zero, List.set_cons_succ]
        refine Go.wpAnyH_take (i := 11) (oi := _) (v := ?_) rfl (by kernel_rfl) (by kernel_rfl) (by kernel_rfl) (fun _ _ _ h => h) (Or.inl ⟨by rfl, ?_⟩) (by assumption) ?_
        rotate_left 1
        · intro wx hSw
          go_simp <;> with_reducible rfl
        simp only [Act.put, List.getElem_toArray, List.getElem_cons_zero, List.getElem_cons_succ, List.setIfInBounds_toArray, List.set_cons_zero, List.set_cons_succ]
        refine Go.wpAnyH_ready (rs := [12]) (by kernel_rfl) (by simp) ?_
        refine Go.AllReadyH.cons rfl (fun Kx hK => ?_) Go.AllReadyH.nil
        go_simp
        refine hK.out _ _ (seen_put hne0 hneb x0 xb) (fun hHeld => ?_)
        clear hK Kx
        try simp only [Act.put, List.getElem_toArray, List.getElem_cons_zero, List.getElem_cons_succ, List.setIfInBounds_toArray, List.set_cons_zero, List.set_cons_succ]
        refine Go.wpAnyH_done (by kernel_rfl) ?_ _
        have QQ6 := Lib.hid (Q.put (Below.trans QQ.out KK5.out.below) (p := p1) (Nat.le_of_lt hp01) 0 (.slice A5 n5 c5))
        have BB6 := Lib.hid (BA5.out.other hne0 0 (.slice A5 n5 c5))
        have B6 := Lib.hid (B5.out.set0 (.slice A5 n5 c5))
        have SR6 := Lib.hid (SR5.out.put B5.out (by decide) 0 (.slice A5 n5 c5))
        rw [← hnx.out] at SR6
        have ZB6 : Hid (Zb (w.heap.size + 1) _) := Lib.hid (Bk.other ZB5.out hne2.out 0 (.slice A5 n5 c5))
        go_wp2_with fail
        go_roundw
        case rel => exact ⟨k + 1, _, hlt, by go_num, QQ6, BB6, B6, SR6, ZB6⟩
        case measure => simp [intOf]; omega
    · obtain rfl : n = k := by omega
      have hb0 : (ms.take n).map bareS = ms.map bareS := by rw [HN.out, List.take_length]
      rw [hb0] at SR
      clear hb0
      obtain ⟨A1, c1, rfl⟩ := SR.out.shape
      have hbl : (ms.map bareS).length = n := by rw [List.length_map]; exact HN.out.symm
      rw [hbl] at SR B1
      clear BB hbl
      have u0 := B1.out.at 0 (.slice A1 n c1) rfl
      have u1 := B1.out.at 1 (.bool d) rfl
      have u2 := B1.out.at 2 (.string ty) rfl
      have u3 := B1.out.at 3 (.string nm) rfl
      have u4 := B1.out.at 4 (.int .i64 0) rfl
      have u5 := B1.out.at 5 (.int .i64 0) rfl
      have u6 := B1.out.at 6 (.string ⟨#[]⟩) rfl
      have SP := Lib.hid (SR.out.put7 ZB.out (.slice A1 n c1) (.bool d) (.string ty) (.string nm) (.int .i64 0) (.int .i64 0) (.string ⟨#[]⟩))
      obtain ⟨a0, a1, a2, a3, a4, a5, a6, z0, z1, z2, z3, z4, z5, z6⟩ := ZB.out.out
      have bp := Lib.hid (Bk.put7 ZB.out (.slice A1 n c1) (.bool d) (.string ty) (.string nm) (.int .i64 0) (.int .i64 0) (.string ⟨#[]⟩))
      have KP := Lib.hid (QQ.out.put7 (p := w.heap.size + 1) (by omega) (.slice A1 n c1) (.bool d) (.string ty) (.string nm) (.int .i64 0) (.int .i64 0) (.string ⟨#[]⟩))
      clear ZB QQ SR B1
      go_wp2_with fail
      have y0 := bp.out.at 0 (.slice A1 n c1) rfl
      have y1 := bp.out.at 1 (.bool d) rfl
      have y2 := bp.out.at 2 (.string ty) rfl
      have y3 := bp.out.at 3 (.string nm) rfl
      have y4 := bp.out.at 4 (.int .i64 0) rfl
      have y5 := bp.out.at 5 (.int .i64 0) rfl
      have y6 := bp.out.at 6 (.string ⟨#[]⟩) rfl
      refine bodyPost_ret (by simp [results, Tryz.results42, go_sem, y0, y1, y2, y3, y4, y5, y6]; try rfl) rfl ?_
      exact ⟨A1, c1, rfl, SP.out.in, KP.out⟩

end Go.Proofs.YthekabflbpfjoaaGreatDoor.adr
