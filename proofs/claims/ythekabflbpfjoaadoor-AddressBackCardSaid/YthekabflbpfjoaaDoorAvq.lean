/- The law AddressBack. -/
import Derived.Test.YthekabflbpfjoaaDoorAvz
import Derived.Test.YthekabflbpfjoaaDoorAvo
import Derived.Deep.RegionHeld3
import Derived.Deep.AppendLies
namespace Go.Proofs.YthekabflbpfjoaaDoor.adr
open Go.RowKit
open Go.Proofs.YthekabflbpfjoaaDoor

theorem step_sr {w : World} {ops : Array Oper} {o : Oper} {a : Act} {K : Act → World → Prop} {Q' : Exit → Act → World → Prop} {E : Prop} (hgd : o.guard = none) (s x : Operand)
    (ho : o.op = .call { callee := .builtin .append, args := #[s, x], argTypes := #[24, 24] })
    (B : Nat) (v : Value) (l : List St) (st : St) (hs : a.eval s = v) (hown : Sr B v l w) (ad : Addr) (c : Nat) (hx : a.eval x = .slice (some ad) 1 c)
    (hnews : ∀ j u, (stCells [st])[j]? = some u → w.cell? (ad.add j) = some u) (hlim : l.length ≤ 1000) (hbase : B ≤ w.heap.size)
    (h : ∀ v' w', Sr B v' (l ++ [st]) w' → Kp B w w' → K (a.put o.dst v') w') :
    if Region.wanted o (yielded ops a.tmps) = true then Oper.wp Tryd.prog o a w K Q' else E := by
  obtain ⟨i0, hi, hz0, hz1, hz2⟩ := info_parts info_step
  refine step_append_lies _ hgd s x 24 ho B 38 i0 (.agg #[.string ⟨#[]⟩, .int .i64 0, .int .i64 0, .string ⟨#[]⟩]) 4 48 Tryd.underlying24 hi hz0 hz1 hz2 rfl (by decide) v l.length (stCells l) hs hown ad 1 c (stCells [st]) hx (by rw [stCells_len]; rfl) hnews ?_ (by decide) (by unfold maxLen; omega) (by omega) hbase w.heap.size rfl ?_
  · intro u hu
    simp only [stCells, List.mem_cons, List.not_mem_nil, or_false] at hu
    rcases hu with rfl | rfl | rfl | rfl <;> rfl
  · intro g cap w' h1 h2 _ _
    refine h _ w' ?_ (Kp.grown hown h2 hbase)
    unfold Sr
    rw [List.length_append, stCells_app]
    exact h1

theorem seen_put {v5 : World} {p0 p1 b q : Nat} {x y u : Value} (h0 : p0 ≠ p1) (hb : b ≠ p1) (x0 : v5.cell? ⟨p0, 0, none⟩ = some x) (xb : v5.cell? ⟨b, q, none⟩ = some y) :
    (v5.setCell ⟨p1, 0, none⟩ u).cell? ⟨p0, 0, none⟩ = some x ∧ (v5.setCell ⟨p1, 0, none⟩ u).cell? ⟨b, q, none⟩ = some y :=
  ⟨(World.cell?_of_block (Below.heap_setCell v5 ⟨p1, 0, none⟩ u p0 h0)).trans x0, (World.cell?_of_block (Below.heap_setCell v5 ⟨p1, 0, none⟩ u b hb)).trans xb⟩
theorem Bk.set0 {p : Nat} {a b c d e f g : Value} {t : TypeId} {w : World} (h : Bk p #[a, b, c, d, e, f, g] t w) (x : Value) : Bk p #[x, b, c, d, e, f, g] t (w.setCell ⟨p, 0, none⟩ x) := h.set 0 x

set_option maxRecDepth 100000 in
set_option maxHeartbeats 8000000 in
theorem back_any (A : Option Addr) (n c : Nat) (ms : List St) (r : Rs) (w : World) (hn : n = ms.length) (hI : In A ms w) (hm : Am ms r) (f : Fa w) :
    Calls Tryd.prog 5 #[rv (.slice A n c) r] w fun e w' => e = .returned (.bool true) ∧ Q w w' := by
  have hlim := hm.len
  have cA := wakes w f
  have cF : Hid (∀ w', Q w w' → Calls Tryd.prog 14 #[rv (.slice A n c) r] w' (FewEnds ms r w')) := Lib.hid (fun w' q => few_any A n c ms r w' hn (hI.stays q) hm)
  have cC : Hid (FewOk ms r → ∀ w', Q w w' → Calls Tryd.prog 13 #[rv (.slice A n c) r] w' fun e w'' => e = .returned (.int .i64 (chk ⟨ms, r⟩)) ∧ Q w' w'') := Lib.hid (fun fw w' q => check_any A n c ms r w' (q.fa f) hn (hI.stays q) (hm.ab fw) hlim)
  have cO : Hid (FewOk ms r → chk ⟨ms, r⟩ = 0 → ∀ w', Q w w' → Calls Tryd.prog 12 #[rv (.slice A n c) r] w' fun e w'' => e = .returned (.string ⟨(tSs ms ++ tR r).toArray⟩) ∧ Q w' w'') := Lib.hid (fun fw hc w' q => by
    have h := format_any A n c ms r w' (q.fa f) hn (hI.stays q) (hm.ab fw) hlim
    rw [fA_case, if_pos hc] at h
    exact h)
  have cS : Hid (chk ⟨ms, r⟩ = 0 → ∀ w', Q w w' → Calls Tryd.prog 15 #[.string ⟨(tSs ms ++ tR r).toArray⟩] w' fun e w'' => e = .returned (.tuple #[.string ⟨(tSs (ms.map bareS) ++ tR (bareR r)).toArray⟩, .int .i64 0]) ∧ Q w' w'') := Lib.hid (fun hc w' q => by
    obtain ⟨h16, hs, hr⟩ := chk_ok hc
    obtain ⟨h1, h2, h3⟩ := own_parse h16 hs hr
    have h := static_any ⟨(tSs ms ++ tR r).toArray⟩ w' (q.fa f) (by rw [Lib.size_eq]; have := own_len h16 hs hr; simp only at *; omega)
    simp only [h1, h2, h3, if_pos] at h
    rw [own_static h16 hs hr] at h
    exact h)
  have cP : Hid (chk ⟨ms, r⟩ = 0 → ∀ w', Q w w' → Calls Tryd.prog 10 #[.string ⟨(tSs ms ++ tR r).toArray⟩] w' fun e w'' => ∃ A' n' c', e = .returned (.tuple #[rv (.slice A' n' c') r, .int .i64 0]) ∧ n' = ms.length ∧ In A' ms w'' ∧ Q w' w'') := Lib.hid (fun hc w' q => by
    obtain ⟨h16, hs, hr⟩ := chk_ok hc
    obtain ⟨h1, h2, h3⟩ := own_parse h16 hs hr
    have h := parse_any ⟨(tSs ms ++ tR r).toArray⟩ w' (q.fa f) (by rw [Lib.size_eq]; have := own_len h16 hs hr; simp only at *; omega)
    simp only [h1, h2, h3] at h
    refine h.mono ?_
    rintro e w'' ⟨A', n', c', rfl, hv, hq⟩
    exact ⟨A', n', c', rfl, hv.len, hv.in, hq⟩)
  have cZ : Hid (chk ⟨ms, r⟩ = 0 → ∀ w', Q w w' → Calls Tryd.prog 15 #[.string ⟨(tSs (ms.map bareS) ++ tR (bareR r)).toArray⟩] w' fun e w'' => e = .returned (.tuple #[.string ⟨(tSs (ms.map bareS) ++ tR (bareR r)).toArray⟩, .int .i64 0]) ∧ Q w' w'') := Lib.hid (fun hc w' q => by
    obtain ⟨h16', hs', hr'⟩ := chk_ok hc
    have h16 : (ms.map bareS).length ≤ 16 := by rw [List.length_map]; exact h16'
    have hs := bare_chkS ms hs'
    have hr := bare_chkR hr'
    obtain ⟨h1, h2, h3⟩ := own_parse h16 hs hr
    have h := static_any ⟨(tSs (ms.map bareS) ++ tR (bareR r)).toArray⟩ w' (q.fa f) (by rw [Lib.size_eq]; have := own_len h16 hs hr; simp only at *; omega)
    simp only [h1, h2, h3, if_pos] at h
    have e1 : (ms.map bareS).map bareS = ms.map bareS := by rw [List.map_map]; rfl
    rw [own_static h16 hs hr, e1] at h
    exact h)
  have cB : Hid (chk ⟨ms, r⟩ = 0 → ∀ A' c' w', Q w w' → In A' (ms.map bareS) w' → Calls Tryd.prog 12 #[rv (.slice A' n c') (bareR r)] w' fun e w'' => e = .returned (.string ⟨(tSs (ms.map bareS) ++ tR (bareR r)).toArray⟩) ∧ Q w' w'') := Lib.hid (fun hc A' c' w' q hi => by
    obtain ⟨h16, hs, hr⟩ := chk_ok hc
    have h := format_any A' n c' (ms.map bareS) (bareR r) w' (q.fa f) (by rw [List.length_map]; exact hn) hi (Ab.of (bare_chkS ms hs) (bare_chkR hr)) (by rw [List.length_map]; exact hlim)
    rw [own_static h16 hs hr] at h
    exact h)
  have cE : Hid (∀ A' n' c' w', Q w w' → n' = ms.length → In A' ms w' → Calls Tryd.prog 11 #[rv (.slice A' n' c') r, rv (.slice A n c) r] w' fun e w'' => e = .returned (.bool true) ∧ Q w' w'') := Lib.hid (fun A' n' c' w' q hn' hi => by
    have h := same_any A' A n' c' n c ms ms r r w' hn' hn hi (hI.stays q) (by rw [hn']; exact hlim) (by rw [hn]; exact hlim)
    refine h.mono ?_
    rintro e w'' ⟨B, rfl, hB, hq⟩
    rw [hB.out.2 ⟨rfl, rfl⟩]
    exact ⟨rfl, hq⟩)
  have HM := Lib.hid hm
  have HI := Lib.hid hI
  have HN := Lib.hid hn
  clear f hm hI hn
  unfold maxLen at hlim
  obtain ⟨d, ty, nm, ⟨kd, m, t⟩⟩ := r
  unfold rv at *
  simp only at *
  go_enter Tryd.func5, Tryd.ntmps5
  go_wp2_with fail
  refine (cF.out _ (Q.alloc _ _)).mono ?_; rintro e w1 ⟨B, rfl, hB, q1⟩
  have BB := Lib.hid ((Bk.new #[.slice A n c, .bool d, .string ty, .string nm, .int .i64 kd, .int .i64 m, .string t] 29 w).stays q1)
  have Q1 := Lib.hid ((Q.alloc w (.cells #[.slice A n c, .bool d, .string ty, .string nm, .int .i64 kd, .int .i64 m, .string t] 29)).trans q1)
  clear cF q1
  cases B with
  | false =>
    clear hB cC cO cS cP cZ cB cE
    go_wp2_with fail
    refine (cA.out _ Q1.out).mono ?_; rintro e w2 ⟨rfl, q2⟩
    go_wp2_with fail
    go_ret
    exact ⟨rfl, Q1.out.trans q2⟩
  | true =>
    have FW := Lib.hid (hB.out rfl)
    clear hB
    have l0 := BB.out.at 0 (.slice A n c) rfl
    have l1 := BB.out.at 1 (.bool d) rfl
    have l2 := BB.out.at 2 (.string ty) rfl
    have l3 := BB.out.at 3 (.string nm) rfl
    have l4 := BB.out.at 4 (.int .i64 kd) rfl
    have l5 := BB.out.at 5 (.int .i64 m) rfl
    have l6 := BB.out.at 6 (.string t) rfl
    go_wp2_with fail
    refine (cC.out FW.out _ Q1.out).mono ?_; rintro e w2 ⟨rfl, q2⟩
    replace BB := Lib.hid (BB.out.stays q2)
    replace Q1 := Lib.hid (Q1.out.trans q2)
    clear cC q2 l0 l1 l2 l3 l4 l5 l6
    obtain ⟨E, hE⟩ : ∃ e, chk ⟨ms, ⟨d, ty, nm, ⟨kd, m, t⟩⟩⟩ = e := ⟨_, rfl⟩
    rw [hE]
    cases hE0 : (E != 0) with
    | true =>
      clear cO cS hE cP cZ cB cE
      go_wp2_with fail
      refine (cA.out _ Q1.out).mono ?_; rintro e w3 ⟨rfl, q3⟩
      go_wp2_with fail
      go_ret
      exact ⟨rfl, Q1.out.trans q3⟩
    | false =>
      obtain rfl : E = 0 := by simpa using hE0
      have CO := Lib.hid (cO.out FW.out hE)
      have CS := Lib.hid (cS.out hE)
      have CP := Lib.hid (cP.out hE)
      have CZ := Lib.hid (cZ.out hE)
      have CB := Lib.hid (cB.out hE)
      clear cO cS hE0 cP cZ cB
      have HE := Lib.hid hE
      clear hE
      have l0 := BB.out.at 0 (.slice A n c) rfl
      have l1 := BB.out.at 1 (.bool d) rfl
      have l2 := BB.out.at 2 (.string ty) rfl
      have l3 := BB.out.at 3 (.string nm) rfl
      go_wp2_with fail
      have B1 := Lib.hid (Bk.new #[.slice none 0 0, .bool d, .string ty, .string nm, .int .i64 0, .int .i64 0, .string ⟨#[]⟩] 29 w2)
      have hp01 : w.heap.size < w2.heap.size := BB.out.lt
      replace BB := Lib.hid (BB.out.stays (Q.alloc w2 (.cells #[.slice none 0 0, .bool d, .string ty, .string nm, .int .i64 0, .int .i64 0, .string ⟨#[]⟩] 29)))
      replace Q1 := Lib.hid (Q1.out.trans (Q.alloc w2 (.cells #[.slice none 0 0, .bool d, .string ty, .string nm, .int .i64 0, .int .i64 0, .string ⟨#[]⟩] 29)))
      clear l0 l1 l2 l3
      obtain ⟨p1, hp1⟩ : ∃ z, w2.heap.size = z := ⟨_, rfl⟩
      rw [hp1] at B1 hp01
      generalize w2.alloc (.cells #[.slice none 0 0, .bool d, .string ty, .string nm, .int .i64 0, .int .i64 0, .string ⟨#[]⟩] 29) = w3 at *
      rw [hp1]
      clear hp1
      obtain ⟨h16, hs, hr⟩ := chk_ok HE.out
      have hn16 : Hid (n ≤ 16) := Lib.hid (by rw [HN.out]; exact h16)
      clear h16 hs hr
      go_loopw [4] (fun i wr => ∃ (k : Nat) (V : Value), k ≤ n ∧ i = .int .i64 k ∧ Hid (Q w wr) ∧ Hid (Bk w.heap.size #[.slice A n c, .bool d, .string ty, .string nm, .int .i64 kd, .int .i64 m, .string t] 29 wr) ∧ Hid (Bk p1 #[V, .bool d, .string ty, .string nm, .int .i64 0, .int .i64 0, .string ⟨#[]⟩] 29 wr) ∧ Hid (Sr w.heap.size V ((ms.take k).map bareS) wr)) (fun i _ => n - (intOf i).toNat)
      case atStart => exact ⟨0, .slice none 0 0, Nat.zero_le _, rfl, Q1, BB, B1, Lib.hid (Sr.nil _ _)⟩
      case round =>
        clear BB Q1 B1
        obtain ⟨k, V, hk, rfl, QQ, BB, B1, SR⟩ := hrel
        have l0 := BB.out.at 0 (.slice A n c) rfl
        by_cases hlt : k < n
        · have hlt2 : k < ms.length := by rw [← HN.out]; exact hlt
          obtain ⟨b, o, rfl, hbb, hcc⟩ := HI.out (by intro e; rw [e] at hlt2; cases hlt2)
          obtain ⟨b', o', e', _, hcc'⟩ := (HI.out.stays QQ.out) (by intro e; rw [e] at hlt2; cases hlt2)
          simp only [Option.some.injEq, Addr.mk.injEq, and_true] at e'
          obtain ⟨rfl, rfl⟩ := e'
          obtain ⟨g0, _⟩ := hcc' k hlt2
          have hnx : Hid ((ms.take (k + 1)).map bareS = (ms.take k).map bareS ++ [⟨ms[k].name, K.zero⟩]) := Lib.hid (by rw [List.take_succ_eq_append_getElem hlt2, List.map_append]; rfl)
          have hll : Hid (((ms.take k).map bareS).length ≤ 1000) := Lib.hid (by rw [List.length_map, List.length_take]; have := hn16.out; omega)
          obtain ⟨nk, hnk⟩ : ∃ z, ms[k].name = z := ⟨_, rfl⟩
          rw [hnk] at g0 hnx
          have l1 := B1.out.at 0 V rfl
          have z1 := B1.out.frozen 0
          have lt0 : w.heap.size < wr.heap.size := BB.out.lt
          have lt1 : p1 < wr.heap.size := B1.out.lt
          have ltb : b < wr.heap.size := by omega
          have hSz : Hid (w.heap.size ≤ wr.heap.size) := Lib.hid (by omega)
          clear hcc hcc' hnk CO CS cA CP CZ CB cE
          have hlt' : (k : Int) < (n : Int) := by omega
          have hk0 : (0 : Int) ≤ (k : Int) := Int.natCast_nonneg _
          go_wp2_with fail
          have hne0 : w.heap.size ≠ p1 := by omega
          have hneb : b ≠ p1 := by omega
          have hS0 : wr.cell? ⟨w.heap.size, 0, none⟩ = some (.slice (some ⟨b, o, none⟩) n c) ∧ wr.cell? ⟨b, o + k * 4, none⟩ = some (.string nk) := ⟨l0, g0⟩
          have qA := (Q.drewN wr 1).trans (Q.alloc wr.drew (.cells #[.string nk, .int .i64 0, .int .i64 0, .string ⟨#[]⟩] 38))
          have hSA : (wr.drew.alloc (.cells #[.string nk, .int .i64 0, .int .i64 0, .string ⟨#[]⟩] 38)).cell? ⟨w.heap.size, 0, none⟩ = some (.slice (some ⟨b, o, none⟩) n c) ∧ (wr.drew.alloc (.cells #[.string nk, .int .i64 0, .int .i64 0, .string ⟨#[]⟩] 38)).cell? ⟨b, o + k * 4, none⟩ = some (.string nk) := ⟨(Below.cell qA (p := ⟨w.heap.size, 0, none⟩) lt0).trans l0, (Below.cell qA (p := ⟨b, o + k * 4, none⟩) ltb).trans g0⟩
          have l1A := (Below.cell qA (p := ⟨p1, 0, none⟩) lt1).trans l1
          refine Go.wp_region_held_drew (S := (fun w' => w'.cell? ⟨w.heap.size, 0, none⟩ = some (.slice (some ⟨b, o, none⟩) n c) ∧ w'.cell? ⟨b, o + k * 4, none⟩ = some (.string nk))) (by kernel_rfl) hS0 (fun hHeld => ?_)
          refine Go.wpAnyH_take (i := 0) (oi := _) (v := ?_) rfl (by kernel_rfl) (by kernel_rfl) (by kernel_rfl) (fun _ _ _ h => h) (Or.inl ⟨by rfl, ?_⟩) (by assumption) ?_
          rotate_left 1
          · intro wx hSw
            go_simp <;> with_reducible rfl
          simp only [Act.put, List.getElem_toArray, List.getElem_cons_zero, List.setIfInBounds_toArray, List.set_cons_zero, List.set_cons_succ]
          refine Go.wpAnyH_take (i := 2) (oi := _) (v := ?_) rfl (by kernel_rfl) (by kernel_rfl) (by kernel_rfl) (fun _ _ _ h => h) (Or.inl ⟨by rfl, ?_⟩) (by assumption) ?_
          rotate_left 1
          · intro wx hSw
            go_simp <;> with_reducible rfl
          simp only [Act.put, List.getElem_toArray, List.getElem_cons_zero, List.getElem_cons_succ, List.setIfInBounds_toArray, List.set_cons_zero, List.set_cons_succ]
          refine Go.wpAnyH_take (i := 3) (oi := _) (v := ?_) rfl (by kernel_rfl) (by kernel_rfl) (by kernel_rfl) (fun _ _ _ h => h) (Or.inl ⟨by rfl, ?_⟩) (by assumption) ?_
          rotate_left 1
          · intro wx hSw
            go_simp <;> with_reducible rfl
          simp only [Act.put, List.getElem_toArray, List.getElem_cons_zero, List.getElem_cons_succ, List.setIfInBounds_toArray, List.set_cons_zero, List.set_cons_succ]
          refine Go.wpAnyH_take (i := 4) (oi := _) (v := ?_) rfl (by kernel_rfl) (by kernel_rfl) (by kernel_rfl) (fun _ _ _ h => h) (Or.inl ⟨by rfl, ?_⟩) (by assumption) ?_
          rotate_left 1
          · intro wx hSw
            go_simp <;> with_reducible rfl
          simp only [Act.put, List.getElem_toArray, List.getElem_cons_zero, List.getElem_cons_succ, List.setIfInBounds_toArray, List.set_cons_zero, List.set_cons_succ]
          refine Go.wpAnyH_take (i := 5) (oi := _) (v := ?_) rfl (by kernel_rfl) (by kernel_rfl) (by kernel_rfl) (fun _ _ _ h => h) (Or.inl ⟨by rfl, ?_⟩) (by assumption) ?_
          rotate_left 1
          · intro wx hSw
            go_simp <;> with_reducible rfl
          simp only [Act.put, List.getElem_toArray, List.getElem_cons_zero, List.getElem_cons_succ, List.setIfInBounds_toArray, List.set_cons_zero, List.set_cons_succ]
          refine Go.wpAnyH_take (i := 6) (oi := _) (v := ?_) rfl (by kernel_rfl) (by kernel_rfl) (by kernel_rfl) (fun _ _ _ h => h) (Or.inl ⟨by rfl, ?_⟩) (by assumption) ?_
          rotate_left 1
          · intro wx hSw
            go_simp <;> with_reducible rfl
          simp only [Act.put, List.getElem_toArray, List.getElem_cons_zero, List.getElem_cons_succ, List.setIfInBounds_toArray, List.set_cons_zero, List.set_cons_succ]
          refine Go.wpAnyH_take (i := 7) (oi := _) (v := ?_) rfl (by kernel_rfl) (by kernel_rfl) (by kernel_rfl) (fun _ _ _ h => h) (Or.inl ⟨by rfl, ?_⟩) (by assumption) ?_
          rotate_left 1
          · intro wx hSw
            go_simp <;> with_reducible rfl
          simp only [Act.put, List.getElem_toArray, List.getElem_cons_zero, List.getElem_cons_succ, List.setIfInBounds_toArray, List.set_cons_zero, List.set_cons_succ]
          refine Go.wpAnyH_take (i := 8) (oi := _) (v := ?_) rfl (by kernel_rfl) (by kernel_rfl) (by kernel_rfl) (fun _ _ _ h => h) (Or.inl ⟨by rfl, ?_⟩) (by assumption) ?_
          rotate_left 1
          · intro wx hSw
            go_simp <;> with_reducible rfl
          simp only [Act.put, List.getElem_toArray, List.getElem_cons_zero, List.getElem_cons_succ, List.setIfInBounds_toArray, List.set_cons_zero, List.set_cons_succ]
          refine Go.wpAnyH_ready (rs := [1, 9]) (by kernel_rfl) (by simp) ?_
          refine Go.AllReadyH.cons rfl (fun Kx hK => ?_) (Go.AllReadyH.cons rfl (fun Kx hK => ?_) Go.AllReadyH.nil)
          · go_simp
            refine hK.out _ _ hS0 (fun hHeld => ?_)
            clear hK Kx
            try simp only [Act.put, List.getElem_toArray, List.getElem_cons_zero, List.getElem_cons_succ, List.setIfInBounds_toArray, List.set_cons_zero, List.set_cons_succ]
            refine Go.wpAnyH_ready (rs := [9]) (by kernel_rfl) (by simp) ?_
            refine Go.AllReadyH.cons rfl (fun Kx hK => ?_) Go.AllReadyH.nil
            go_simp
            refine hK.out _ _ (hSA) (fun hHeld => ?_)
            clear hK Kx
            try simp only [Act.put, List.getElem_toArray, List.getElem_cons_zero, List.getElem_cons_succ, List.setIfInBounds_toArray, List.set_cons_zero, List.set_cons_succ]
            refine Go.wpAnyH_ready (rs := [10]) (by kernel_rfl) (by simp) ?_
            refine Go.AllReadyH.cons rfl (fun Kx hK => ?_) Go.AllReadyH.nil
            refine step_sr (by rfl) _ _ (by rfl) w.heap.size V ((ms.take k).map bareS) ⟨nk, K.zero⟩ (by rfl) (SR.out.stays qA) ⟨wr.heap.size, 0, none⟩ 1 (by rfl) (World.news_of_block (cs := #[.string nk, .int .i64 0, .int .i64 0, .string ⟨#[]⟩]) (t := 38) (fr := (0, 0)) (heap_alloc_new _ _)) hll.out (Nat.le_trans hSz.out qA.size) ?_
            intro V5 v5 hs5 k5
            obtain ⟨A5, c5, rfl⟩ := hs5.shape
            obtain ⟨n5, hn5⟩ : ∃ z, ((ms.take k).map bareS ++ [(⟨nk, K.zero⟩ : St)]).length = z := ⟨_, rfl⟩
            rw [hn5] at hs5 ⊢
            clear hn5
            have B5 := Lib.hid ((B1.out.stays qA).kept (by decide) k5)
            have BA5 := Lib.hid ((BB.out.stays qA).kept (by decide) k5)
            have KK5 := Lib.hid ((Kp.of qA hSz.out).trans k5)
            have SR5 := Lib.hid hs5
            clear hs5 k5
            have x1 := B5.out.at 0 V rfl
            have z5 := B5.out.frozen 0
            have x0 := BA5.out.at 0 (.slice (some ⟨b, o, none⟩) n c) rfl
            have xb := (Below.cell KK5.out.below (p := ⟨b, o + k * 4, none⟩) hbb).trans g0
            refine hK.out _ _ (⟨x0, xb⟩) (fun hHeld => ?_)
            clear hK Kx
            try simp only [Act.put, List.getElem_toArray, List.getElem_cons_zero, List.getElem_cons_succ, List.setIfInBounds_toArray, List.set_cons_zero, List.set_cons_succ]
            refine Go.wpAnyH_take (i := 11) (oi := _) (v := ?_) rfl (by kernel_rfl) (by kernel_rfl) (by kernel_rfl) (fun _ _ _ h => h) (Or.inl ⟨by rfl, ?_⟩) (by assumption) ?_
            rotate_left 1
            · intro wx hSw
              go_simp <;> with_reducible rfl
            simp only [Act.put, List.getElem_toArray, List.getElem_cons_zero, List.getElem_cons_succ, List.setIfInBounds_toArray, List.set_cons_zero, List.set_cons_succ]
            refine Go.wpAnyH_ready (rs := [12]) (by kernel_rfl) (by simp) ?_
            refine Go.AllReadyH.cons rfl (fun Kx hK => ?_) Go.AllReadyH.nil
            go_simp
            refine hK.out _ _ (seen_put hne0 hneb x0 xb) (fun hHeld => ?_)
            clear hK Kx
            try simp only [Act.put, List.getElem_toArray, List.getElem_cons_zero, List.getElem_cons_succ, List.setIfInBounds_toArray, List.set_cons_zero, List.set_cons_succ]
            refine Go.wpAnyH_done (by kernel_rfl) ?_ _
            have QQ6 := Lib.hid (Q.put (Below.trans QQ.out KK5.out.below) (p := p1) (Nat.le_of_lt hp01) 0 (.slice A5 n5 c5))
            have BB6 := Lib.hid (BA5.out.other hne0 0 (.slice A5 n5 c5))
            have B6 := Lib.hid (B5.out.set0 (.slice A5 n5 c5))
            have SR6 := Lib.hid (SR5.out.put B5.out (by decide) 0 (.slice A5 n5 c5))
            rw [← hnx.out] at SR6
            go_wp2_with fail
            go_roundw
            case rel => exact ⟨k + 1, _, hlt, by go_num, QQ6, BB6, B6, SR6⟩
            case measure => simp [intOf]; omega
          · go_simp
            refine hK.out _ _ hSA (fun hHeld => ?_)
            clear hK Kx
            try simp only [Act.put, List.getElem_toArray, List.getElem_cons_zero, List.getElem_cons_succ, List.setIfInBounds_toArray, List.set_cons_zero, List.set_cons_succ]
            refine Go.wpAnyH_ready (rs := [1]) (by kernel_rfl) (by simp) ?_
            refine Go.AllReadyH.cons rfl (fun Kx hK => ?_) Go.AllReadyH.nil
            go_simp
            refine hK.out _ _ (hSA) (fun hHeld => ?_)
            clear hK Kx
            try simp only [Act.put, List.getElem_toArray, List.getElem_cons_zero, List.getElem_cons_succ, List.setIfInBounds_toArray, List.set_cons_zero, List.set_cons_succ]
            refine Go.wpAnyH_ready (rs := [10]) (by kernel_rfl) (by simp) ?_
            refine Go.AllReadyH.cons rfl (fun Kx hK => ?_) Go.AllReadyH.nil
            refine step_sr (by rfl) _ _ (by rfl) w.heap.size V ((ms.take k).map bareS) ⟨nk, K.zero⟩ (by rfl) (SR.out.stays qA) ⟨wr.heap.size, 0, none⟩ 1 (by rfl) (World.news_of_block (cs := #[.string nk, .int .i64 0, .int .i64 0, .string ⟨#[]⟩]) (t := 38) (fr := (0, 0)) (heap_alloc_new _ _)) hll.out (Nat.le_trans hSz.out qA.size) ?_
            intro V5 v5 hs5 k5
            obtain ⟨A5, c5, rfl⟩ := hs5.shape
            obtain ⟨n5, hn5⟩ : ∃ z, ((ms.take k).map bareS ++ [(⟨nk, K.zero⟩ : St)]).length = z := ⟨_, rfl⟩
            rw [hn5] at hs5 ⊢
            clear hn5
            have B5 := Lib.hid ((B1.out.stays qA).kept (by decide) k5)
            have BA5 := Lib.hid ((BB.out.stays qA).kept (by decide) k5)
            have KK5 := Lib.hid ((Kp.of qA hSz.out).trans k5)
            have SR5 := Lib.hid hs5
            clear hs5 k5
            have x1 := B5.out.at 0 V rfl
            have z5 := B5.out.frozen 0
            have x0 := BA5.out.at 0 (.slice (some ⟨b, o, none⟩) n c) rfl
            have xb := (Below.cell KK5.out.below (p := ⟨b, o + k * 4, none⟩) hbb).trans g0
            refine hK.out _ _ (⟨x0, xb⟩) (fun hHeld => ?_)
            clear hK Kx
            try simp only [Act.put, List.getElem_toArray, List.getElem_cons_zero, List.getElem_cons_succ, List.setIfInBounds_toArray, List.set_cons_zero, List.set_cons_succ]
            refine Go.wpAnyH_take (i := 11) (oi := _) (v := ?_) rfl (by kernel_rfl) (by kernel_rfl) (by kernel_rfl) (fun _ _ _ h => h) (Or.inl ⟨by rfl, ?_⟩) (by assumption) ?_
            rotate_left 1
            · intro wx hSw
              go_simp <;> with_reducible rfl
            simp only [Act.put, List.getElem_toArray, List.getElem_cons_zero, List.getElem_cons_succ, List.setIfInBounds_toArray, List.set_cons_zero, List.set_cons_succ]
            refine Go.wpAnyH_ready (rs := [12]) (by kernel_rfl) (by simp) ?_
            refine Go.AllReadyH.cons rfl (fun Kx hK => ?_) Go.AllReadyH.nil
            go_simp
            refine hK.out _ _ (seen_put hne0 hneb x0 xb) (fun hHeld => ?_)
            clear hK Kx
            try simp only [Act.put, List.getElem_toArray, List.getElem_cons_zero, List.getElem_cons_succ, List.setIfInBounds_toArray, List.set_cons_zero, List.set_cons_succ]
            refine Go.wpAnyH_done (by kernel_rfl) ?_ _
            have QQ6 := Lib.hid (Q.put (Below.trans QQ.out KK5.out.below) (p := p1) (Nat.le_of_lt hp01) 0 (.slice A5 n5 c5))
            have BB6 := Lib.hid (BA5.out.other hne0 0 (.slice A5 n5 c5))
            have B6 := Lib.hid (B5.out.set0 (.slice A5 n5 c5))
            have SR6 := Lib.hid (SR5.out.put B5.out (by decide) 0 (.slice A5 n5 c5))
            rw [← hnx.out] at SR6
            go_wp2_with fail
            go_roundw
            case rel => exact ⟨k + 1, _, hlt, by go_num, QQ6, BB6, B6, SR6⟩
            case measure => simp [intOf]; omega
        · obtain rfl : n = k := by omega
          have hb0 : (ms.take n).map bareS = ms.map bareS := by rw [HN.out, List.take_length]
          rw [hb0] at SR
          clear hb0
          obtain ⟨A1, c1, rfl⟩ := SR.out.shape
          have hbl : (ms.map bareS).length = n := by rw [List.length_map]; exact HN.out.symm
          rw [hbl] at SR B1
          have l1 := BB.out.at 1 (.bool d) rfl
          have l2 := BB.out.at 2 (.string ty) rfl
          have l3 := BB.out.at 3 (.string nm) rfl
          have l4 := BB.out.at 4 (.int .i64 kd) rfl
          have l5 := BB.out.at 5 (.int .i64 m) rfl
          have l6 := BB.out.at 6 (.string t) rfl
          have II := Lib.hid SR.out.in
          have HSZ := Lib.hid hbl
          clear hbl SR
          unfold bareR at *
          generalize tSs ms ++ tR ⟨d, ty, nm, ⟨kd, m, t⟩⟩ = SX at *
          generalize tSs (ms.map bareS) ++ tR ⟨d, ty, nm, K.zero⟩ = X at *
          go_wp2_with fail
          refine (CO.out _ QQ.out).mono ?_; rintro e v1 ⟨rfl, q1⟩
          replace BB := Lib.hid (BB.out.stays q1)
          replace B1 := Lib.hid (B1.out.stays q1)
          replace QQ := Lib.hid (QQ.out.trans q1)
          replace II := Lib.hid (II.out.stays q1)
          clear CO q1 l0 l1 l2 l3 l4 l5 l6
          go_wp2_with fail
          refine (CP.out _ QQ.out).mono ?_; rintro e v2 ⟨A2, n2, c2, rfl, hn2, hi2, q2⟩
          replace BB := Lib.hid (BB.out.stays q2)
          replace B1 := Lib.hid (B1.out.stays q2)
          replace QQ := Lib.hid (QQ.out.trans q2)
          replace II := Lib.hid (II.out.stays q2)
          have I2 := Lib.hid hi2
          have N2 := Lib.hid hn2
          clear CP q2 hi2 hn2
          unfold rv at *
          simp only at *
          have X2 := Lib.hid (Bk.new #[.slice A2 n2 c2, .bool d, .string ty, .string nm, .int .i64 kd, .int .i64 m, .string t] 29 v2)
          have qa := Lib.hid (Q.alloc v2 (.cells #[.slice A2 n2 c2, .bool d, .string ty, .string nm, .int .i64 kd, .int .i64 m, .string t] 29))
          replace BB := Lib.hid (BB.out.stays qa.out)
          replace B1 := Lib.hid (B1.out.stays qa.out)
          replace QQ := Lib.hid (QQ.out.trans qa.out)
          replace II := Lib.hid (II.out.stays qa.out)
          replace I2 := Lib.hid (I2.out.stays qa.out)
          clear qa
          go_wp2_with fail
          generalize v2.alloc (.cells #[.slice A2 n2 c2, .bool d, .string ty, .string nm, .int .i64 kd, .int .i64 m, .string t] 29) = v3 at *
          generalize v2.heap.size = p2 at *
          refine (CS.out _ QQ.out).mono ?_; rintro e v4 ⟨rfl, q4⟩
          replace BB := Lib.hid (BB.out.stays q4)
          replace B1 := Lib.hid (B1.out.stays q4)
          replace QQ := Lib.hid (QQ.out.trans q4)
          replace II := Lib.hid (II.out.stays q4)
          replace I2 := Lib.hid (I2.out.stays q4)
          replace X2 := Lib.hid (X2.out.stays q4)
          clear CS q4
          go_wp2_with fail
          refine (CZ.out _ QQ.out).mono ?_; rintro e v5 ⟨rfl, q5⟩
          replace BB := Lib.hid (BB.out.stays q5)
          replace B1 := Lib.hid (B1.out.stays q5)
          replace QQ := Lib.hid (QQ.out.trans q5)
          replace II := Lib.hid (II.out.stays q5)
          replace I2 := Lib.hid (I2.out.stays q5)
          replace X2 := Lib.hid (X2.out.stays q5)
          clear CZ q5
          have x0 := X2.out.at 0 (.slice A2 n2 c2) rfl
          have x1 := X2.out.at 1 (.bool d) rfl
          have x2 := X2.out.at 2 (.string ty) rfl
          have x3 := X2.out.at 3 (.string nm) rfl
          have x4 := X2.out.at 4 (.int .i64 kd) rfl
          have x5 := X2.out.at 5 (.int .i64 m) rfl
          have x6 := X2.out.at 6 (.string t) rfl
          have l0 := BB.out.at 0 (.slice A n c) rfl
          have l1 := BB.out.at 1 (.bool d) rfl
          have l2 := BB.out.at 2 (.string ty) rfl
          have l3 := BB.out.at 3 (.string nm) rfl
          have l4 := BB.out.at 4 (.int .i64 kd) rfl
          have l5 := BB.out.at 5 (.int .i64 m) rfl
          have l6 := BB.out.at 6 (.string t) rfl
          go_wp2_with fail
          refine (cE.out A2 n2 c2 _ QQ.out N2.out I2.out).mono ?_; rintro e v6 ⟨rfl, q6⟩
          replace B1 := Lib.hid (B1.out.stays q6)
          replace QQ := Lib.hid (QQ.out.trans q6)
          replace II := Lib.hid (II.out.stays q6)
          clear q6 cE x0 x1 x2 x3 x4 x5 x6 l0 l1 l2 l3 l4 l5 l6 X2 BB
          have y0 := B1.out.at 0 (.slice A1 n c1) rfl
          have y1 := B1.out.at 1 (.bool d) rfl
          have y2 := B1.out.at 2 (.string ty) rfl
          have y3 := B1.out.at 3 (.string nm) rfl
          have y4 := B1.out.at 4 (.int .i64 0) rfl
          have y5 := B1.out.at 5 (.int .i64 0) rfl
          have y6 := B1.out.at 6 (.string ⟨#[]⟩) rfl
          go_wp2_with fail
          refine (CB.out A1 c1 _ QQ.out II.out).mono ?_; rintro e v7 ⟨rfl, q7⟩
          replace QQ := Lib.hid (QQ.out.trans q7)
          clear q7 CB
          go_wp2_with fail
          refine (cA.out _ QQ.out).mono ?_; rintro e v8 ⟨rfl, q8⟩
          go_wp2_with fail
          go_ret
          exact ⟨rfl, QQ.out.trans q8⟩

end Go.Proofs.YthekabflbpfjoaaDoor.adr
