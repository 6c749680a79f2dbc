/- Get. -/
import Derived.Test.YtjmchjphdfbhiaaGreatDoorVse
namespace Go.Proofs.YtjmchjphdfbhiaaGreatDoor.val
open Go.RowKit
open Go.Proofs.YtjmchjphdfbhiaaGreatDoor
open Go.Proofs.YtjmchjphdfbhiaaGreatDoor.val.cp (Fit Fit_iff FitL_mem set5 set5_block set5_world set5_at)
/-- What Get hands back. -/
def Got (r : Option V) (w : World) (e : Ending) (w' : World) : Prop :=
  Q w w' ∧ match r with
    | some x => ∃ s3 s4, e = .returned (.tuple #[.agg #[.int .i64 x.kind, .int .i64 x.num, .string x.str, s3, s4], .bool true]) ∧ Is s3 x.items w' ∧ Ks s4 x.keys w'
    | none => e = .returned (.tuple #[.agg #[.int .i64 0, .int .i64 0, .string ⟨#[]⟩, .slice none 0 0, .slice none 0 0], .bool false])
/-- The look-up in a value. -/
def getV (v : V) (key : ByteArray) : Option V := if v.kind = 5 ∧ v.keys.length = v.items.length then getP (v.keys.zip v.items) key else none
theorem nodesL_mem (x : V) : ∀ l : List V, x ∈ l → nodes x ≤ nodesL l
  | [], h => absurd h (List.not_mem_nil)
  | v :: t, h => by
    rw [nodesL]
    rcases List.mem_cons.1 h with rfl | h
    · omega
    · have := nodesL_mem x t h
      omega
set_option maxHeartbeats 4000000 in
set_option maxRecDepth 100000 in
theorem get_any (v : V) (A3 A4 : Option Addr) (k3 k4 : Nat) (key : ByteArray) (w : World) (h3 : Is (.slice A3 v.items.length k3) v.items w) (h4 : Ks (.slice A4 v.keys.length k4) v.keys w) (hs : srt v.keys) (hf : Fit v) (hn : nodes v ≤ 200000) :
    Calls Tryz.prog 29 #[.agg #[.int .i64 v.kind, .int .i64 v.num, .string v.str, .slice A3 v.items.length k3, .slice A4 v.keys.length k4], .string key] w (Got (getV v key) w) := by
  have hfit := (Fit_iff v).1 hf
  have hk5 : getV v key = if decide (v.kind = 5 ∧ v.keys.length = v.items.length) = true ∧ fnd v.keys key = true then v.items[pl v.keys key]? else none := by
    unfold getV
    by_cases hc : v.kind = 5 ∧ v.keys.length = v.items.length
    · rw [if_pos hc, get_pl key v.keys v.items hs hc.2, decide_eq_true hc]
      simp
    · rw [if_neg hc, decide_eq_false hc]
      simp
  have cS := Lib.hid (fun w' (q : Q w w') => search_any v.keys hs A4 k4 key w' (h4.stays q) (by have := hfit.2.2.2.1; omega))
  have cM := Lib.hid (fun w' => isMap_any v.kind v.num v.str A3 A4 v.items.length v.keys.length k3 k4 w')
  obtain ⟨n3, hn3⟩ : ∃ n3, v.items.length = n3 := ⟨_, rfl⟩
  obtain ⟨n4, hn4⟩ : ∃ n4, v.keys.length = n4 := ⟨_, rfl⟩
  obtain ⟨vk, hvk⟩ : ∃ vk, v.kind = vk := ⟨_, rfl⟩
  obtain ⟨vn, hvn⟩ : ∃ vn, v.num = vn := ⟨_, rfl⟩
  obtain ⟨vs, hvs⟩ : ∃ vs, v.str = vs := ⟨_, rfl⟩
  obtain ⟨p, hp⟩ : ∃ p, pl v.keys key = p := ⟨_, rfl⟩
  obtain ⟨fd, hfd⟩ : ∃ fd, fnd v.keys key = fd := ⟨_, rfl⟩
  obtain ⟨ism, hism⟩ : ∃ ism, decide (vk = 5 ∧ n4 = n3) = ism := ⟨_, rfl⟩
  rw [hn3, hn4, hvk] at hk5
  rw [hn3, hn4, hvk, hvn, hvs]
  rw [hn4, hp, hfd] at cS
  rw [hn3, hn4, hvk, hvn, hvs, hism] at cM
  rw [hism, hp, hfd] at hk5
  rw [hn3] at h3
  rw [hn4] at h4
  have H3 := Lib.hid h3
  have H4 := Lib.hid h4
  have HF := Lib.hid hf
  have HP := Lib.hid hp
  have HI := Lib.hid hism
  have HD := Lib.hid hfd
  have HFI := Lib.hid hfit
  have HK := Lib.hid hk5
  have HN := Lib.hid hn
  have HN3 := Lib.hid hn3
  have HN4 := Lib.hid hn4
  clear h3 h4 hf hp hfd hfit hk5 hn hn3 hn4 hvk hvn hvs hism hs
  obtain ⟨bv, hbv⟩ : ∃ bv, w.alloc (.cells #[.int .i64 vk, .int .i64 vn, .string vs, .slice A3 n3 k3, .slice A4 n4 k4] 26) = bv := ⟨_, rfl⟩
  obtain ⟨wb, hwb⟩ : ∃ wb, bv.alloc (.cells #[.int .i64 0, .int .i64 0, .string ⟨#[]⟩, .slice none 0 0, .slice none 0 0] 26) = wb := ⟨_, rfl⟩
  obtain ⟨B, hB⟩ : ∃ B, w.heap.size = B := ⟨_, rfl⟩
  obtain ⟨P, hP⟩ : ∃ P, bv.heap.size = P := ⟨_, rfl⟩
  have q0 : Q w wb := by rw [← hwb, ← hbv]; exact (Q.box _ _).trans (Q.box _ _)
  have bz : Bk P #[.int .i64 0, .int .i64 0, .string ⟨#[]⟩, .slice none 0 0, .slice none 0 0] 26 wb := by rw [← hwb, ← hP]; exact Bk.new _ _ _
  have bB : Bk B #[.int .i64 vk, .int .i64 vn, .string vs, .slice A3 n3 k3, .slice A4 n4 k4] 26 wb := by
    have h0 : Bk B #[.int .i64 vk, .int .i64 vn, .string vs, .slice A3 n3 k3, .slice A4 n4 k4] 26 bv := by rw [← hbv, ← hB]; exact Bk.new _ _ _
    rw [← hwb]
    exact h0.stays (Q.box _ _)
  have x0 := bB.at 0 _ rfl
  have x1 := bB.at 1 _ rfl
  have x2 := bB.at 2 _ rfl
  have x3 := bB.at 3 _ rfl
  have x4 := bB.at 4 _ rfl
  have hPB : Hid (P = B + 1 ∧ wb.heap.size = P + 1 ∧ B = w.heap.size) := by
    show _ ∧ _ ∧ _
    refine ⟨?_, ?_, hB.symm⟩
    · rw [← hP, ← hB, ← hbv, size_alloc]
    · rw [← hP, ← hwb, size_alloc]
  have QBV := Lib.hid (show Q bv wb by rw [← hwb]; exact Q.box _ _)
  have QVW := Lib.hid (show Q w bv by rw [← hbv]; exact Q.box _ _)
  have Q0 := Lib.hid q0
  have BZ := Lib.hid bz
  have BB := Lib.hid bB
  clear q0 bz bB
  rcases ism with _ | _
  · go_enter Tryz.func29, Tryz.ntmps29
    go_wp2_with fail
    refine (cS.out _ Q0.out).mono ?_
    rintro e w1 ⟨rfl, q1⟩
    have b1 := BB.out.stays q1
    have y0 := b1.at 0 _ rfl
    have y1 := b1.at 1 _ rfl
    have y2 := b1.at 2 _ rfl
    have y3 := b1.at 3 _ rfl
    have y4 := b1.at 4 _ rfl
    have Q1 := Lib.hid q1
    clear x0 x1 x2 x3 x4 b1 q1
    go_wp2_with fail
    refine (cM.out _).mono ?_
    rintro e w2 ⟨rfl, q2⟩
    have b2 := BB.out.stays (Q1.out.trans q2)
    have z2 := BZ.out.stays (Q1.out.trans q2)
    have Q2 := Lib.hid q2
    have u0 := z2.at 0 _ rfl
    have u1 := z2.at 1 _ rfl
    have u2 := z2.at 2 _ rfl
    have u3 := z2.at 3 _ rfl
    have u4 := z2.at 4 _ rfl
    have f0 := z2.frozen 0
    have f1 := z2.frozen 1
    have f2 := z2.frozen 2
    have f3 := z2.frozen 3
    have f4 := z2.frozen 4
    obtain ⟨bf, qf⟩ := store5 (k := 0) (n := 0) (s := ⟨#[]⟩) (s3 := .slice none 0 0) (s4 := .slice none 0 0) hP.symm z2 ((QBV.out.trans Q1.out).trans Q2.out)
    obtain ⟨wf, hwf⟩ : ∃ wf, set5 w2 P 0 (.int .i64 0) (.int .i64 0) (.string ⟨#[]⟩) (.slice none 0 0) (.slice none 0 0) = wf := ⟨_, rfl⟩
    rw [hwf] at bf qf
    unfold set5 at hwf
    simp only [Nat.zero_add] at hwf
    have r0 := bf.at 0 _ rfl
    have r1 := bf.at 1 _ rfl
    have r2 := bf.at 2 _ rfl
    have r3 := bf.at 3 _ rfl
    have r4 := bf.at 4 _ rfl
    have QF := Lib.hid qf
    clear bf qf b2 z2 q2
    go_wp2_with fail
    refine bodyPost_ret (by simp [results, Tryz.results29, go_sem, r0, r1, r2, r3, r4]; try rfl) rfl ?_
    rw [HK.out]
    exact ⟨QVW.out.trans QF.out, rfl⟩
  rcases fd with _ | _
  · go_enter Tryz.func29, Tryz.ntmps29
    go_wp2_with fail
    refine (cS.out _ Q0.out).mono ?_
    rintro e w1 ⟨rfl, q1⟩
    have b1 := BB.out.stays q1
    have y0 := b1.at 0 _ rfl
    have y1 := b1.at 1 _ rfl
    have y2 := b1.at 2 _ rfl
    have y3 := b1.at 3 _ rfl
    have y4 := b1.at 4 _ rfl
    have Q1 := Lib.hid q1
    clear x0 x1 x2 x3 x4 b1 q1
    go_wp2_with fail
    refine (cM.out _).mono ?_
    rintro e w2 ⟨rfl, q2⟩
    have b2 := BB.out.stays (Q1.out.trans q2)
    have z2 := BZ.out.stays (Q1.out.trans q2)
    have Q2 := Lib.hid q2
    have u0 := z2.at 0 _ rfl
    have u1 := z2.at 1 _ rfl
    have u2 := z2.at 2 _ rfl
    have u3 := z2.at 3 _ rfl
    have u4 := z2.at 4 _ rfl
    have f0 := z2.frozen 0
    have f1 := z2.frozen 1
    have f2 := z2.frozen 2
    have f3 := z2.frozen 3
    have f4 := z2.frozen 4
    obtain ⟨bf, qf⟩ := store5 (k := 0) (n := 0) (s := ⟨#[]⟩) (s3 := .slice none 0 0) (s4 := .slice none 0 0) hP.symm z2 ((QBV.out.trans Q1.out).trans Q2.out)
    obtain ⟨wf, hwf⟩ : ∃ wf, set5 w2 P 0 (.int .i64 0) (.int .i64 0) (.string ⟨#[]⟩) (.slice none 0 0) (.slice none 0 0) = wf := ⟨_, rfl⟩
    rw [hwf] at bf qf
    unfold set5 at hwf
    simp only [Nat.zero_add] at hwf
    have r0 := bf.at 0 _ rfl
    have r1 := bf.at 1 _ rfl
    have r2 := bf.at 2 _ rfl
    have r3 := bf.at 3 _ rfl
    have r4 := bf.at 4 _ rfl
    have QF := Lib.hid qf
    clear bf qf b2 z2 q2
    go_wp2_with fail
    refine bodyPost_ret (by simp [results, Tryz.results29, go_sem, r0, r1, r2, r3, r4]; try rfl) rfl ?_
    rw [HK.out]
    exact ⟨QVW.out.trans QF.out, rfl⟩
  · go_enter Tryz.func29, Tryz.ntmps29
    go_wp2_with fail
    refine (cS.out _ Q0.out).mono ?_
    rintro e w1 ⟨rfl, q1⟩
    have b1 := BB.out.stays q1
    have y0 := b1.at 0 _ rfl
    have y1 := b1.at 1 _ rfl
    have y2 := b1.at 2 _ rfl
    have y3 := b1.at 3 _ rfl
    have y4 := b1.at 4 _ rfl
    have Q1 := Lib.hid q1
    clear x0 x1 x2 x3 x4 b1 q1
    go_wp2_with fail
    refine (cM.out _).mono ?_
    rintro e w2 ⟨rfl, q2⟩
    have b2 := BB.out.stays (Q1.out.trans q2)
    have z2 := BZ.out.stays (Q1.out.trans q2)
    have Q2 := Lib.hid q2
    have v0 := b2.at 0 _ rfl
    have v1 := b2.at 1 _ rfl
    have v2 := b2.at 2 _ rfl
    have v3 := b2.at 3 _ rfl
    have v4 := b2.at 4 _ rfl
    have hlt : p < n3 := by
      obtain ⟨hlt, -⟩ := fnd_at HD.out
      rw [HP.out, HN4.out, (of_decide_eq_true HI.out).2] at hlt
      exact hlt
    have hl' : p < v.items.length := by rw [HN3.out]; exact hlt
    have hIs := H3.out
    obtain ⟨A', c', e, hc, g⟩ := hIs
    simp only [Value.slice.injEq] at e
    obtain ⟨rfl, -, rfl⟩ := e
    obtain ⟨b, o, rfl, hV⟩ := g (by intro e; rw [e] at hl'; exact absurd hl' (Nat.not_lt_zero _))
    obtain ⟨s3, s4, hx⟩ := VL.at _ b o w hV p hl'
    have hx2 := hx.stays (Q0.out.trans (Q1.out.trans Q2.out))
    have hmem : v.items[p] ∈ v.items := List.getElem_mem _
    have hfx : Fit v.items[p] := (FitL_mem v.items).1 HFI.out.2.2.2.2 _ hmem
    have hnx : nodes v.items[p] ≤ nodesL v.items := nodesL_mem _ _ hmem
    have hnv : nodesL v.items + 1 = nodes v := by rw [nodes_eta v]; omega
    have hnn := HN.out
    obtain ⟨x, hxx⟩ : ∃ x, v.items[p] = x := ⟨_, rfl⟩
    rw [hxx] at hx hx2 hfx hnx
    obtain ⟨A5, k5, rfl, -⟩ := hx2.is.shape
    obtain ⟨A6, k6, rfl, -⟩ := hx2.kk.shape
    obtain ⟨xk, xn, xs, xl, xks⟩ := x
    have cC := Lib.hid (copy_mk xk xn xs xl xks A5 A6 k5 k6 xl.length xks.length 262144 rfl rfl w2 w ((Q0.out.trans Q1.out).trans Q2.out) hx.is hx.kk hfx (by rw [nodes] at hnx; omega) (by omega) (by rw [nodes] at hnx; omega))
    have HK' : Hid (getV v key = some ⟨xk, xn, xs, xl, xks⟩) := by
      show _ = _
      rw [HK.out, if_pos (by simp), List.getElem?_eq_getElem hl', hxx]
    have i0 : w2.cell? ⟨b, o + p * 5, none⟩ = some (.int .i64 xk) := hx2.k
    have i1 : w2.cell? ⟨b, o + p * 5 + 1, none⟩ = some (.int .i64 xn) := hx2.n
    have i2 : w2.cell? ⟨b, o + p * 5 + 2, none⟩ = some (.string xs) := hx2.s
    have i3 := hx2.l
    have i4 := hx2.ks
    have hlz : (p : Int) < (n3 : Int) := by omega
    have hbig : (n3 : Int) ≤ 1000000 := by have := HFI.out.2.2.1; have := HN3.out; omega
    have hxl : v.items.length = n3 := HN3.out
    clear hx hx2 hfx hnx hnv hnn hlt hl' hmem hxx hV g hc b2 q2
    have Z2 := Lib.hid z2
    clear z2 hxl
    go_wp2_with fail
    refine (cC.out).mono ?_
    rintro e w3 ⟨B3, d3, B4, d4, rfl, hI, q3⟩
    have z3 := Z2.out.stays q3
    have u0 := z3.at 0 _ rfl
    have u1 := z3.at 1 _ rfl
    have u2 := z3.at 2 _ rfl
    have u3 := z3.at 3 _ rfl
    have u4 := z3.at 4 _ rfl
    have f0 := z3.frozen 0
    have f1 := z3.frozen 1
    have f2 := z3.frozen 2
    have f3 := z3.frozen 3
    have f4 := z3.frozen 4
    obtain ⟨bf, qf⟩ := store5 (k := xk) (n := xn) (s := xs) (s3 := .slice B3 xl.length d3) (s4 := .slice B4 xks.length d4) hP.symm z3 (((QBV.out.trans Q1.out).trans Q2.out).trans q3)
    have hsz2 : wb.heap.size ≤ w2.heap.size := (Q1.out.trans Q2.out).size
    have hfin := hI (set5 w3 P 0 (.int .i64 xk) (.int .i64 xn) (.string xs) (.slice B3 xl.length d3) (.slice B4 xks.length d4)) (fun j _ hj => set5_block w3 P 0 _ _ _ _ _ j (by have := hPB.out; omega))
    obtain ⟨wf, hwf⟩ : ∃ wf, set5 w3 P 0 (.int .i64 xk) (.int .i64 xn) (.string xs) (.slice B3 xl.length d3) (.slice B4 xks.length d4) = wf := ⟨_, rfl⟩
    rw [hwf] at bf qf hfin
    unfold set5 at hwf
    simp only [Nat.zero_add] at hwf
    have r0 := bf.at 0 _ rfl
    have r1 := bf.at 1 _ rfl
    have r2 := bf.at 2 _ rfl
    have r3 := bf.at 3 _ rfl
    have r4 := bf.at 4 _ rfl
    have QF := Lib.hid qf
    have HF2 := Lib.hid hfin
    clear bf qf z3 hI hfin hsz2 q3
    go_wp2_with fail
    refine bodyPost_ret (by simp [results, Tryz.results29, go_sem, r0, r1, r2, r3, r4]; try rfl) rfl ?_
    rw [HK'.out]
    exact ⟨QVW.out.trans QF.out, _, _, rfl, HF2.out.1, HF2.out.2⟩

end Go.Proofs.YtjmchjphdfbhiaaGreatDoor.val
