/- Map: the walk. -/
import Derived.Test.YtjmchjphdfbhiaaGreatDoorVmy
namespace Go.Proofs.YtjmchjphdfbhiaaGreatDoor.val
open Go.RowKit
open Go.Proofs.YtjmchjphdfbhiaaGreatDoor
open Go.Proofs.YtjmchjphdfbhiaaGreatDoor.val.cp (Fit FitL Fit_iff FitL_mem set5 set5_block set5_world set5_at)
theorem Q.drew (w : World) : Q w w.drew := Q.drewN w 1
theorem five_one (a b : Int) (s : ByteArray) (A B : Option Addr) (n c m d : Nat) : ∀ u ∈ (#[Value.int .i64 a, .int .i64 b, .string s, .slice A n c, .slice B m d] : Array Value).toList, u.oneCell' = true := by
  intro u hu
  simp only [List.mem_cons, List.not_mem_nil, or_false] at hu
  rcases hu with rfl | rfl | rfl | rfl | rfl <;> rfl
set_option maxHeartbeats 20000000 in
set_option maxRecDepth 100000 in
theorem map_eq (ks : List ByteArray) (l : List V) (A4 A3 : Option Addr) (k4 k3 : Nat) (w : World) (hlen : ks.length = l.length) (hK : Ks (.slice A4 ks.length k4) ks w) (hI : Is (.slice A3 l.length k3) l w) (hfl : FitL l) (hfk : ∀ k ∈ ks, k.size ≤ 281474976710656) (hn : nodesL l ≤ 800000) (hn1 : ks.length ≤ 100000) :
    Calls Tryz.prog 27 #[.slice A4 ks.length k4, .slice A3 l.length k3] w (Mapped ks l w) := by
  obtain ⟨n, hnn⟩ : ∃ n, ks.length = n := ⟨_, rfl⟩
  obtain ⟨P, hP⟩ : ∃ P, w.heap.size = P := ⟨_, rfl⟩
  obtain ⟨w1, hw1⟩ : ∃ w1, w.alloc (.cells #[.int .i64 0, .int .i64 0, .string ⟨#[]⟩, .slice none 0 0, .slice none 0 0] 26) = w1 := ⟨_, rfl⟩
  obtain ⟨S, hS⟩ : ∃ S, w1.heap.size = S := ⟨_, rfl⟩
  obtain ⟨w2, hw2⟩ : ∃ w2, w1.alloc (.cells #[.int .i64 0, .int .i64 0, .string ⟨#[]⟩, .slice none 0 0, .slice none 0 0] 26) = w2 := ⟨_, rfl⟩
  have q1 : Q w w1 := by rw [← hw1]; exact Q.box _ _
  have q2 : Q w1 w2 := by rw [← hw2]; exact Q.box _ _
  have z : Bk P #[.int .i64 0, .int .i64 0, .string ⟨#[]⟩, .slice none 0 0, .slice none 0 0] 26 w1 := by rw [← hw1, ← hP]; exact Bk.new _ _ _
  have v : Bk S #[.int .i64 0, .int .i64 0, .string ⟨#[]⟩, .slice none 0 0, .slice none 0 0] 26 w2 := by rw [← hw2, ← hS]; exact Bk.new _ _ _
  have hPS : P < S := by rw [← hS, ← hw1, size_alloc]; omega
  have u0 := v.at 0 _ rfl
  have u1 := v.at 1 _ rfl
  have u2 := v.at 2 _ rfl
  have u3 := v.at 3 _ rfl
  have u4 := v.at 4 _ rfl
  have f0 := v.frozen 0
  have f1 := v.frozen 1
  have f2 := v.frozen 2
  have f3 := v.frozen 3
  have f4 := v.frozen 4
  have hsz2 : w2.heap.size = S + 1 := by rw [← hw2, size_alloc, hS]
  obtain ⟨bf, qf⟩ := store5 (k := 5) (n := 0) (s := ⟨#[]⟩) (s3 := .slice none 0 0) (s4 := .slice none 0 0) hS.symm v q2
  have hszf := (set5_world w2 S 0 (.int .i64 5) (.int .i64 0) (.string ⟨#[]⟩) (.slice none 0 0) (.slice none 0 0)).2.2.2
  obtain ⟨wf, hwf⟩ : ∃ wf, set5 w2 S 0 (.int .i64 5) (.int .i64 0) (.string ⟨#[]⟩) (.slice none 0 0) (.slice none 0 0) = wf := ⟨_, rfl⟩
  rw [hwf] at bf qf hszf
  unfold set5 at hwf
  simp only [Nat.zero_add] at hwf
  have hqf : Q w wf := q1.trans qf
  have cP := Lib.hid (placesByKey_any ks A4 k4 wf (hK.stays hqf) (by omega))
  rw [hszf, hsz2, hnn] at cP
  obtain ⟨R, hR⟩ : ∃ R, S + 1 + 1 = R := ⟨_, rfl⟩
  rw [hR] at cP
  have h1 : ((n : Int) != (n : Int)) = false := by simp
  have HPS := Lib.hid (show P < S ∧ P = w.heap.size ∧ wf.heap.size = S + 1 ∧ S < R from ⟨hPS, hP.symm, by omega, by omega⟩)
  have ZB := Lib.hid (z.stays qf)
  have VB := Lib.hid bf
  have QF := Lib.hid hqf
  have HK := Lib.hid hK
  have HI := Lib.hid hI
  have HN := Lib.hid (show ks.length = n ∧ l.length = n ∧ n ≤ 100000 ∧ nodesL l ≤ 800000 from ⟨hnn, by omega, by omega, hn⟩)
  have HFIT := Lib.hid (show FitL l ∧ ∀ k ∈ ks, k.size ≤ 281474976710656 from ⟨hfl, hfk⟩)
  rw [← hlen, hnn]
  clear hK hI hlen hn hn1 hfl hfk z v q1 q2 bf qf hqf hsz2 hszf hPS hR hnn
  go_enter Tryz.func27, Tryz.ntmps27
  go_wp2_with fail
  refine (cP.out).mono ?_
  rintro e w3 ⟨rfl, hpl⟩
  obtain ⟨p, hO, hcell, q3⟩ := hpl
  obtain ⟨F, hF⟩ : ∃ F : Nat → Value × Value, ∀ i (hi : i < l.length) b o, A3 = some ⟨b, o, none⟩ → Hd l[i] b (o + i * 5) (F i).1 (F i).2 w := by
    have hIs := HI.out
    obtain ⟨A', c', e, hc, g⟩ := hIs
    simp only [Value.slice.injEq] at e
    obtain ⟨rfl, -, rfl⟩ := e
    by_cases h0 : l = []
    · exact ⟨fun _ => (.int .i64 0, .int .i64 0), fun i hi => by rw [h0] at hi; exact absurd hi (Nat.not_lt_zero _)⟩
    · obtain ⟨b, o, rfl, hV⟩ := g h0
      have hex : ∀ i, ∃ s : Value × Value, ∀ (hi : i < l.length), Hd l[i] b (o + i * 5) s.1 s.2 w := fun i => by
        by_cases hi : i < l.length
        · obtain ⟨s3, s4, h⟩ := VL.at l b o w hV i hi
          exact ⟨(s3, s4), fun _ => h⟩
        · exact ⟨(.int .i64 0, .int .i64 0), fun h => absurd h hi⟩
      refine ⟨fun i => (hex i).choose, fun i hi b' o' e => ?_⟩
      simp only [Option.some.injEq, Addr.mk.injEq, and_true] at e
      obtain ⟨rfl, rfl⟩ := e
      exact (hex i).choose_spec hi
  have hB : Hid (wf.heap.size ≤ w3.heap.size ∧ R < w3.heap.size ∨ n = 0) := by
    by_cases h0 : n = 0
    · exact .inr h0
    · refine .inl ⟨q3.size, ?_⟩
      have hp : 0 < p.length := by rw [hO.len]; have := HN.out; omega
      exact cell_lt (hcell 0 _ (List.getElem?_eq_getElem hp))
  have H0 : Hid (MS ks l p F S 0 none 0 none 0 w3 w3) := by
    refine ⟨⟨World.ownsRow_nil _ _ _ _, World.ownsRow_nil _ _ _ _, (fun g e => by cases e), ⟨rfl, rfl, rfl, Nat.le_refl _, fun _ _ _ => rfl⟩, ?_⟩, ?_, ?_⟩
    · have := q3.size
      have := HPS.out
      omega
    · exact VB.out.stays q3
    · exact List.Pairwise.nil
  have HO := Lib.hid hO
  have HC := Lib.hid hcell
  have HF := Lib.hid hF
  have Q3 := Lib.hid q3
  clear hO hcell hF q3 hwf hw1 hw2 hP hS
  go_wp2_with fail
  go_loopw [20] (fun i wr => ∃ (k : Nat) (AK : Option Addr) (cK : Nat) (AI : Option Addr) (cI : Nat), k ≤ n ∧ i = .int .i64 k ∧ Hid (MS ks l p F S k AK cK AI cI w3 wr)) (fun i _ => n - (intOf i).toNat)
  case atStart => exact ⟨0, none, 0, none, 0, Nat.zero_le _, rfl, H0⟩
  case round =>
    obtain ⟨k, AK, cK, AI, cI, hk, rfl, HM⟩ := hrel
    clear H0 u0 u1 u2 u3 u4 f0 f1 f2 f3 f4
    by_cases hlt : k < n
    · have hkp : k < p.length := by rw [HO.out.len]; have := HN.out; omega
      obtain ⟨pk, hpk⟩ : ∃ pk, p[k] = pk := ⟨_, rfl⟩
      have hpkn : pk < n := by rw [← hpk]; have := HO.out.lt (List.getElem_mem hkp); have := HN.out; omega
      have hwS : w.heap.size ≤ S := by have := HPS.out; omega
      have qw3 : Q w w3 := QF.out.trans Q3.out
      have qwr : Q w wr := HM.out.tw.grown qw3 hwS
      have cpl : wr.cell? ⟨R, k, none⟩ = some (.int .i64 (pk : Nat)) := HM.out.tw.cell (HC.out k pk (by rw [List.getElem?_eq_getElem hkp, hpk])) (by show R ≠ S; have := HPS.out; omega)
      obtain ⟨b, o, hA4, hKL⟩ : ∃ b o, A4 = some ⟨b, o, none⟩ ∧ KL ks b o w := by
        obtain ⟨A', c', e, hc, g⟩ := HK.out
        simp only [Value.slice.injEq] at e
        obtain ⟨rfl, -, rfl⟩ := e
        exact g (by intro e; have := HN.out; rw [e] at this; simp only [List.length_nil] at this; omega)
      obtain ⟨bi, oi, hA3⟩ : ∃ b o, A3 = some ⟨b, o, none⟩ := by
        obtain ⟨A', c', e, hc, g⟩ := HI.out
        simp only [Value.slice.injEq] at e
        obtain ⟨rfl, -, rfl⟩ := e
        obtain ⟨b, o, e, -⟩ := g (by intro e; have := HN.out; rw [e] at this; simp only [List.length_nil] at this; omega)
        exact ⟨b, o, e⟩
      have hpks : pk < ks.length := by have := HN.out; omega
      have hpkl : pk < l.length := by have := HN.out; omega
      obtain ⟨x, hx⟩ : ∃ x, ks[pk] = x := ⟨_, rfl⟩
      have hKx : (Kp ks p)[k]? = some x := by
        unfold Kp
        rw [List.getElem?_map, List.getElem?_eq_getElem hkp, hpk]
        simp only [Option.map_some, Option.some.injEq]
        rw [List.getElem?_eq_getElem hpks, hx]
        rfl
      have cx : wr.cell? ⟨b, o + pk, none⟩ = some (.string x) := by rw [← hx]; exact cell_stays qwr (KL.at ks b o w hKL pk hpks)
      have hdw := HF.out pk hpkl bi oi hA3
      have hd := hdw.stays qwr
      obtain ⟨A5, k5, e5, -⟩ := hd.is.shape
      obtain ⟨A6, k6, e6, -⟩ := hd.kk.shape
      obtain ⟨y, hy⟩ : ∃ y, l[pk] = y := ⟨_, rfl⟩
      rw [hy] at hd hdw e5 e6
      have hF2 : F pk = (.slice A5 y.items.length k5, .slice A6 y.keys.length k6) := by rw [← e5, ← e6]
      have hfy : (c5 (l[pk]?.getD V0) (F pk)) = #[.int .i64 y.kind, .int .i64 y.num, .string y.str, .slice A5 y.items.length k5, .slice A6 y.keys.length k6] := by
        rw [List.getElem?_eq_getElem hpkl, hF2, hy]
        rfl
      rw [e5, e6] at hd hdw
      have y0 := hd.k
      have y1 := hd.n
      have y2 := hd.s
      have y3 := hd.l
      have y4 := hd.ks
      have c0w := hdw.k
      have c1w := hdw.n
      have c2w := hdw.s
      have c3w := hdw.l
      have c4w := hdw.ks
      obtain ⟨yk, hyk⟩ : ∃ a, y.kind = a := ⟨_, rfl⟩
      obtain ⟨yn, hyn⟩ : ∃ a, y.num = a := ⟨_, rfl⟩
      obtain ⟨ys, hys⟩ : ∃ a, y.str = a := ⟨_, rfl⟩
      obtain ⟨n5, hn5⟩ : ∃ a, y.items.length = a := ⟨_, rfl⟩
      obtain ⟨n6, hn6⟩ : ∃ a, y.keys.length = a := ⟨_, rfl⟩
      rw [hyk] at y0 c0w hfy
      rw [hyn] at y1 c1w hfy
      rw [hys] at y2 c2w hfy
      rw [hn5] at y3 c3w hfy
      rw [hn6] at y4 c4w hfy
      subst hA4 hA3
      have hIS := HM.out.bk
      have v0 := hIS.at 0 _ rfl
      have v1 := hIS.at 1 _ rfl
      have v2 := hIS.at 2 _ rfl
      have v3 := hIS.at 3 _ rfl
      have v4 := hIS.at 4 _ rfl
      have hxn : Hid (((Kp ks p).take (k + 1)).map Value.string = ((Kp ks p).take k).map Value.string ++ [Value.string x]) := by
        obtain ⟨hh, e⟩ := List.getElem?_eq_some_iff.1 hKx
        show _ = _
        rw [List.take_succ_eq_append_getElem hh, List.map_append, e]
        rfl
      have hyn2 : Hid (flat F l (p.take (k + 1)) = flat F l (p.take k) ++ [.int .i64 yk, .int .i64 yn, .string ys, .slice A5 n5 k5, .slice A6 n6 k6]) := by
        show _ = _
        rw [List.take_succ_eq_append_getElem hkp, flat_app, hpk]
        show _ ++ ((c5 _ _).toList ++ []) = _
        rw [hfy, List.append_nil]
      have CX := Lib.hid (show w.cell? ⟨b, o + pk, none⟩ = some (.string x) by rw [← hx]; exact KL.at ks b o w hKL pk hpks)
      have CY := Lib.hid (show w.cell? ⟨bi, oi + pk * 5, none⟩ = some (.int .i64 yk) ∧ w.cell? ⟨bi, oi + pk * 5 + 1, none⟩ = some (.int .i64 yn) ∧ w.cell? ⟨bi, oi + pk * 5 + 2, none⟩ = some (.string ys) ∧ w.cell? ⟨bi, oi + pk * 5 + 3, none⟩ = some (.slice A5 n5 k5) ∧ w.cell? ⟨bi, oi + pk * 5 + 4, none⟩ = some (.slice A6 n6 k6) from ⟨c0w, c1w, c2w, c3w, c4w⟩)
      have HKX := Lib.hid hKx
      have QW := Lib.hid qwr
      have i1 : (pk : Int) < (n : Int) := by omega
      have i2 : (k : Int) < (n : Int) := by omega
      have HS := Lib.hid (fun (hd : ∀ j, j + 1 = k → (Kp ks p)[j]? ≠ (Kp ks p)[k]?) => srt_next HO.out hkp HM.out.srt hd)
      have hkb : k ≤ 100000 := by have := HN.out; omega
      clear hdw c0w c1w c2w c3w c4w hyk hyn hys hn5 hn6 hfy hF2 e5 e6 hd hKL hKx hx hy hpks hpkl qwr qw3 hwS hIS hpk hpkn hkp
      by_cases h0 : k = 0
      · have g0 : decide ((1 : Int) ≤ (k : Int)) = false := decide_eq_false (by omega)
        have HZ := Lib.hid h0
        clear h0
        go_wp2_with fail
        go_quiet (fail)
        have hD : Hid (srt ((Kp ks p).take (k + 1))) := HS.out (fun j hj => by have := HZ.out; omega)
        have qq : Q wr (wr.drewN nq) := Q.drewN _ _
        obtain ⟨wq, hwq⟩ : ∃ wq, wr.drewN nq = wq := ⟨_, rfl⟩
        rw [hwq] at qq ⊢
        clear hwq
        have HMq : Hid (MS ks l p F S k AK cK AI cI w3 wq) := ⟨HM.out.tw.quiet qq, HM.out.bk.stays qq, HM.out.srt⟩
        have QQ := Lib.hid qq
        have a0 := cell_stays qq cx
        have a1 := cell_stays qq y0
        have a2 := cell_stays qq y1
        have a3 := cell_stays qq y2
        have a4 := cell_stays qq y3
        have a5 := cell_stays qq y4
        have a6 := cell_stays qq v3
        have a7 := cell_stays qq v4
        have a8 : (wq.alloc (.cells #[.string x] 9)).cell? ⟨S, 4, none⟩ = some (.slice AK k cK) := cell_stays (Q.box _ _) a7
        clear qq cpl cx y0 y1 y2 y3 y4 v0 v1 v2 v3 v4 g0
        have OW1 : Hid ((wq.drew.alloc (.cells #[.string x] 9)).ownsRow w3.heap.size 9 1 (.slice AK k cK) k (((Kp ks p).take k).map .string)) := Lib.hid (HMq.out.tw.quiet ((Q.drew wq).trans (Q.box wq.drew (.cells #[.string x] 9)))).own1
        have BAS : Hid (w3.heap.size ≤ (wq.drew.alloc (.cells #[.string x] 9)).heap.size) := Lib.hid (by have h1 := ((Q.drew wq).trans (Q.box wq.drew (.cells #[.string x] 9))).size; have h2 := HMq.out.tw.q.size; omega)
        have NEX : Hid (∀ g2 cap2 w4, w4.ownsRow w3.heap.size 9 1 (.slice (some ⟨g2, 0, none⟩) (k + 1) cap2) (k + 1) (((Kp ks p).take k).map .string ++ [.string x]) → (wq.drew.alloc (.cells #[.string x] 9)).grownBy w4 (Value.slice AK k cK).ownBlock → ((Value.slice AK k cK).ownBlock = some g2 ∨ g2 = (wq.drew.alloc (.cells #[.string x] 9)).heap.size) →
            w4.cell? ⟨b, o + pk, none⟩ = some (.string x) ∧ w4.cell? ⟨S, 4, none⟩ = some (.slice AK k cK) ∧ w4.frozen? ⟨S, 4, none⟩ = false ∧ (w4.setCell ⟨S, 4, none⟩ (.slice (some ⟨g2, 0, none⟩) (k + 1) cap2)).cell? ⟨b, o + pk, none⟩ = some (.string x) ∧
            (Tw S 9 1 (.slice (some ⟨g2, 0, none⟩) (k + 1) cap2) (k + 1) (((Kp ks p).take (k + 1)).map .string) 26 5 (.slice AI k cI) k (flat F l (p.take k)) w3 (w4.setCell ⟨S, 4, none⟩ (.slice (some ⟨g2, 0, none⟩) (k + 1) cap2)) ∧
             Bk S #[.int .i64 5, .int .i64 0, .string ⟨#[]⟩, .slice AI k cI, .slice (some ⟨g2, 0, none⟩) (k + 1) cap2] 26 (w4.setCell ⟨S, 4, none⟩ (.slice (some ⟨g2, 0, none⟩) (k + 1) cap2)))) := Lib.hid (fun g2 cap2 w4 O4 G4 hg4 => by
          have T0 := HMq.out.tw.quiet ((Q.drew wq).trans (Q.box wq.drew (.cells #[.string x] 9)))
          have B0 := HMq.out.bk.stays ((Q.drew wq).trans (Q.box wq.drew (.cells #[.string x] 9)))
          rw [← hxn.out] at O4
          have T4 := T0.push O4 G4 rfl hg4 rfl 4 (.slice (some ⟨g2, 0, none⟩) (k + 1) cap2)
          have B4 := T0.blk G4 B0
          have hbw : w.cell? ⟨b, o + pk, none⟩ = some (.string x) := CX.out
          have hlt2 : b < w.heap.size := cell_lt hbw
          have hwS : w.heap.size ≤ S := by have := HPS.out; omega
          have qT := T4.grown (QF.out.trans Q3.out) hwS
          have hc5 := cell_stays qT hbw
          refine ⟨?_, B4.at 4 _ rfl, B4.frozen 4, hc5, T4, B4.set 4 _⟩
          rw [← hc5]
          exact (World.cell?_of_block (Below.heap_setCell w4 ⟨S, 4, none⟩ _ b (by show b ≠ S; omega))).symm)
        clear HM
        go_wp2_with fail
        refine Go.wp_region_held_drew (S := fun w' => w'.cell? ⟨b, o + pk, none⟩ = some (.string x)) (by kernel_rfl) (a0) (fun hHeld => ?_)
        refine Go.wpAnyH_take (i := 0) (oi := _) (v := ?_) rfl (by kernel_rfl) (by kernel_rfl) (by kernel_rfl) (fun _ _ _ h => h) (Or.inl ⟨by rfl, ?_⟩) (by assumption) ?_
        rotate_left 1
        · intro wx hSw
          go_simp <;> with_reducible rfl
        simp only [Act.put, List.getElem_toArray, List.getElem_cons_zero, List.setIfInBounds_toArray, List.set_cons_zero, List.set_cons_succ]
        refine Go.wpAnyH_take (i := 2) (oi := _) (v := ?_) rfl (by kernel_rfl) (by kernel_rfl) (by kernel_rfl) (fun _ _ _ h => h) (Or.inl ⟨by rfl, ?_⟩) (by assumption) ?_
        rotate_left 1
        · intro wx hSw
          go_simp <;> with_reducible rfl
        simp only [Act.put, List.getElem_toArray, List.getElem_cons_zero, List.getElem_cons_succ, List.setIfInBounds_toArray, List.set_cons_zero, List.set_cons_succ]
        refine Go.wpAnyH_take (i := 3) (oi := _) (v := ?_) rfl (by kernel_rfl) (by kernel_rfl) (by kernel_rfl) (fun _ _ _ h => h) (Or.inl ⟨by rfl, ?_⟩) (by assumption) ?_
        rotate_left 1
        · intro wx hSw
          go_simp <;> with_reducible rfl
        simp only [Act.put, List.getElem_toArray, List.getElem_cons_zero, List.getElem_cons_succ, List.setIfInBounds_toArray, List.set_cons_zero, List.set_cons_succ]
        refine Go.wpAnyH_take (i := 4) (oi := _) (v := ?_) rfl (by kernel_rfl) (by kernel_rfl) (by kernel_rfl) (fun _ _ _ h => h) (Or.inl ⟨by rfl, ?_⟩) (by assumption) ?_
        rotate_left 1
        · intro wx hSw
          go_simp <;> with_reducible rfl
        simp only [Act.put, List.getElem_toArray, List.getElem_cons_zero, List.getElem_cons_succ, List.setIfInBounds_toArray, List.set_cons_zero, List.set_cons_succ]
        refine Go.wpAnyH_take (i := 5) (oi := _) (v := ?_) rfl (by kernel_rfl) (by kernel_rfl) (by kernel_rfl) (fun _ _ _ h => h) (Or.inl ⟨by rfl, ?_⟩) (by assumption) ?_
        rotate_left 1
        · intro wx hSw
          go_simp <;> with_reducible rfl
        simp only [Act.put, List.getElem_toArray, List.getElem_cons_zero, List.getElem_cons_succ, List.setIfInBounds_toArray, List.set_cons_zero, List.set_cons_succ]
        have cb : (wq.drew.alloc (.cells #[.string x] 9)).cell? ⟨b, o + pk, none⟩ = some (.string x) := cell_stays (Q.box _ _) a0
        refine Go.wpAnyH_ready (rs := [1, 6]) (by kernel_rfl) (by simp) ?_
        refine Go.AllReadyH.cons rfl (fun K hK => ?_) (Go.AllReadyH.cons rfl (fun K hK => ?_) Go.AllReadyH.nil)
        · rw [if_pos (by rfl)]
          go_simp
          refine hK.out _ _ (a0) (fun hHeld => ?_)
          clear hK K
          refine Go.wpAnyH_ready (rs := [6]) (by kernel_rfl) (by simp) ?_
          refine Go.AllReadyH.cons rfl (fun K hK => ?_) Go.AllReadyH.nil
          rw [if_pos (by rfl)]
          go_simp
          refine hK.out _ _ (cb) (fun hHeld => ?_)
          clear hK K
          refine Go.wpAnyH_ready (rs := [7]) (by kernel_rfl) (by simp) ?_
          refine Go.AllReadyH.cons rfl (fun K hK => ?_) Go.AllReadyH.nil
          refine step_str (by rfl) _ _ (by rfl) w3.heap.size (.slice AK k cK) k (((Kp ks p).take k).map .string) rfl OW1.out ⟨wq.drew.heap.size, 0, none⟩ rfl (.string x) (lit_one _ _ _) rfl (by omega) BAS.out _ rfl ?_
          intro g2 cap2 w4 O4 G4 hg4
          have N4 := Lib.hid (NEX.out g2 cap2 w4 O4 G4 hg4)
          have cb4 : w4.cell? ⟨b, o + pk, none⟩ = some (.string x) := N4.out.1
          refine hK.out _ _ (cb4) (fun hHeld => ?_)
          clear hK K O4 G4 hg4
          refine Go.wpAnyH_take (i := 8) (oi := _) (v := ?_) rfl (by kernel_rfl) (by kernel_rfl) (by kernel_rfl) (fun _ _ _ h => h) (Or.inl ⟨by rfl, ?_⟩) (by assumption) ?_
          rotate_left 1
          · intro wx hSw
            go_simp <;> with_reducible rfl
          simp only [Act.put, List.getElem_toArray, List.getElem_cons_zero, List.getElem_cons_succ, List.setIfInBounds_toArray, List.set_cons_zero, List.set_cons_succ]
          have s4 : w4.cell? ⟨S, 4, none⟩ = some (.slice AK k cK) := N4.out.2.1
          have t4 : w4.frozen? ⟨S, 4, none⟩ = false := N4.out.2.2.1
          refine Go.wpAnyH_ready (rs := [9]) (by kernel_rfl) (by simp) ?_
          refine Go.AllReadyH.cons rfl (fun K hK => ?_) Go.AllReadyH.nil
          rw [if_pos (by rfl)]
          go_simp
          refine hK.out _ _ (N4.out.2.2.2.1) (fun hHeld => ?_)
          clear hK K
          refine Go.wpAnyH_done (by kernel_rfl) ?_ _
          obtain ⟨w5, hw5⟩ : ∃ w5, w4.setCell ⟨S, 4, none⟩ (.slice (some ⟨g2, 0, none⟩) (k + 1) cap2) = w5 := ⟨_, rfl⟩
          have N5 := Lib.hid N4.out.2.2.2.2
          rw [hw5] at N5 ⊢
          clear hw5 N4 cb4 s4 t4 cb NEX BAS OW1 a6 a7 a8
          have NQ : Q w w5 := N5.out.1.grown (QF.out.trans Q3.out) (by have := HPS.out; omega)
          have e0 := cell_stays NQ CY.out.1
          have e1' := cell_stays NQ CY.out.2.1
          have e2' := cell_stays NQ CY.out.2.2.1
          have e3' := cell_stays NQ CY.out.2.2.2.1
          have e4' := cell_stays NQ CY.out.2.2.2.2
          have s3 := N5.out.2.at 3 _ rfl
          have cc : Hid ((fun w' : World => w'.cell? ⟨bi, oi + pk * 5, none⟩ = some (.int .i64 yk) ∧ w'.cell? ⟨bi, oi + pk * 5 + 1, none⟩ = some (.int .i64 yn) ∧ w'.cell? ⟨bi, oi + pk * 5 + 2, none⟩ = some (.string ys) ∧ w'.cell? ⟨bi, oi + pk * 5 + 3, none⟩ = some (.slice A5 n5 k5) ∧ w'.cell? ⟨bi, oi + pk * 5 + 4, none⟩ = some (.slice A6 n6 k6)) (w5.drew.alloc (.cells #[.int .i64 yk, .int .i64 yn, .string ys, .slice A5 n5 k5, .slice A6 n6 k6] 26))) := Lib.hid ⟨cell_stays (Q.box _ _) e0, cell_stays (Q.box _ _) e1', cell_stays (Q.box _ _) e2', cell_stays (Q.box _ _) e3', cell_stays (Q.box _ _) e4'⟩
          have s3' : (w5.drew.alloc (.cells #[.int .i64 yk, .int .i64 yn, .string ys, .slice A5 n5 k5, .slice A6 n6 k6] 26)).cell? ⟨S, 3, none⟩ = some (.slice AI k cI) := cell_stays (Q.box _ _) s3
          have s3q : (w5.alloc (.cells #[.int .i64 yk, .int .i64 yn, .string ys, .slice A5 n5 k5, .slice A6 n6 k6] 26)).cell? ⟨S, 3, none⟩ = some (.slice AI k cI) := cell_stays (Q.box _ _) s3
          have OW2 : Hid ((w5.drew.alloc (.cells #[.int .i64 yk, .int .i64 yn, .string ys, .slice A5 n5 k5, .slice A6 n6 k6] 26)).ownsRow w3.heap.size 26 5 (.slice AI k cI) k (flat F l (p.take k))) := Lib.hid (N5.out.1.quiet ((Q.drew w5).trans (Q.box w5.drew (.cells #[.int .i64 yk, .int .i64 yn, .string ys, .slice A5 n5 k5, .slice A6 n6 k6] 26)))).own2
          have BA2 : Hid (w3.heap.size ≤ (w5.drew.alloc (.cells #[.int .i64 yk, .int .i64 yn, .string ys, .slice A5 n5 k5, .slice A6 n6 k6] 26)).heap.size) := Lib.hid (by have h1 := ((Q.drew w5).trans (Q.box w5.drew (.cells #[.int .i64 yk, .int .i64 yn, .string ys, .slice A5 n5 k5, .slice A6 n6 k6] 26))).size; have h2 := N5.out.1.q.size; omega)
          have NX2 : Hid (∀ g6 cap6 w6, w6.ownsRow w3.heap.size 26 5 (.slice (some ⟨g6, 0, none⟩) (k + 1) cap6) (k + 1) (flat F l (p.take k) ++ (#[.int .i64 yk, .int .i64 yn, .string ys, .slice A5 n5 k5, .slice A6 n6 k6] : Array Value).toList) → (w5.drew.alloc (.cells #[.int .i64 yk, .int .i64 yn, .string ys, .slice A5 n5 k5, .slice A6 n6 k6] 26)).grownBy w6 (Value.slice AI k cI).ownBlock → ((Value.slice AI k cI).ownBlock = some g6 ∨ g6 = (w5.drew.alloc (.cells #[.int .i64 yk, .int .i64 yn, .string ys, .slice A5 n5 k5, .slice A6 n6 k6] 26)).heap.size) →
              (fun w' : World => w'.cell? ⟨bi, oi + pk * 5, none⟩ = some (.int .i64 yk) ∧ w'.cell? ⟨bi, oi + pk * 5 + 1, none⟩ = some (.int .i64 yn) ∧ w'.cell? ⟨bi, oi + pk * 5 + 2, none⟩ = some (.string ys) ∧ w'.cell? ⟨bi, oi + pk * 5 + 3, none⟩ = some (.slice A5 n5 k5) ∧ w'.cell? ⟨bi, oi + pk * 5 + 4, none⟩ = some (.slice A6 n6 k6)) w6 ∧ w6.cell? ⟨S, 3, none⟩ = some (.slice AI k cI) ∧ w6.frozen? ⟨S, 3, none⟩ = false ∧ (fun w' : World => w'.cell? ⟨bi, oi + pk * 5, none⟩ = some (.int .i64 yk) ∧ w'.cell? ⟨bi, oi + pk * 5 + 1, none⟩ = some (.int .i64 yn) ∧ w'.cell? ⟨bi, oi + pk * 5 + 2, none⟩ = some (.string ys) ∧ w'.cell? ⟨bi, oi + pk * 5 + 3, none⟩ = some (.slice A5 n5 k5) ∧ w'.cell? ⟨bi, oi + pk * 5 + 4, none⟩ = some (.slice A6 n6 k6)) (w6.setCell ⟨S, 3, none⟩ (.slice (some ⟨g6, 0, none⟩) (k + 1) cap6)) ∧
              MS ks l p F S (k + 1) (some ⟨g2, 0, none⟩) cap2 (some ⟨g6, 0, none⟩) cap6 w3 (w6.setCell ⟨S, 3, none⟩ (.slice (some ⟨g6, 0, none⟩) (k + 1) cap6))) := Lib.hid (fun g6 cap6 w6 O6 G6 hg6 => by
            have T0 := (N5.out.1.quiet ((Q.drew w5).trans (Q.box w5.drew (.cells #[.int .i64 yk, .int .i64 yn, .string ys, .slice A5 n5 k5, .slice A6 n6 k6] 26)))).swap
            have B0 := Bk.stays N5.out.2 ((Q.drew w5).trans (Q.box w5.drew (.cells #[.int .i64 yk, .int .i64 yn, .string ys, .slice A5 n5 k5, .slice A6 n6 k6] 26)))
            rw [← hyn2.out] at O6
            have T6 := T0.push O6 G6 rfl hg6 rfl 3 (.slice (some ⟨g6, 0, none⟩) (k + 1) cap6)
            have B6 := T0.blk G6 B0
            have hwS : w.heap.size ≤ S := by have := HPS.out; omega
            have qT := T6.grown (QF.out.trans Q3.out) hwS
            have hlt2 : bi < w.heap.size := cell_lt CY.out.1
            have hb : ∀ a : Addr, a.block = bi → w6.cell? a = (w6.setCell ⟨S, 3, none⟩ (.slice (some ⟨g6, 0, none⟩) (k + 1) cap6)).cell? a := fun a ha => (World.cell?_of_block (Below.heap_setCell w6 ⟨S, 3, none⟩ _ a.block (by show a.block ≠ S; omega))).symm
            have z0 := cell_stays qT CY.out.1
            have z1 := cell_stays qT CY.out.2.1
            have z2 := cell_stays qT CY.out.2.2.1
            have z3 := cell_stays qT CY.out.2.2.2.1
            have z4 := cell_stays qT CY.out.2.2.2.2
            exact ⟨⟨(hb _ rfl).trans z0, (hb _ rfl).trans z1, (hb _ rfl).trans z2, (hb _ rfl).trans z3, (hb _ rfl).trans z4⟩, B6.at 3 _ rfl, B6.frozen 3, ⟨z0, z1, z2, z3, z4⟩, ⟨T6.swap, B6.set 3 _, hD.out⟩⟩)
          clear a0 a1 a2 a3 a4 a5 NQ
          go_wp2_with fail
          refine Go.wp_region_held_drew (S := fun w' => w'.cell? ⟨bi, oi + pk * 5, none⟩ = some (.int .i64 yk) ∧ w'.cell? ⟨bi, oi + pk * 5 + 1, none⟩ = some (.int .i64 yn) ∧ w'.cell? ⟨bi, oi + pk * 5 + 2, none⟩ = some (.string ys) ∧ w'.cell? ⟨bi, oi + pk * 5 + 3, none⟩ = some (.slice A5 n5 k5) ∧ w'.cell? ⟨bi, oi + pk * 5 + 4, none⟩ = some (.slice A6 n6 k6)) (by kernel_rfl) (⟨e0, e1', e2', e3', e4'⟩) (fun hHeld => ?_)
          refine Go.wpAnyH_take (i := 0) (oi := _) (v := ?_) rfl (by kernel_rfl) (by kernel_rfl) (by kernel_rfl) (fun _ _ _ h => h) (Or.inl ⟨by rfl, ?_⟩) (by assumption) ?_
          rotate_left 1
          · intro wx hSw
            go_simp <;> with_reducible rfl
          simp only [Act.put, List.getElem_toArray, List.getElem_cons_zero, List.setIfInBounds_toArray, List.set_cons_zero, List.set_cons_succ]
          refine Go.wpAnyH_take (i := 2) (oi := _) (v := ?_) rfl (by kernel_rfl) (by kernel_rfl) (by kernel_rfl) (fun _ _ _ h => h) (Or.inl ⟨by rfl, ?_⟩) (by assumption) ?_
          rotate_left 1
          · intro wx hSw
            go_simp <;> with_reducible rfl
          simp only [Act.put, List.getElem_toArray, List.getElem_cons_zero, List.getElem_cons_succ, List.setIfInBounds_toArray, List.set_cons_zero, List.set_cons_succ]
          refine Go.wpAnyH_take (i := 3) (oi := _) (v := ?_) rfl (by kernel_rfl) (by kernel_rfl) (by kernel_rfl) (fun _ _ _ h => h) (Or.inl ⟨by rfl, ?_⟩) (by assumption) ?_
          rotate_left 1
          · intro wx hSw
            go_simp <;> with_reducible rfl
          simp only [Act.put, List.getElem_toArray, List.getElem_cons_zero, List.getElem_cons_succ, List.setIfInBounds_toArray, List.set_cons_zero, List.set_cons_succ]
          refine Go.wpAnyH_take (i := 4) (oi := _) (v := ?_) rfl (by kernel_rfl) (by kernel_rfl) (by kernel_rfl) (fun _ _ _ h => h) (Or.inl ⟨by rfl, ?_⟩) (by assumption) ?_
          rotate_left 1
          · intro wx hSw
            go_simp <;> with_reducible rfl
          simp only [Act.put, List.getElem_toArray, List.getElem_cons_zero, List.getElem_cons_succ, List.setIfInBounds_toArray, List.set_cons_zero, List.set_cons_succ]
          refine Go.wpAnyH_take (i := 5) (oi := _) (v := ?_) rfl (by kernel_rfl) (by kernel_rfl) (by kernel_rfl) (fun _ _ _ h => h) (Or.inl ⟨by rfl, ?_⟩) (by assumption) ?_
          rotate_left 1
          · intro wx hSw
            go_simp <;> with_reducible rfl
          simp only [Act.put, List.getElem_toArray, List.getElem_cons_zero, List.getElem_cons_succ, List.setIfInBounds_toArray, List.set_cons_zero, List.set_cons_succ]
          refine Go.wpAnyH_ready (rs := [1, 6]) (by kernel_rfl) (by simp) ?_
          refine Go.AllReadyH.cons rfl (fun K hK => ?_) (Go.AllReadyH.cons rfl (fun K hK => ?_) Go.AllReadyH.nil)
          · rw [if_pos (by rfl)]
            go_simp
            refine hK.out _ _ (⟨e0, e1', e2', e3', e4'⟩) (fun hHeld => ?_)
            clear hK K
            refine Go.wpAnyH_ready (rs := [6]) (by kernel_rfl) (by simp) ?_
            refine Go.AllReadyH.cons rfl (fun K hK => ?_) Go.AllReadyH.nil
            rw [if_pos (by rfl)]
            go_simp
            refine hK.out _ _ (cc.out) (fun hHeld => ?_)
            clear hK K
            refine Go.wpAnyH_ready (rs := [7]) (by kernel_rfl) (by simp) ?_
            refine Go.AllReadyH.cons rfl (fun K hK => ?_) Go.AllReadyH.nil
            refine step_val (by rfl) _ _ (by rfl) w3.heap.size (.slice AI k cI) k (flat F l (p.take k)) rfl OW2.out w5.drew.heap.size rfl #[.int .i64 yk, .int .i64 yn, .string ys, .slice A5 n5 k5, .slice A6 n6 k6] rfl (heap_alloc_new _ _) (five_one _ _ _ _ _ _ _ _ _) (by omega) BA2.out _ rfl ?_
            intro g6 cap6 w6 O6 G6 hg6
            have N6 := Lib.hid (NX2.out g6 cap6 w6 O6 G6 hg6)
            refine hK.out _ _ (N6.out.1) (fun hHeld => ?_)
            clear hK K O6 G6 hg6
            refine Go.wpAnyH_take (i := 8) (oi := _) (v := ?_) rfl (by kernel_rfl) (by kernel_rfl) (by kernel_rfl) (fun _ _ _ h => h) (Or.inl ⟨by rfl, ?_⟩) (by assumption) ?_
            rotate_left 1
            · intro wx hSw
              go_simp <;> with_reducible rfl
            simp only [Act.put, List.getElem_toArray, List.getElem_cons_zero, List.getElem_cons_succ, List.setIfInBounds_toArray, List.set_cons_zero, List.set_cons_succ]
            have s6 : w6.cell? ⟨S, 3, none⟩ = some (.slice AI k cI) := N6.out.2.1
            have t6 : w6.frozen? ⟨S, 3, none⟩ = false := N6.out.2.2.1
            refine Go.wpAnyH_ready (rs := [9]) (by kernel_rfl) (by simp) ?_
            refine Go.AllReadyH.cons rfl (fun K hK => ?_) Go.AllReadyH.nil
            rw [if_pos (by rfl)]
            go_simp
            refine hK.out _ _ (N6.out.2.2.2.1) (fun hHeld => ?_)
            clear hK K
            refine Go.wpAnyH_done (by kernel_rfl) ?_ _
            have N7 := Lib.hid N6.out.2.2.2.2
            clear N6 s6 t6 N5 NX2 BA2 OW2 e0 e1' e2' e3' e4' HMq
            go_wp2_with fail
            go_roundw
            case rel => exact ⟨k + 1, some ⟨g2, 0, none⟩, cap2, some ⟨g6, 0, none⟩, cap6, by omega, by go_num, N7⟩
            case measure => simp [intOf]; omega
          · rw [if_pos (by rfl)]
            go_simp
            refine hK.out _ _ (cc.out) (fun hHeld => ?_)
            clear hK K
            refine Go.wpAnyH_ready (rs := [1]) (by kernel_rfl) (by simp) ?_
            refine Go.AllReadyH.cons rfl (fun K hK => ?_) Go.AllReadyH.nil
            rw [if_pos (by rfl)]
            go_simp
            refine hK.out _ _ (cc.out) (fun hHeld => ?_)
            clear hK K
            refine Go.wpAnyH_ready (rs := [7]) (by kernel_rfl) (by simp) ?_
            refine Go.AllReadyH.cons rfl (fun K hK => ?_) Go.AllReadyH.nil
            refine step_val (by rfl) _ _ (by rfl) w3.heap.size (.slice AI k cI) k (flat F l (p.take k)) rfl OW2.out w5.drew.heap.size rfl #[.int .i64 yk, .int .i64 yn, .string ys, .slice A5 n5 k5, .slice A6 n6 k6] rfl (heap_alloc_new _ _) (five_one _ _ _ _ _ _ _ _ _) (by omega) BA2.out _ rfl ?_
            intro g6 cap6 w6 O6 G6 hg6
            have N6 := Lib.hid (NX2.out g6 cap6 w6 O6 G6 hg6)
            refine hK.out _ _ (N6.out.1) (fun hHeld => ?_)
            clear hK K O6 G6 hg6
            refine Go.wpAnyH_take (i := 8) (oi := _) (v := ?_) rfl (by kernel_rfl) (by kernel_rfl) (by kernel_rfl) (fun _ _ _ h => h) (Or.inl ⟨by rfl, ?_⟩) (by assumption) ?_
            rotate_left 1
            · intro wx hSw
              go_simp <;> with_reducible rfl
            simp only [Act.put, List.getElem_toArray, List.getElem_cons_zero, List.getElem_cons_succ, List.setIfInBounds_toArray, List.set_cons_zero, List.set_cons_succ]
            have s6 : w6.cell? ⟨S, 3, none⟩ = some (.slice AI k cI) := N6.out.2.1
            have t6 : w6.frozen? ⟨S, 3, none⟩ = false := N6.out.2.2.1
            refine Go.wpAnyH_ready (rs := [9]) (by kernel_rfl) (by simp) ?_
            refine Go.AllReadyH.cons rfl (fun K hK => ?_) Go.AllReadyH.nil
            rw [if_pos (by rfl)]
            go_simp
            refine hK.out _ _ (N6.out.2.2.2.1) (fun hHeld => ?_)
            clear hK K
            refine Go.wpAnyH_done (by kernel_rfl) ?_ _
            have N7 := Lib.hid N6.out.2.2.2.2
            clear N6 s6 t6 N5 NX2 BA2 OW2 e0 e1' e2' e3' e4' HMq
            go_wp2_with fail
            go_roundw
            case rel => exact ⟨k + 1, some ⟨g2, 0, none⟩, cap2, some ⟨g6, 0, none⟩, cap6, by omega, by go_num, N7⟩
            case measure => simp [intOf]; omega
        · rw [if_pos (by rfl)]
          go_simp
          refine hK.out _ _ (cb) (fun hHeld => ?_)
          clear hK K
          refine Go.wpAnyH_ready (rs := [1]) (by kernel_rfl) (by simp) ?_
          refine Go.AllReadyH.cons rfl (fun K hK => ?_) Go.AllReadyH.nil
          rw [if_pos (by rfl)]
          go_simp
          refine hK.out _ _ (cb) (fun hHeld => ?_)
          clear hK K
          refine Go.wpAnyH_ready (rs := [7]) (by kernel_rfl) (by simp) ?_
          refine Go.AllReadyH.cons rfl (fun K hK => ?_) Go.AllReadyH.nil
          refine step_str (by rfl) _ _ (by rfl) w3.heap.size (.slice AK k cK) k (((Kp ks p).take k).map .string) rfl OW1.out ⟨wq.drew.heap.size, 0, none⟩ rfl (.string x) (lit_one _ _ _) rfl (by omega) BAS.out _ rfl ?_
          intro g2 cap2 w4 O4 G4 hg4
          have N4 := Lib.hid (NEX.out g2 cap2 w4 O4 G4 hg4)
          have cb4 : w4.cell? ⟨b, o + pk, none⟩ = some (.string x) := N4.out.1
          refine hK.out _ _ (cb4) (fun hHeld => ?_)
          clear hK K O4 G4 hg4
          refine Go.wpAnyH_take (i := 8) (oi := _) (v := ?_) rfl (by kernel_rfl) (by kernel_rfl) (by kernel_rfl) (fun _ _ _ h => h) (Or.inl ⟨by rfl, ?_⟩) (by assumption) ?_
          rotate_left 1
          · intro wx hSw
            go_simp <;> with_reducible rfl
          simp only [Act.put, List.getElem_toArray, List.getElem_cons_zero, List.getElem_cons_succ, List.setIfInBounds_toArray, List.set_cons_zero, List.set_cons_succ]
          have s4 : w4.cell? ⟨S, 4, none⟩ = some (.slice AK k cK) := N4.out.2.1
          have t4 : w4.frozen? ⟨S, 4, none⟩ = false := N4.out.2.2.1
          refine Go.wpAnyH_ready (rs := [9]) (by kernel_rfl) (by simp) ?_
          refine Go.AllReadyH.cons rfl (fun K hK => ?_) Go.AllReadyH.nil
          rw [if_pos (by rfl)]
          go_simp
          refine hK.out _ _ (N4.out.2.2.2.1) (fun hHeld => ?_)
          clear hK K
          refine Go.wpAnyH_done (by kernel_rfl) ?_ _
          obtain ⟨w5, hw5⟩ : ∃ w5, w4.setCell ⟨S, 4, none⟩ (.slice (some ⟨g2, 0, none⟩) (k + 1) cap2) = w5 := ⟨_, rfl⟩
          have N5 := Lib.hid N4.out.2.2.2.2
          rw [hw5] at N5 ⊢
          clear hw5 N4 cb4 s4 t4 cb NEX BAS OW1 a6 a7 a8
          have NQ : Q w w5 := N5.out.1.grown (QF.out.trans Q3.out) (by have := HPS.out; omega)
          have e0 := cell_stays NQ CY.out.1
          have e1' := cell_stays NQ CY.out.2.1
          have e2' := cell_stays NQ CY.out.2.2.1
          have e3' := cell_stays NQ CY.out.2.2.2.1
          have e4' := cell_stays NQ CY.out.2.2.2.2
          have s3 := N5.out.2.at 3 _ rfl
          have cc : Hid ((fun w' : World => w'.cell? ⟨bi, oi + pk * 5, none⟩ = some (.int .i64 yk) ∧ w'.cell? ⟨bi, oi + pk * 5 + 1, none⟩ = some (.int .i64 yn) ∧ w'.cell? ⟨bi, oi + pk * 5 + 2, none⟩ = some (.string ys) ∧ w'.cell? ⟨bi, oi + pk * 5 + 3, none⟩ = some (.slice A5 n5 k5) ∧ w'.cell? ⟨bi, oi + pk * 5 + 4, none⟩ = some (.slice A6 n6 k6)) (w5.drew.alloc (.cells #[.int .i64 yk, .int .i64 yn, .string ys, .slice A5 n5 k5, .slice A6 n6 k6] 26))) := Lib.hid ⟨cell_stays (Q.box _ _) e0, cell_stays (Q.box _ _) e1', cell_stays (Q.box _ _) e2', cell_stays (Q.box _ _) e3', cell_stays (Q.box _ _) e4'⟩
          have s3' : (w5.drew.alloc (.cells #[.int .i64 yk, .int .i64 yn, .string ys, .slice A5 n5 k5, .slice A6 n6 k6] 26)).cell? ⟨S, 3, none⟩ = some (.slice AI k cI) := cell_stays (Q.box _ _) s3
          have s3q : (w5.alloc (.cells #[.int .i64 yk, .int .i64 yn, .string ys, .slice A5 n5 k5, .slice A6 n6 k6] 26)).cell? ⟨S, 3, none⟩ = some (.slice AI k cI) := cell_stays (Q.box _ _) s3
          have OW2 : Hid ((w5.drew.alloc (.cells #[.int .i64 yk, .int .i64 yn, .string ys, .slice A5 n5 k5, .slice A6 n6 k6] 26)).ownsRow w3.heap.size 26 5 (.slice AI k cI) k (flat F l (p.take k))) := Lib.hid (N5.out.1.quiet ((Q.drew w5).trans (Q.box w5.drew (.cells #[.int .i64 yk, .int .i64 yn, .string ys, .slice A5 n5 k5, .slice A6 n6 k6] 26)))).own2
          have BA2 : Hid (w3.heap.size ≤ (w5.drew.alloc (.cells #[.int .i64 yk, .int .i64 yn, .string ys, .slice A5 n5 k5, .slice A6 n6 k6] 26)).heap.size) := Lib.hid (by have h1 := ((Q.drew w5).trans (Q.box w5.drew (.cells #[.int .i64 yk, .int .i64 yn, .string ys, .slice A5 n5 k5, .slice A6 n6 k6] 26))).size; have h2 := N5.out.1.q.size; omega)
          have NX2 : Hid (∀ g6 cap6 w6, w6.ownsRow w3.heap.size 26 5 (.slice (some ⟨g6, 0, none⟩) (k + 1) cap6) (k + 1) (flat F l (p.take k) ++ (#[.int .i64 yk, .int .i64 yn, .string ys, .slice A5 n5 k5, .slice A6 n6 k6] : Array Value).toList) → (w5.drew.alloc (.cells #[.int .i64 yk, .int .i64 yn, .string ys, .slice A5 n5 k5, .slice A6 n6 k6] 26)).grownBy w6 (Value.slice AI k cI).ownBlock → ((Value.slice AI k cI).ownBlock = some g6 ∨ g6 = (w5.drew.alloc (.cells #[.int .i64 yk, .int .i64 yn, .string ys, .slice A5 n5 k5, .slice A6 n6 k6] 26)).heap.size) →
              (fun w' : World => w'.cell? ⟨bi, oi + pk * 5, none⟩ = some (.int .i64 yk) ∧ w'.cell? ⟨bi, oi + pk * 5 + 1, none⟩ = some (.int .i64 yn) ∧ w'.cell? ⟨bi, oi + pk * 5 + 2, none⟩ = some (.string ys) ∧ w'.cell? ⟨bi, oi + pk * 5 + 3, none⟩ = some (.slice A5 n5 k5) ∧ w'.cell? ⟨bi, oi + pk * 5 + 4, none⟩ = some (.slice A6 n6 k6)) w6 ∧ w6.cell? ⟨S, 3, none⟩ = some (.slice AI k cI) ∧ w6.frozen? ⟨S, 3, none⟩ = false ∧ (fun w' : World => w'.cell? ⟨bi, oi + pk * 5, none⟩ = some (.int .i64 yk) ∧ w'.cell? ⟨bi, oi + pk * 5 + 1, none⟩ = some (.int .i64 yn) ∧ w'.cell? ⟨bi, oi + pk * 5 + 2, none⟩ = some (.string ys) ∧ w'.cell? ⟨bi, oi + pk * 5 + 3, none⟩ = some (.slice A5 n5 k5) ∧ w'.cell? ⟨bi, oi + pk * 5 + 4, none⟩ = some (.slice A6 n6 k6)) (w6.setCell ⟨S, 3, none⟩ (.slice (some ⟨g6, 0, none⟩) (k + 1) cap6)) ∧
              MS ks l p F S (k + 1) (some ⟨g2, 0, none⟩) cap2 (some ⟨g6, 0, none⟩) cap6 w3 (w6.setCell ⟨S, 3, none⟩ (.slice (some ⟨g6, 0, none⟩) (k + 1) cap6))) := Lib.hid (fun g6 cap6 w6 O6 G6 hg6 => by
            have T0 := (N5.out.1.quiet ((Q.drew w5).trans (Q.box w5.drew (.cells #[.int .i64 yk, .int .i64 yn, .string ys, .slice A5 n5 k5, .slice A6 n6 k6] 26)))).swap
            have B0 := Bk.stays N5.out.2 ((Q.drew w5).trans (Q.box w5.drew (.cells #[.int .i64 yk, .int .i64 yn, .string ys, .slice A5 n5 k5, .slice A6 n6 k6] 26)))
            rw [← hyn2.out] at O6
            have T6 := T0.push O6 G6 rfl hg6 rfl 3 (.slice (some ⟨g6, 0, none⟩) (k + 1) cap6)
            have B6 := T0.blk G6 B0
            have hwS : w.heap.size ≤ S := by have := HPS.out; omega
            have qT := T6.grown (QF.out.trans Q3.out) hwS
            have hlt2 : bi < w.heap.size := cell_lt CY.out.1
            have hb : ∀ a : Addr, a.block = bi → w6.cell? a = (w6.setCell ⟨S, 3, none⟩ (.slice (some ⟨g6, 0, none⟩) (k + 1) cap6)).cell? a := fun a ha => (World.cell?_of_block (Below.heap_setCell w6 ⟨S, 3, none⟩ _ a.block (by show a.block ≠ S; omega))).symm
            have z0 := cell_stays qT CY.out.1
            have z1 := cell_stays qT CY.out.2.1
            have z2 := cell_stays qT CY.out.2.2.1
            have z3 := cell_stays qT CY.out.2.2.2.1
            have z4 := cell_stays qT CY.out.2.2.2.2
            exact ⟨⟨(hb _ rfl).trans z0, (hb _ rfl).trans z1, (hb _ rfl).trans z2, (hb _ rfl).trans z3, (hb _ rfl).trans z4⟩, B6.at 3 _ rfl, B6.frozen 3, ⟨z0, z1, z2, z3, z4⟩, ⟨T6.swap, B6.set 3 _, hD.out⟩⟩)
          clear a0 a1 a2 a3 a4 a5 NQ
          go_wp2_with fail
          refine Go.wp_region_held_drew (S := fun w' => w'.cell? ⟨bi, oi + pk * 5, none⟩ = some (.int .i64 yk) ∧ w'.cell? ⟨bi, oi + pk * 5 + 1, none⟩ = some (.int .i64 yn) ∧ w'.cell? ⟨bi, oi + pk * 5 + 2, none⟩ = some (.string ys) ∧ w'.cell? ⟨bi, oi + pk * 5 + 3, none⟩ = some (.slice A5 n5 k5) ∧ w'.cell? ⟨bi, oi + pk * 5 + 4, none⟩ = some (.slice A6 n6 k6)) (by kernel_rfl) (⟨e0, e1', e2', e3', e4'⟩) (fun hHeld => ?_)
          refine Go.wpAnyH_take (i := 0) (oi := _) (v := ?_) rfl (by kernel_rfl) (by kernel_rfl) (by kernel_rfl) (fun _ _ _ h => h) (Or.inl ⟨by rfl, ?_⟩) (by assumption) ?_
          rotate_left 1
          · intro wx hSw
            go_simp <;> with_reducible rfl
          simp only [Act.put, List.getElem_toArray, List.getElem_cons_zero, List.setIfInBounds_toArray, List.set_cons_zero, List.set_cons_succ]
          refine Go.wpAnyH_take (i := 2) (oi := _) (v := ?_) rfl (by kernel_rfl) (by kernel_rfl) (by kernel_rfl) (fun _ _ _ h => h) (Or.inl ⟨by rfl, ?_⟩) (by assumption) ?_
          rotate_left 1
          · intro wx hSw
            go_simp <;> with_reducible rfl
          simp only [Act.put, List.getElem_toArray, List.getElem_cons_zero, List.getElem_cons_succ, List.setIfInBounds_toArray, List.set_cons_zero, List.set_cons_succ]
          refine Go.wpAnyH_take (i := 3) (oi := _) (v := ?_) rfl (by kernel_rfl) (by kernel_rfl) (by kernel_rfl) (fun _ _ _ h => h) (Or.inl ⟨by rfl, ?_⟩) (by assumption) ?_
          rotate_left 1
          · intro wx hSw
            go_simp <;> with_reducible rfl
          simp only [Act.put, List.getElem_toArray, List.getElem_cons_zero, List.getElem_cons_succ, List.setIfInBounds_toArray, List.set_cons_zero, List.set_cons_succ]
          refine Go.wpAnyH_take (i := 4) (oi := _) (v := ?_) rfl (by kernel_rfl) (by kernel_rfl) (by kernel_rfl) (fun _ _ _ h => h) (Or.inl ⟨by rfl, ?_⟩) (by assumption) ?_
          rotate_left 1
          · intro wx hSw
            go_simp <;> with_reducible rfl
          simp only [Act.put, List.getElem_toArray, List.getElem_cons_zero, List.getElem_cons_succ, List.setIfInBounds_toArray, List.set_cons_zero, List.set_cons_succ]
          refine Go.wpAnyH_take (i := 5) (oi := _) (v := ?_) rfl (by kernel_rfl) (by kernel_rfl) (by kernel_rfl) (fun _ _ _ h => h) (Or.inl ⟨by rfl, ?_⟩) (by assumption) ?_
          rotate_left 1
          · intro wx hSw
            go_simp <;> with_reducible rfl
          simp only [Act.put, List.getElem_toArray, List.getElem_cons_zero, List.getElem_cons_succ, List.setIfInBounds_toArray, List.set_cons_zero, List.set_cons_succ]
          refine Go.wpAnyH_ready (rs := [1, 6]) (by kernel_rfl) (by simp) ?_
          refine Go.AllReadyH.cons rfl (fun K hK => ?_) (Go.AllReadyH.cons rfl (fun K hK => ?_) Go.AllReadyH.nil)
          · rw [if_pos (by rfl)]
            go_simp
            refine hK.out _ _ (⟨e0, e1', e2', e3', e4'⟩) (fun hHeld => ?_)
            clear hK K
            refine Go.wpAnyH_ready (rs := [6]) (by kernel_rfl) (by simp) ?_
            refine Go.AllReadyH.cons rfl (fun K hK => ?_) Go.AllReadyH.nil
            rw [if_pos (by rfl)]
            go_simp
            refine hK.out _ _ (cc.out) (fun hHeld => ?_)
            clear hK K
            refine Go.wpAnyH_ready (rs := [7]) (by kernel_rfl) (by simp) ?_
            refine Go.AllReadyH.cons rfl (fun K hK => ?_) Go.AllReadyH.nil
            refine step_val (by rfl) _ _ (by rfl) w3.heap.size (.slice AI k cI) k (flat F l (p.take k)) rfl OW2.out w5.drew.heap.size rfl #[.int .i64 yk, .int .i64 yn, .string ys, .slice A5 n5 k5, .slice A6 n6 k6] rfl (heap_alloc_new _ _) (five_one _ _ _ _ _ _ _ _ _) (by omega) BA2.out _ rfl ?_
            intro g6 cap6 w6 O6 G6 hg6
            have N6 := Lib.hid (NX2.out g6 cap6 w6 O6 G6 hg6)
            refine hK.out _ _ (N6.out.1) (fun hHeld => ?_)
            clear hK K O6 G6 hg6
            refine Go.wpAnyH_take (i := 8) (oi := _) (v := ?_) rfl (by kernel_rfl) (by kernel_rfl) (by kernel_rfl) (fun _ _ _ h => h) (Or.inl ⟨by rfl, ?_⟩) (by assumption) ?_
            rotate_left 1
            · intro wx hSw
              go_simp <;> with_reducible rfl
            simp only [Act.put, List.getElem_toArray, List.getElem_cons_zero, List.getElem_cons_succ, List.setIfInBounds_toArray, List.set_cons_zero, List.set_cons_succ]
            have s6 : w6.cell? ⟨S, 3, none⟩ = some (.slice AI k cI) := N6.out.2.1
            have t6 : w6.frozen? ⟨S, 3, none⟩ = false := N6.out.2.2.1
            refine Go.wpAnyH_ready (rs := [9]) (by kernel_rfl) (by simp) ?_
            refine Go.AllReadyH.cons rfl (fun K hK => ?_) Go.AllReadyH.nil
            rw [if_pos (by rfl)]
            go_simp
            refine hK.out _ _ (N6.out.2.2.2.1) (fun hHeld => ?_)
            clear hK K
            refine Go.wpAnyH_done (by kernel_rfl) ?_ _
            have N7 := Lib.hid N6.out.2.2.2.2
            clear N6 s6 t6 N5 NX2 BA2 OW2 e0 e1' e2' e3' e4' HMq
            go_wp2_with fail
            go_roundw
            case rel => exact ⟨k + 1, some ⟨g2, 0, none⟩, cap2, some ⟨g6, 0, none⟩, cap6, by omega, by go_num, N7⟩
            case measure => simp [intOf]; omega
          · rw [if_pos (by rfl)]
            go_simp
            refine hK.out _ _ (cc.out) (fun hHeld => ?_)
            clear hK K
            refine Go.wpAnyH_ready (rs := [1]) (by kernel_rfl) (by simp) ?_
            refine Go.AllReadyH.cons rfl (fun K hK => ?_) Go.AllReadyH.nil
            rw [if_pos (by rfl)]
            go_simp
            refine hK.out _ _ (cc.out) (fun hHeld => ?_)
            clear hK K
            refine Go.wpAnyH_ready (rs := [7]) (by kernel_rfl) (by simp) ?_
            refine Go.AllReadyH.cons rfl (fun K hK => ?_) Go.AllReadyH.nil
            refine step_val (by rfl) _ _ (by rfl) w3.heap.size (.slice AI k cI) k (flat F l (p.take k)) rfl OW2.out w5.drew.heap.size rfl #[.int .i64 yk, .int .i64 yn, .string ys, .slice A5 n5 k5, .slice A6 n6 k6] rfl (heap_alloc_new _ _) (five_one _ _ _ _ _ _ _ _ _) (by omega) BA2.out _ rfl ?_
            intro g6 cap6 w6 O6 G6 hg6
            have N6 := Lib.hid (NX2.out g6 cap6 w6 O6 G6 hg6)
            refine hK.out _ _ (N6.out.1) (fun hHeld => ?_)
            clear hK K O6 G6 hg6
            refine Go.wpAnyH_take (i := 8) (oi := _) (v := ?_) rfl (by kernel_rfl) (by kernel_rfl) (by kernel_rfl) (fun _ _ _ h => h) (Or.inl ⟨by rfl, ?_⟩) (by assumption) ?_
            rotate_left 1
            · intro wx hSw
              go_simp <;> with_reducible rfl
            simp only [Act.put, List.getElem_toArray, List.getElem_cons_zero, List.getElem_cons_succ, List.setIfInBounds_toArray, List.set_cons_zero, List.set_cons_succ]
            have s6 : w6.cell? ⟨S, 3, none⟩ = some (.slice AI k cI) := N6.out.2.1
            have t6 : w6.frozen? ⟨S, 3, none⟩ = false := N6.out.2.2.1
            refine Go.wpAnyH_ready (rs := [9]) (by kernel_rfl) (by simp) ?_
            refine Go.AllReadyH.cons rfl (fun K hK => ?_) Go.AllReadyH.nil
            rw [if_pos (by rfl)]
            go_simp
            refine hK.out _ _ (N6.out.2.2.2.1) (fun hHeld => ?_)
            clear hK K
            refine Go.wpAnyH_done (by kernel_rfl) ?_ _
            have N7 := Lib.hid N6.out.2.2.2.2
            clear N6 s6 t6 N5 NX2 BA2 OW2 e0 e1' e2' e3' e4' HMq
            go_wp2_with fail
            go_roundw
            case rel => exact ⟨k + 1, some ⟨g2, 0, none⟩, cap2, some ⟨g6, 0, none⟩, cap6, by omega, by go_num, N7⟩
            case measure => simp [intOf]; omega
      · have g0 : decide ((1 : Int) ≤ (k : Int)) = true := decide_eq_true (by omega)
        have g1 : (k : Int) - 1 < (k : Int) := by omega
        have g2 : (0 : Int) ≤ (k : Int) - 1 := by omega
        obtain ⟨g, rfl⟩ : ∃ g, AK = some ⟨g, 0, none⟩ := by
          rcases HM.out.tw.own1.2 with ⟨e, _⟩ | ⟨g, cap, cur, e, _⟩
          · simp only [Value.slice.injEq] at e
            omega
          · simp only [Value.slice.injEq] at e
            exact ⟨g, e.1⟩
        obtain ⟨lx, hlx⟩ : ∃ lx, (Kp ks p)[k - 1]? = some lx := by
          refine ⟨_, List.getElem?_eq_getElem (?_ : k - 1 < (Kp ks p).length)⟩
          rw [Kp_len, HO.out.len]
          have := HN.out
          omega
        have cl : wr.cell? ⟨g, k - 1, none⟩ = some (.string lx) := by
          rw [World.ownsRow.cellAt HM.out.tw.own1 (k - 1) (by omega), List.getElem?_map, List.getElem?_take_of_lt (by omega), hlx]
          rfl
        have e1 : ((k : Int) - 1).toNat = k - 1 := by omega
        have HZ := Lib.hid h0
        have HL := Lib.hid hlx
        clear h0 hlx
        by_cases hd : lx = x
        · have e2 : (lx.toList == x.toList) = true := by rw [hd]; exact beq_self_eq_true _
          have zr : Bk P #[.int .i64 0, .int .i64 0, .string ⟨#[]⟩, .slice none 0 0, .slice none 0 0] 26 wr := by
            have z3 := ZB.out.stays Q3.out
            exact (HM.out.tw.q.block P z3.lt (fun e => by have := Option.some.inj e; have := HPS.out; omega)).trans z3
          have ZR := Lib.hid zr
          have HDUP : Hid (mapP [] (ks.zip l) = none) := map_dup HO.out (by have := HN.out; omega) HL.out (by rw [show k - 1 + 1 = k by have := HZ.out; omega, HKX.out, hd])
          clear zr hd
          go_wp2_with fail
          go_quiet (fail)
          have zq : Bk P #[.int .i64 0, .int .i64 0, .string ⟨#[]⟩, .slice none 0 0, .slice none 0 0] 26 (wr.drewN nq) := ZR.out.drewN nq
          have u0 := zq.at 0 _ rfl
          have u1 := zq.at 1 _ rfl
          have u2 := zq.at 2 _ rfl
          have u3 := zq.at 3 _ rfl
          have u4 := zq.at 4 _ rfl
          have f0 := zq.frozen 0
          have f1 := zq.frozen 1
          have f2 := zq.frozen 2
          have f3 := zq.frozen 3
          have f4 := zq.frozen 4
          obtain ⟨bf, qf⟩ := store5 (k := 0) (n := 0) (s := ⟨#[]⟩) (s3 := .slice none 0 0) (s4 := .slice none 0 0) HPS.out.2.1 zq (QW.out.trans (Q.drewN _ _))
          obtain ⟨wf, hwf⟩ : ∃ wf, set5 (wr.drewN nq) P 0 (.int .i64 0) (.int .i64 0) (.string ⟨#[]⟩) (.slice none 0 0) (.slice none 0 0) = wf := ⟨_, rfl⟩
          rw [hwf] at bf qf
          unfold set5 at hwf
          simp only [Nat.zero_add] at hwf
          have r0 := bf.at 0 _ rfl
          have r1 := bf.at 1 _ rfl
          have r2 := bf.at 2 _ rfl
          have r3 := bf.at 3 _ rfl
          have r4 := bf.at 4 _ rfl
          have QFF := Lib.hid qf
          clear bf qf zq cpl cx y0 y1 y2 y3 y4 v0 v1 v2 v3 v4 cl
          go_wp2_with fail
          refine bodyPost_ret (by simp [results, Tryz.results27, go_sem, r0, r1, r2, r3, r4]; try rfl) rfl ?_
          refine ⟨QFF.out, ?_⟩
          rw [if_pos (by have := HN.out; omega), HDUP.out]
        · have hD : Hid (srt ((Kp ks p).take (k + 1))) := HS.out (fun j hj => by
            have := HZ.out
            rw [show j = k - 1 by omega, HL.out, HKX.out]
            intro e
            exact hd (Option.some.inj e))
          have e2 : (lx.toList == x.toList) = false := by
            rw [same_cT]
            exact decide_eq_false (fun e => hd ((tot_cT.zero _ _).1 e))
          clear hd
          go_wp2_with fail
          go_quiet (fail)
          have qq : Q wr (wr.drewN nq) := Q.drewN _ _
          obtain ⟨wq, hwq⟩ : ∃ wq, wr.drewN nq = wq := ⟨_, rfl⟩
          rw [hwq] at qq ⊢
          clear hwq
          have HMq : Hid (MS ks l p F S k (some ⟨g, 0, none⟩) cK AI cI w3 wq) := ⟨HM.out.tw.quiet qq, HM.out.bk.stays qq, HM.out.srt⟩
          have QQ := Lib.hid qq
          have a0 := cell_stays qq cx
          have a1 := cell_stays qq y0
          have a2 := cell_stays qq y1
          have a3 := cell_stays qq y2
          have a4 := cell_stays qq y3
          have a5 := cell_stays qq y4
          have a6 := cell_stays qq v3
          have a7 := cell_stays qq v4
          have a8 : (wq.alloc (.cells #[.string x] 9)).cell? ⟨S, 4, none⟩ = some (.slice (some ⟨g, 0, none⟩) k cK) := cell_stays (Q.box _ _) a7
          clear qq cpl cx y0 y1 y2 y3 y4 v0 v1 v2 v3 v4 g0
          have OW1 : Hid ((wq.drew.alloc (.cells #[.string x] 9)).ownsRow w3.heap.size 9 1 (.slice (some ⟨g, 0, none⟩) k cK) k (((Kp ks p).take k).map .string)) := Lib.hid (HMq.out.tw.quiet ((Q.drew wq).trans (Q.box wq.drew (.cells #[.string x] 9)))).own1
          have BAS : Hid (w3.heap.size ≤ (wq.drew.alloc (.cells #[.string x] 9)).heap.size) := Lib.hid (by have h1 := ((Q.drew wq).trans (Q.box wq.drew (.cells #[.string x] 9))).size; have h2 := HMq.out.tw.q.size; omega)
          have NEX : Hid (∀ g2 cap2 w4, w4.ownsRow w3.heap.size 9 1 (.slice (some ⟨g2, 0, none⟩) (k + 1) cap2) (k + 1) (((Kp ks p).take k).map .string ++ [.string x]) → (wq.drew.alloc (.cells #[.string x] 9)).grownBy w4 (Value.slice (some ⟨g, 0, none⟩) k cK).ownBlock → ((Value.slice (some ⟨g, 0, none⟩) k cK).ownBlock = some g2 ∨ g2 = (wq.drew.alloc (.cells #[.string x] 9)).heap.size) →
              w4.cell? ⟨b, o + pk, none⟩ = some (.string x) ∧ w4.cell? ⟨S, 4, none⟩ = some (.slice (some ⟨g, 0, none⟩) k cK) ∧ w4.frozen? ⟨S, 4, none⟩ = false ∧ (w4.setCell ⟨S, 4, none⟩ (.slice (some ⟨g2, 0, none⟩) (k + 1) cap2)).cell? ⟨b, o + pk, none⟩ = some (.string x) ∧
              (Tw S 9 1 (.slice (some ⟨g2, 0, none⟩) (k + 1) cap2) (k + 1) (((Kp ks p).take (k + 1)).map .string) 26 5 (.slice AI k cI) k (flat F l (p.take k)) w3 (w4.setCell ⟨S, 4, none⟩ (.slice (some ⟨g2, 0, none⟩) (k + 1) cap2)) ∧
               Bk S #[.int .i64 5, .int .i64 0, .string ⟨#[]⟩, .slice AI k cI, .slice (some ⟨g2, 0, none⟩) (k + 1) cap2] 26 (w4.setCell ⟨S, 4, none⟩ (.slice (some ⟨g2, 0, none⟩) (k + 1) cap2)))) := Lib.hid (fun g2 cap2 w4 O4 G4 hg4 => by
            have T0 := HMq.out.tw.quiet ((Q.drew wq).trans (Q.box wq.drew (.cells #[.string x] 9)))
            have B0 := HMq.out.bk.stays ((Q.drew wq).trans (Q.box wq.drew (.cells #[.string x] 9)))
            rw [← hxn.out] at O4
            have T4 := T0.push O4 G4 rfl hg4 rfl 4 (.slice (some ⟨g2, 0, none⟩) (k + 1) cap2)
            have B4 := T0.blk G4 B0
            have hbw : w.cell? ⟨b, o + pk, none⟩ = some (.string x) := CX.out
            have hlt2 : b < w.heap.size := cell_lt hbw
            have hwS : w.heap.size ≤ S := by have := HPS.out; omega
            have qT := T4.grown (QF.out.trans Q3.out) hwS
            have hc5 := cell_stays qT hbw
            refine ⟨?_, B4.at 4 _ rfl, B4.frozen 4, hc5, T4, B4.set 4 _⟩
            rw [← hc5]
            exact (World.cell?_of_block (Below.heap_setCell w4 ⟨S, 4, none⟩ _ b (by show b ≠ S; omega))).symm)
          clear HM
          go_wp2_with fail
          refine Go.wp_region_held_drew (S := fun w' => w'.cell? ⟨b, o + pk, none⟩ = some (.string x)) (by kernel_rfl) (a0) (fun hHeld => ?_)
          refine Go.wpAnyH_take (i := 0) (oi := _) (v := ?_) rfl (by kernel_rfl) (by kernel_rfl) (by kernel_rfl) (fun _ _ _ h => h) (Or.inl ⟨by rfl, ?_⟩) (by assumption) ?_
          rotate_left 1
          · intro wx hSw
            go_simp <;> with_reducible rfl
          simp only [Act.put, List.getElem_toArray, List.getElem_cons_zero, List.setIfInBounds_toArray, List.set_cons_zero, List.set_cons_succ]
          refine Go.wpAnyH_take (i := 2) (oi := _) (v := ?_) rfl (by kernel_rfl) (by kernel_rfl) (by kernel_rfl) (fun _ _ _ h => h) (Or.inl ⟨by rfl, ?_⟩) (by assumption) ?_
          rotate_left 1
          · intro wx hSw
            go_simp <;> with_reducible rfl
          simp only [Act.put, List.getElem_toArray, List.getElem_cons_zero, List.getElem_cons_succ, List.setIfInBounds_toArray, List.set_cons_zero, List.set_cons_succ]
          refine Go.wpAnyH_take (i := 3) (oi := _) (v := ?_) rfl (by kernel_rfl) (by kernel_rfl) (by kernel_rfl) (fun _ _ _ h => h) (Or.inl ⟨by rfl, ?_⟩) (by assumption) ?_
          rotate_left 1
          · intro wx hSw
            go_simp <;> with_reducible rfl
          simp only [Act.put, List.getElem_toArray, List.getElem_cons_zero, List.getElem_cons_succ, List.setIfInBounds_toArray, List.set_cons_zero, List.set_cons_succ]
          refine Go.wpAnyH_take (i := 4) (oi := _) (v := ?_) rfl (by kernel_rfl) (by kernel_rfl) (by kernel_rfl) (fun _ _ _ h => h) (Or.inl ⟨by rfl, ?_⟩) (by assumption) ?_
          rotate_left 1
          · intro wx hSw
            go_simp <;> with_reducible rfl
          simp only [Act.put, List.getElem_toArray, List.getElem_cons_zero, List.getElem_cons_succ, List.setIfInBounds_toArray, List.set_cons_zero, List.set_cons_succ]
          refine Go.wpAnyH_take (i := 5) (oi := _) (v := ?_) rfl (by kernel_rfl) (by kernel_rfl) (by kernel_rfl) (fun _ _ _ h => h) (Or.inl ⟨by rfl, ?_⟩) (by assumption) ?_
          rotate_left 1
          · intro wx hSw
            go_simp <;> with_reducible rfl
          simp only [Act.put, List.getElem_toArray, List.getElem_cons_zero, List.getElem_cons_succ, List.setIfInBounds_toArray, List.set_cons_zero, List.set_cons_succ]
          have cb : (wq.drew.alloc (.cells #[.string x] 9)).cell? ⟨b, o + pk, none⟩ = some (.string x) := cell_stays (Q.box _ _) a0
          refine Go.wpAnyH_ready (rs := [1, 6]) (by kernel_rfl) (by simp) ?_
          refine Go.AllReadyH.cons rfl (fun K hK => ?_) (Go.AllReadyH.cons rfl (fun K hK => ?_) Go.AllReadyH.nil)
          · rw [if_pos (by rfl)]
            go_simp
            refine hK.out _ _ (a0) (fun hHeld => ?_)
            clear hK K
            refine Go.wpAnyH_ready (rs := [6]) (by kernel_rfl) (by simp) ?_
            refine Go.AllReadyH.cons rfl (fun K hK => ?_) Go.AllReadyH.nil
            rw [if_pos (by rfl)]
            go_simp
            refine hK.out _ _ (cb) (fun hHeld => ?_)
            clear hK K
            refine Go.wpAnyH_ready (rs := [7]) (by kernel_rfl) (by simp) ?_
            refine Go.AllReadyH.cons rfl (fun K hK => ?_) Go.AllReadyH.nil
            refine step_str (by rfl) _ _ (by rfl) w3.heap.size (.slice (some ⟨g, 0, none⟩) k cK) k (((Kp ks p).take k).map .string) rfl OW1.out ⟨wq.drew.heap.size, 0, none⟩ rfl (.string x) (lit_one _ _ _) rfl (by omega) BAS.out _ rfl ?_
            intro g2 cap2 w4 O4 G4 hg4
            have N4 := Lib.hid (NEX.out g2 cap2 w4 O4 G4 hg4)
            have cb4 : w4.cell? ⟨b, o + pk, none⟩ = some (.string x) := N4.out.1
            refine hK.out _ _ (cb4) (fun hHeld => ?_)
            clear hK K O4 G4 hg4
            refine Go.wpAnyH_take (i := 8) (oi := _) (v := ?_) rfl (by kernel_rfl) (by kernel_rfl) (by kernel_rfl) (fun _ _ _ h => h) (Or.inl ⟨by rfl, ?_⟩) (by assumption) ?_
            rotate_left 1
            · intro wx hSw
              go_simp <;> with_reducible rfl
            simp only [Act.put, List.getElem_toArray, List.getElem_cons_zero, List.getElem_cons_succ, List.setIfInBounds_toArray, List.set_cons_zero, List.set_cons_succ]
            have s4 : w4.cell? ⟨S, 4, none⟩ = some (.slice (some ⟨g, 0, none⟩) k cK) := N4.out.2.1
            have t4 : w4.frozen? ⟨S, 4, none⟩ = false := N4.out.2.2.1
            refine Go.wpAnyH_ready (rs := [9]) (by kernel_rfl) (by simp) ?_
            refine Go.AllReadyH.cons rfl (fun K hK => ?_) Go.AllReadyH.nil
            rw [if_pos (by rfl)]
            go_simp
            refine hK.out _ _ (N4.out.2.2.2.1) (fun hHeld => ?_)
            clear hK K
            refine Go.wpAnyH_done (by kernel_rfl) ?_ _
            obtain ⟨w5, hw5⟩ : ∃ w5, w4.setCell ⟨S, 4, none⟩ (.slice (some ⟨g2, 0, none⟩) (k + 1) cap2) = w5 := ⟨_, rfl⟩
            have N5 := Lib.hid N4.out.2.2.2.2
            rw [hw5] at N5 ⊢
            clear hw5 N4 cb4 s4 t4 cb NEX BAS OW1 a6 a7 a8
            have NQ : Q w w5 := N5.out.1.grown (QF.out.trans Q3.out) (by have := HPS.out; omega)
            have e0 := cell_stays NQ CY.out.1
            have e1' := cell_stays NQ CY.out.2.1
            have e2' := cell_stays NQ CY.out.2.2.1
            have e3' := cell_stays NQ CY.out.2.2.2.1
            have e4' := cell_stays NQ CY.out.2.2.2.2
            have s3 := N5.out.2.at 3 _ rfl
            have cc : Hid ((fun w' : World => w'.cell? ⟨bi, oi + pk * 5, none⟩ = some (.int .i64 yk) ∧ w'.cell? ⟨bi, oi + pk * 5 + 1, none⟩ = some (.int .i64 yn) ∧ w'.cell? ⟨bi, oi + pk * 5 + 2, none⟩ = some (.string ys) ∧ w'.cell? ⟨bi, oi + pk * 5 + 3, none⟩ = some (.slice A5 n5 k5) ∧ w'.cell? ⟨bi, oi + pk * 5 + 4, none⟩ = some (.slice A6 n6 k6)) (w5.drew.alloc (.cells #[.int .i64 yk, .int .i64 yn, .string ys, .slice A5 n5 k5, .slice A6 n6 k6] 26))) := Lib.hid ⟨cell_stays (Q.box _ _) e0, cell_stays (Q.box _ _) e1', cell_stays (Q.box _ _) e2', cell_stays (Q.box _ _) e3', cell_stays (Q.box _ _) e4'⟩
            have s3' : (w5.drew.alloc (.cells #[.int .i64 yk, .int .i64 yn, .string ys, .slice A5 n5 k5, .slice A6 n6 k6] 26)).cell? ⟨S, 3, none⟩ = some (.slice AI k cI) := cell_stays (Q.box _ _) s3
            have s3q : (w5.alloc (.cells #[.int .i64 yk, .int .i64 yn, .string ys, .slice A5 n5 k5, .slice A6 n6 k6] 26)).cell? ⟨S, 3, none⟩ = some (.slice AI k cI) := cell_stays (Q.box _ _) s3
            have OW2 : Hid ((w5.drew.alloc (.cells #[.int .i64 yk, .int .i64 yn, .string ys, .slice A5 n5 k5, .slice A6 n6 k6] 26)).ownsRow w3.heap.size 26 5 (.slice AI k cI) k (flat F l (p.take k))) := Lib.hid (N5.out.1.quiet ((Q.drew w5).trans (Q.box w5.drew (.cells #[.int .i64 yk, .int .i64 yn, .string ys, .slice A5 n5 k5, .slice A6 n6 k6] 26)))).own2
            have BA2 : Hid (w3.heap.size ≤ (w5.drew.alloc (.cells #[.int .i64 yk, .int .i64 yn, .string ys, .slice A5 n5 k5, .slice A6 n6 k6] 26)).heap.size) := Lib.hid (by have h1 := ((Q.drew w5).trans (Q.box w5.drew (.cells #[.int .i64 yk, .int .i64 yn, .string ys, .slice A5 n5 k5, .slice A6 n6 k6] 26))).size; have h2 := N5.out.1.q.size; omega)
            have NX2 : Hid (∀ g6 cap6 w6, w6.ownsRow w3.heap.size 26 5 (.slice (some ⟨g6, 0, none⟩) (k + 1) cap6) (k + 1) (flat F l (p.take k) ++ (#[.int .i64 yk, .int .i64 yn, .string ys, .slice A5 n5 k5, .slice A6 n6 k6] : Array Value).toList) → (w5.drew.alloc (.cells #[.int .i64 yk, .int .i64 yn, .string ys, .slice A5 n5 k5, .slice A6 n6 k6] 26)).grownBy w6 (Value.slice AI k cI).ownBlock → ((Value.slice AI k cI).ownBlock = some g6 ∨ g6 = (w5.drew.alloc (.cells #[.int .i64 yk, .int .i64 yn, .string ys, .slice A5 n5 k5, .slice A6 n6 k6] 26)).heap.size) →
                (fun w' : World => w'.cell? ⟨bi, oi + pk * 5, none⟩ = some (.int .i64 yk) ∧ w'.cell? ⟨bi, oi + pk * 5 + 1, none⟩ = some (.int .i64 yn) ∧ w'.cell? ⟨bi, oi + pk * 5 + 2, none⟩ = some (.string ys) ∧ w'.cell? ⟨bi, oi + pk * 5 + 3, none⟩ = some (.slice A5 n5 k5) ∧ w'.cell? ⟨bi, oi + pk * 5 + 4, none⟩ = some (.slice A6 n6 k6)) w6 ∧ w6.cell? ⟨S, 3, none⟩ = some (.slice AI k cI) ∧ w6.frozen? ⟨S, 3, none⟩ = false ∧ (fun w' : World => w'.cell? ⟨bi, oi + pk * 5, none⟩ = some (.int .i64 yk) ∧ w'.cell? ⟨bi, oi + pk * 5 + 1, none⟩ = some (.int .i64 yn) ∧ w'.cell? ⟨bi, oi + pk * 5 + 2, none⟩ = some (.string ys) ∧ w'.cell? ⟨bi, oi + pk * 5 + 3, none⟩ = some (.slice A5 n5 k5) ∧ w'.cell? ⟨bi, oi + pk * 5 + 4, none⟩ = some (.slice A6 n6 k6)) (w6.setCell ⟨S, 3, none⟩ (.slice (some ⟨g6, 0, none⟩) (k + 1) cap6)) ∧
                MS ks l p F S (k + 1) (some ⟨g2, 0, none⟩) cap2 (some ⟨g6, 0, none⟩) cap6 w3 (w6.setCell ⟨S, 3, none⟩ (.slice (some ⟨g6, 0, none⟩) (k + 1) cap6))) := Lib.hid (fun g6 cap6 w6 O6 G6 hg6 => by
              have T0 := (N5.out.1.quiet ((Q.drew w5).trans (Q.box w5.drew (.cells #[.int .i64 yk, .int .i64 yn, .string ys, .slice A5 n5 k5, .slice A6 n6 k6] 26)))).swap
              have B0 := Bk.stays N5.out.2 ((Q.drew w5).trans (Q.box w5.drew (.cells #[.int .i64 yk, .int .i64 yn, .string ys, .slice A5 n5 k5, .slice A6 n6 k6] 26)))
              rw [← hyn2.out] at O6
              have T6 := T0.push O6 G6 rfl hg6 rfl 3 (.slice (some ⟨g6, 0, none⟩) (k + 1) cap6)
              have B6 := T0.blk G6 B0
              have hwS : w.heap.size ≤ S := by have := HPS.out; omega
              have qT := T6.grown (QF.out.trans Q3.out) hwS
              have hlt2 : bi < w.heap.size := cell_lt CY.out.1
              have hb : ∀ a : Addr, a.block = bi → w6.cell? a = (w6.setCell ⟨S, 3, none⟩ (.slice (some ⟨g6, 0, none⟩) (k + 1) cap6)).cell? a := fun a ha => (World.cell?_of_block (Below.heap_setCell w6 ⟨S, 3, none⟩ _ a.block (by show a.block ≠ S; omega))).symm
              have z0 := cell_stays qT CY.out.1
              have z1 := cell_stays qT CY.out.2.1
              have z2 := cell_stays qT CY.out.2.2.1
              have z3 := cell_stays qT CY.out.2.2.2.1
              have z4 := cell_stays qT CY.out.2.2.2.2
              exact ⟨⟨(hb _ rfl).trans z0, (hb _ rfl).trans z1, (hb _ rfl).trans z2, (hb _ rfl).trans z3, (hb _ rfl).trans z4⟩, B6.at 3 _ rfl, B6.frozen 3, ⟨z0, z1, z2, z3, z4⟩, ⟨T6.swap, B6.set 3 _, hD.out⟩⟩)
            clear a0 a1 a2 a3 a4 a5 NQ
            go_wp2_with fail
            refine Go.wp_region_held_drew (S := fun w' => w'.cell? ⟨bi, oi + pk * 5, none⟩ = some (.int .i64 yk) ∧ w'.cell? ⟨bi, oi + pk * 5 + 1, none⟩ = some (.int .i64 yn) ∧ w'.cell? ⟨bi, oi + pk * 5 + 2, none⟩ = some (.string ys) ∧ w'.cell? ⟨bi, oi + pk * 5 + 3, none⟩ = some (.slice A5 n5 k5) ∧ w'.cell? ⟨bi, oi + pk * 5 + 4, none⟩ = some (.slice A6 n6 k6)) (by kernel_rfl) (⟨e0, e1', e2', e3', e4'⟩) (fun hHeld => ?_)
            refine Go.wpAnyH_take (i := 0) (oi := _) (v := ?_) rfl (by kernel_rfl) (by kernel_rfl) (by kernel_rfl) (fun _ _ _ h => h) (Or.inl ⟨by rfl, ?_⟩) (by assumption) ?_
            rotate_left 1
            · intro wx hSw
              go_simp <;> with_reducible rfl
            simp only [Act.put, List.getElem_toArray, List.getElem_cons_zero, List.setIfInBounds_toArray, List.set_cons_zero, List.set_cons_succ]
            refine Go.wpAnyH_take (i := 2) (oi := _) (v := ?_) rfl (by kernel_rfl) (by kernel_rfl) (by kernel_rfl) (fun _ _ _ h => h) (Or.inl ⟨by rfl, ?_⟩) (by assumption) ?_
            rotate_left 1
            · intro wx hSw
              go_simp <;> with_reducible rfl
            simp only [Act.put, List.getElem_toArray, List.getElem_cons_zero, List.getElem_cons_succ, List.setIfInBounds_toArray, List.set_cons_zero, List.set_cons_succ]
            refine Go.wpAnyH_take (i := 3) (oi := _) (v := ?_) rfl (by kernel_rfl) (by kernel_rfl) (by kernel_rfl) (fun _ _ _ h => h) (Or.inl ⟨by rfl, ?_⟩) (by assumption) ?_
            rotate_left 1
            · intro wx hSw
              go_simp <;> with_reducible rfl
            simp only [Act.put, List.getElem_toArray, List.getElem_cons_zero, List.getElem_cons_succ, List.setIfInBounds_toArray, List.set_cons_zero, List.set_cons_succ]
            refine Go.wpAnyH_take (i := 4) (oi := _) (v := ?_) rfl (by kernel_rfl) (by kernel_rfl) (by kernel_rfl) (fun _ _ _ h => h) (Or.inl ⟨by rfl, ?_⟩) (by assumption) ?_
            rotate_left 1
            · intro wx hSw
              go_simp <;> with_reducible rfl
            simp only [Act.put, List.getElem_toArray, List.getElem_cons_zero, List.getElem_cons_succ, List.setIfInBounds_toArray, List.set_cons_zero, List.set_cons_succ]
            refine Go.wpAnyH_take (i := 5) (oi := _) (v := ?_) rfl (by kernel_rfl) (by kernel_rfl) (by kernel_rfl) (fun _ _ _ h => h) (Or.inl ⟨by rfl, ?_⟩) (by assumption) ?_
            rotate_left 1
            · intro wx hSw
              go_simp <;> with_reducible rfl
            simp only [Act.put, List.getElem_toArray, List.getElem_cons_zero, List.getElem_cons_succ, List.setIfInBounds_toArray, List.set_cons_zero, List.set_cons_succ]
            refine Go.wpAnyH_ready (rs := [1, 6]) (by kernel_rfl) (by simp) ?_
            refine Go.AllReadyH.cons rfl (fun K hK => ?_) (Go.AllReadyH.cons rfl (fun K hK => ?_) Go.AllReadyH.nil)
            · rw [if_pos (by rfl)]
              go_simp
              refine hK.out _ _ (⟨e0, e1', e2', e3', e4'⟩) (fun hHeld => ?_)
              clear hK K
              refine Go.wpAnyH_ready (rs := [6]) (by kernel_rfl) (by simp) ?_
              refine Go.AllReadyH.cons rfl (fun K hK => ?_) Go.AllReadyH.nil
              rw [if_pos (by rfl)]
              go_simp
              refine hK.out _ _ (cc.out) (fun hHeld => ?_)
              clear hK K
              refine Go.wpAnyH_ready (rs := [7]) (by kernel_rfl) (by simp) ?_
              refine Go.AllReadyH.cons rfl (fun K hK => ?_) Go.AllReadyH.nil
              refine step_val (by rfl) _ _ (by rfl) w3.heap.size (.slice AI k cI) k (flat F l (p.take k)) rfl OW2.out w5.drew.heap.size rfl #[.int .i64 yk, .int .i64 yn, .string ys, .slice A5 n5 k5, .slice A6 n6 k6] rfl (heap_alloc_new _ _) (five_one _ _ _ _ _ _ _ _ _) (by omega) BA2.out _ rfl ?_
              intro g6 cap6 w6 O6 G6 hg6
              have N6 := Lib.hid (NX2.out g6 cap6 w6 O6 G6 hg6)
              refine hK.out _ _ (N6.out.1) (fun hHeld => ?_)
              clear hK K O6 G6 hg6
              refine Go.wpAnyH_take (i := 8) (oi := _) (v := ?_) rfl (by kernel_rfl) (by kernel_rfl) (by kernel_rfl) (fun _ _ _ h => h) (Or.inl ⟨by rfl, ?_⟩) (by assumption) ?_
              rotate_left 1
              · intro wx hSw
                go_simp <;> with_reducible rfl
              simp only [Act.put, List.getElem_toArray, List.getElem_cons_zero, List.getElem_cons_succ, List.setIfInBounds_toArray, List.set_cons_zero, List.set_cons_succ]
              have s6 : w6.cell? ⟨S, 3, none⟩ = some (.slice AI k cI) := N6.out.2.1
              have t6 : w6.frozen? ⟨S, 3, none⟩ = false := N6.out.2.2.1
              refine Go.wpAnyH_ready (rs := [9]) (by kernel_rfl) (by simp) ?_
              refine Go.AllReadyH.cons rfl (fun K hK => ?_) Go.AllReadyH.nil
              rw [if_pos (by rfl)]
              go_simp
              refine hK.out _ _ (N6.out.2.2.2.1) (fun hHeld => ?_)
              clear hK K
              refine Go.wpAnyH_done (by kernel_rfl) ?_ _
              have N7 := Lib.hid N6.out.2.2.2.2
              clear N6 s6 t6 N5 NX2 BA2 OW2 e0 e1' e2' e3' e4' HMq
              go_wp2_with fail
              go_roundw
              case rel => exact ⟨k + 1, some ⟨g2, 0, none⟩, cap2, some ⟨g6, 0, none⟩, cap6, by omega, by go_num, N7⟩
              case measure => simp [intOf]; omega
            · rw [if_pos (by rfl)]
              go_simp
              refine hK.out _ _ (cc.out) (fun hHeld => ?_)
              clear hK K
              refine Go.wpAnyH_ready (rs := [1]) (by kernel_rfl) (by simp) ?_
              refine Go.AllReadyH.cons rfl (fun K hK => ?_) Go.AllReadyH.nil
              rw [if_pos (by rfl)]
              go_simp
              refine hK.out _ _ (cc.out) (fun hHeld => ?_)
              clear hK K
              refine Go.wpAnyH_ready (rs := [7]) (by kernel_rfl) (by simp) ?_
              refine Go.AllReadyH.cons rfl (fun K hK => ?_) Go.AllReadyH.nil
              refine step_val (by rfl) _ _ (by rfl) w3.heap.size (.slice AI k cI) k (flat F l (p.take k)) rfl OW2.out w5.drew.heap.size rfl #[.int .i64 yk, .int .i64 yn, .string ys, .slice A5 n5 k5, .slice A6 n6 k6] rfl (heap_alloc_new _ _) (five_one _ _ _ _ _ _ _ _ _) (by omega) BA2.out _ rfl ?_
              intro g6 cap6 w6 O6 G6 hg6
              have N6 := Lib.hid (NX2.out g6 cap6 w6 O6 G6 hg6)
              refine hK.out _ _ (N6.out.1) (fun hHeld => ?_)
              clear hK K O6 G6 hg6
              refine Go.wpAnyH_take (i := 8) (oi := _) (v := ?_) rfl (by kernel_rfl) (by kernel_rfl) (by kernel_rfl) (fun _ _ _ h => h) (Or.inl ⟨by rfl, ?_⟩) (by assumption) ?_
              rotate_left 1
              · intro wx hSw
                go_simp <;> with_reducible rfl
              simp only [Act.put, List.getElem_toArray, List.getElem_cons_zero, List.getElem_cons_succ, List.setIfInBounds_toArray, List.set_cons_zero, List.set_cons_succ]
              have s6 : w6.cell? ⟨S, 3, none⟩ = some (.slice AI k cI) := N6.out.2.1
              have t6 : w6.frozen? ⟨S, 3, none⟩ = false := N6.out.2.2.1
              refine Go.wpAnyH_ready (rs := [9]) (by kernel_rfl) (by simp) ?_
              refine Go.AllReadyH.cons rfl (fun K hK => ?_) Go.AllReadyH.nil
              rw [if_pos (by rfl)]
              go_simp
              refine hK.out _ _ (N6.out.2.2.2.1) (fun hHeld => ?_)
              clear hK K
              refine Go.wpAnyH_done (by kernel_rfl) ?_ _
              have N7 := Lib.hid N6.out.2.2.2.2
              clear N6 s6 t6 N5 NX2 BA2 OW2 e0 e1' e2' e3' e4' HMq
              go_wp2_with fail
              go_roundw
              case rel => exact ⟨k + 1, some ⟨g2, 0, none⟩, cap2, some ⟨g6, 0, none⟩, cap6, by omega, by go_num, N7⟩
              case measure => simp [intOf]; omega
          · rw [if_pos (by rfl)]
            go_simp
            refine hK.out _ _ (cb) (fun hHeld => ?_)
            clear hK K
            refine Go.wpAnyH_ready (rs := [1]) (by kernel_rfl) (by simp) ?_
            refine Go.AllReadyH.cons rfl (fun K hK => ?_) Go.AllReadyH.nil
            rw [if_pos (by rfl)]
            go_simp
            refine hK.out _ _ (cb) (fun hHeld => ?_)
            clear hK K
            refine Go.wpAnyH_ready (rs := [7]) (by kernel_rfl) (by simp) ?_
            refine Go.AllReadyH.cons rfl (fun K hK => ?_) Go.AllReadyH.nil
            refine step_str (by rfl) _ _ (by rfl) w3.heap.size (.slice (some ⟨g, 0, none⟩) k cK) k (((Kp ks p).take k).map .string) rfl OW1.out ⟨wq.drew.heap.size, 0, none⟩ rfl (.string x) (lit_one _ _ _) rfl (by omega) BAS.out _ rfl ?_
            intro g2 cap2 w4 O4 G4 hg4
            have N4 := Lib.hid (NEX.out g2 cap2 w4 O4 G4 hg4)
            have cb4 : w4.cell? ⟨b, o + pk, none⟩ = some (.string x) := N4.out.1
            refine hK.out _ _ (cb4) (fun hHeld => ?_)
            clear hK K O4 G4 hg4
            refine Go.wpAnyH_take (i := 8) (oi := _) (v := ?_) rfl (by kernel_rfl) (by kernel_rfl) (by kernel_rfl) (fun _ _ _ h => h) (Or.inl ⟨by rfl, ?_⟩) (by assumption) ?_
            rotate_left 1
            · intro wx hSw
              go_simp <;> with_reducible rfl
            simp only [Act.put, List.getElem_toArray, List.getElem_cons_zero, List.getElem_cons_succ, List.setIfInBounds_toArray, List.set_cons_zero, List.set_cons_succ]
            have s4 : w4.cell? ⟨S, 4, none⟩ = some (.slice (some ⟨g, 0, none⟩) k cK) := N4.out.2.1
            have t4 : w4.frozen? ⟨S, 4, none⟩ = false := N4.out.2.2.1
            refine Go.wpAnyH_ready (rs := [9]) (by kernel_rfl) (by simp) ?_
            refine Go.AllReadyH.cons rfl (fun K hK => ?_) Go.AllReadyH.nil
            rw [if_pos (by rfl)]
            go_simp
            refine hK.out _ _ (N4.out.2.2.2.1) (fun hHeld => ?_)
            clear hK K
            refine Go.wpAnyH_done (by kernel_rfl) ?_ _
            obtain ⟨w5, hw5⟩ : ∃ w5, w4.setCell ⟨S, 4, none⟩ (.slice (some ⟨g2, 0, none⟩) (k + 1) cap2) = w5 := ⟨_, rfl⟩
            have N5 := Lib.hid N4.out.2.2.2.2
            rw [hw5] at N5 ⊢
            clear hw5 N4 cb4 s4 t4 cb NEX BAS OW1 a6 a7 a8
            have NQ : Q w w5 := N5.out.1.grown (QF.out.trans Q3.out) (by have := HPS.out; omega)
            have e0 := cell_stays NQ CY.out.1
            have e1' := cell_stays NQ CY.out.2.1
            have e2' := cell_stays NQ CY.out.2.2.1
            have e3' := cell_stays NQ CY.out.2.2.2.1
            have e4' := cell_stays NQ CY.out.2.2.2.2
            have s3 := N5.out.2.at 3 _ rfl
            have cc : Hid ((fun w' : World => w'.cell? ⟨bi, oi + pk * 5, none⟩ = some (.int .i64 yk) ∧ w'.cell? ⟨bi, oi + pk * 5 + 1, none⟩ = some (.int .i64 yn) ∧ w'.cell? ⟨bi, oi + pk * 5 + 2, none⟩ = some (.string ys) ∧ w'.cell? ⟨bi, oi + pk * 5 + 3, none⟩ = some (.slice A5 n5 k5) ∧ w'.cell? ⟨bi, oi + pk * 5 + 4, none⟩ = some (.slice A6 n6 k6)) (w5.drew.alloc (.cells #[.int .i64 yk, .int .i64 yn, .string ys, .slice A5 n5 k5, .slice A6 n6 k6] 26))) := Lib.hid ⟨cell_stays (Q.box _ _) e0, cell_stays (Q.box _ _) e1', cell_stays (Q.box _ _) e2', cell_stays (Q.box _ _) e3', cell_stays (Q.box _ _) e4'⟩
            have s3' : (w5.drew.alloc (.cells #[.int .i64 yk, .int .i64 yn, .string ys, .slice A5 n5 k5, .slice A6 n6 k6] 26)).cell? ⟨S, 3, none⟩ = some (.slice AI k cI) := cell_stays (Q.box _ _) s3
            have s3q : (w5.alloc (.cells #[.int .i64 yk, .int .i64 yn, .string ys, .slice A5 n5 k5, .slice A6 n6 k6] 26)).cell? ⟨S, 3, none⟩ = some (.slice AI k cI) := cell_stays (Q.box _ _) s3
            have OW2 : Hid ((w5.drew.alloc (.cells #[.int .i64 yk, .int .i64 yn, .string ys, .slice A5 n5 k5, .slice A6 n6 k6] 26)).ownsRow w3.heap.size 26 5 (.slice AI k cI) k (flat F l (p.take k))) := Lib.hid (N5.out.1.quiet ((Q.drew w5).trans (Q.box w5.drew (.cells #[.int .i64 yk, .int .i64 yn, .string ys, .slice A5 n5 k5, .slice A6 n6 k6] 26)))).own2
            have BA2 : Hid (w3.heap.size ≤ (w5.drew.alloc (.cells #[.int .i64 yk, .int .i64 yn, .string ys, .slice A5 n5 k5, .slice A6 n6 k6] 26)).heap.size) := Lib.hid (by have h1 := ((Q.drew w5).trans (Q.box w5.drew (.cells #[.int .i64 yk, .int .i64 yn, .string ys, .slice A5 n5 k5, .slice A6 n6 k6] 26))).size; have h2 := N5.out.1.q.size; omega)
            have NX2 : Hid (∀ g6 cap6 w6, w6.ownsRow w3.heap.size 26 5 (.slice (some ⟨g6, 0, none⟩) (k + 1) cap6) (k + 1) (flat F l (p.take k) ++ (#[.int .i64 yk, .int .i64 yn, .string ys, .slice A5 n5 k5, .slice A6 n6 k6] : Array Value).toList) → (w5.drew.alloc (.cells #[.int .i64 yk, .int .i64 yn, .string ys, .slice A5 n5 k5, .slice A6 n6 k6] 26)).grownBy w6 (Value.slice AI k cI).ownBlock → ((Value.slice AI k cI).ownBlock = some g6 ∨ g6 = (w5.drew.alloc (.cells #[.int .i64 yk, .int .i64 yn, .string ys, .slice A5 n5 k5, .slice A6 n6 k6] 26)).heap.size) →
                (fun w' : World => w'.cell? ⟨bi, oi + pk * 5, none⟩ = some (.int .i64 yk) ∧ w'.cell? ⟨bi, oi + pk * 5 + 1, none⟩ = some (.int .i64 yn) ∧ w'.cell? ⟨bi, oi + pk * 5 + 2, none⟩ = some (.string ys) ∧ w'.cell? ⟨bi, oi + pk * 5 + 3, none⟩ = some (.slice A5 n5 k5) ∧ w'.cell? ⟨bi, oi + pk * 5 + 4, none⟩ = some (.slice A6 n6 k6)) w6 ∧ w6.cell? ⟨S, 3, none⟩ = some (.slice AI k cI) ∧ w6.frozen? ⟨S, 3, none⟩ = false ∧ (fun w' : World => w'.cell? ⟨bi, oi + pk * 5, none⟩ = some (.int .i64 yk) ∧ w'.cell? ⟨bi, oi + pk * 5 + 1, none⟩ = some (.int .i64 yn) ∧ w'.cell? ⟨bi, oi + pk * 5 + 2, none⟩ = some (.string ys) ∧ w'.cell? ⟨bi, oi + pk * 5 + 3, none⟩ = some (.slice A5 n5 k5) ∧ w'.cell? ⟨bi, oi + pk * 5 + 4, none⟩ = some (.slice A6 n6 k6)) (w6.setCell ⟨S, 3, none⟩ (.slice (some ⟨g6, 0, none⟩) (k + 1) cap6)) ∧
                MS ks l p F S (k + 1) (some ⟨g2, 0, none⟩) cap2 (some ⟨g6, 0, none⟩) cap6 w3 (w6.setCell ⟨S, 3, none⟩ (.slice (some ⟨g6, 0, none⟩) (k + 1) cap6))) := Lib.hid (fun g6 cap6 w6 O6 G6 hg6 => by
              have T0 := (N5.out.1.quiet ((Q.drew w5).trans (Q.box w5.drew (.cells #[.int .i64 yk, .int .i64 yn, .string ys, .slice A5 n5 k5, .slice A6 n6 k6] 26)))).swap
              have B0 := Bk.stays N5.out.2 ((Q.drew w5).trans (Q.box w5.drew (.cells #[.int .i64 yk, .int .i64 yn, .string ys, .slice A5 n5 k5, .slice A6 n6 k6] 26)))
              rw [← hyn2.out] at O6
              have T6 := T0.push O6 G6 rfl hg6 rfl 3 (.slice (some ⟨g6, 0, none⟩) (k + 1) cap6)
              have B6 := T0.blk G6 B0
              have hwS : w.heap.size ≤ S := by have := HPS.out; omega
              have qT := T6.grown (QF.out.trans Q3.out) hwS
              have hlt2 : bi < w.heap.size := cell_lt CY.out.1
              have hb : ∀ a : Addr, a.block = bi → w6.cell? a = (w6.setCell ⟨S, 3, none⟩ (.slice (some ⟨g6, 0, none⟩) (k + 1) cap6)).cell? a := fun a ha => (World.cell?_of_block (Below.heap_setCell w6 ⟨S, 3, none⟩ _ a.block (by show a.block ≠ S; omega))).symm
              have z0 := cell_stays qT CY.out.1
              have z1 := cell_stays qT CY.out.2.1
              have z2 := cell_stays qT CY.out.2.2.1
              have z3 := cell_stays qT CY.out.2.2.2.1
              have z4 := cell_stays qT CY.out.2.2.2.2
              exact ⟨⟨(hb _ rfl).trans z0, (hb _ rfl).trans z1, (hb _ rfl).trans z2, (hb _ rfl).trans z3, (hb _ rfl).trans z4⟩, B6.at 3 _ rfl, B6.frozen 3, ⟨z0, z1, z2, z3, z4⟩, ⟨T6.swap, B6.set 3 _, hD.out⟩⟩)
            clear a0 a1 a2 a3 a4 a5 NQ
            go_wp2_with fail
            refine Go.wp_region_held_drew (S := fun w' => w'.cell? ⟨bi, oi + pk * 5, none⟩ = some (.int .i64 yk) ∧ w'.cell? ⟨bi, oi + pk * 5 + 1, none⟩ = some (.int .i64 yn) ∧ w'.cell? ⟨bi, oi + pk * 5 + 2, none⟩ = some (.string ys) ∧ w'.cell? ⟨bi, oi + pk * 5 + 3, none⟩ = some (.slice A5 n5 k5) ∧ w'.cell? ⟨bi, oi + pk * 5 + 4, none⟩ = some (.slice A6 n6 k6)) (by kernel_rfl) (⟨e0, e1', e2', e3', e4'⟩) (fun hHeld => ?_)
            refine Go.wpAnyH_take (i := 0) (oi := _) (v := ?_) rfl (by kernel_rfl) (by kernel_rfl) (by kernel_rfl) (fun _ _ _ h => h) (Or.inl ⟨by rfl, ?_⟩) (by assumption) ?_
            rotate_left 1
            · intro wx hSw
              go_simp <;> with_reducible rfl
            simp only [Act.put, List.getElem_toArray, List.getElem_cons_zero, List.setIfInBounds_toArray, List.set_cons_zero, List.set_cons_succ]
            refine Go.wpAnyH_take (i := 2) (oi := _) (v := ?_) rfl (by kernel_rfl) (by kernel_rfl) (by kernel_rfl) (fun _ _ _ h => h) (Or.inl ⟨by rfl, ?_⟩) (by assumption) ?_
            rotate_left 1
            · intro wx hSw
              go_simp <;> with_reducible rfl
            simp only [Act.put, List.getElem_toArray, List.getElem_cons_zero, List.getElem_cons_succ, List.setIfInBounds_toArray, List.set_cons_zero, List.set_cons_succ]
            refine Go.wpAnyH_take (i := 3) (oi := _) (v := ?_) rfl (by kernel_rfl) (by kernel_rfl) (by kernel_rfl) (fun _ _ _ h => h) (Or.inl ⟨by rfl, ?_⟩) (by assumption) ?_
            rotate_left 1
            · intro wx hSw
              go_simp <;> with_reducible rfl
            simp only [Act.put, List.getElem_toArray, List.getElem_cons_zero, List.getElem_cons_succ, List.setIfInBounds_toArray, List.set_cons_zero, List.set_cons_succ]
            refine Go.wpAnyH_take (i := 4) (oi := _) (v := ?_) rfl (by kernel_rfl) (by kernel_rfl) (by kernel_rfl) (fun _ _ _ h => h) (Or.inl ⟨by rfl, ?_⟩) (by assumption) ?_
            rotate_left 1
            · intro wx hSw
              go_simp <;> with_reducible rfl
            simp only [Act.put, List.getElem_toArray, List.getElem_cons_zero, List.getElem_cons_succ, List.setIfInBounds_toArray, List.set_cons_zero, List.set_cons_succ]
            refine Go.wpAnyH_take (i := 5) (oi := _) (v := ?_) rfl (by kernel_rfl) (by kernel_rfl) (by kernel_rfl) (fun _ _ _ h => h) (Or.inl ⟨by rfl, ?_⟩) (by assumption) ?_
            rotate_left 1
            · intro wx hSw
              go_simp <;> with_reducible rfl
            simp only [Act.put, List.getElem_toArray, List.getElem_cons_zero, List.getElem_cons_succ, List.setIfInBounds_toArray, List.set_cons_zero, List.set_cons_succ]
            refine Go.wpAnyH_ready (rs := [1, 6]) (by kernel_rfl) (by simp) ?_
            refine Go.AllReadyH.cons rfl (fun K hK => ?_) (Go.AllReadyH.cons rfl (fun K hK => ?_) Go.AllReadyH.nil)
            · rw [if_pos (by rfl)]
              go_simp
              refine hK.out _ _ (⟨e0, e1', e2', e3', e4'⟩) (fun hHeld => ?_)
              clear hK K
              refine Go.wpAnyH_ready (rs := [6]) (by kernel_rfl) (by simp) ?_
              refine Go.AllReadyH.cons rfl (fun K hK => ?_) Go.AllReadyH.nil
              rw [if_pos (by rfl)]
              go_simp
              refine hK.out _ _ (cc.out) (fun hHeld => ?_)
              clear hK K
              refine Go.wpAnyH_ready (rs := [7]) (by kernel_rfl) (by simp) ?_
              refine Go.AllReadyH.cons rfl (fun K hK => ?_) Go.AllReadyH.nil
              refine step_val (by rfl) _ _ (by rfl) w3.heap.size (.slice AI k cI) k (flat F l (p.take k)) rfl OW2.out w5.drew.heap.size rfl #[.int .i64 yk, .int .i64 yn, .string ys, .slice A5 n5 k5, .slice A6 n6 k6] rfl (heap_alloc_new _ _) (five_one _ _ _ _ _ _ _ _ _) (by omega) BA2.out _ rfl ?_
              intro g6 cap6 w6 O6 G6 hg6
              have N6 := Lib.hid (NX2.out g6 cap6 w6 O6 G6 hg6)
              refine hK.out _ _ (N6.out.1) (fun hHeld => ?_)
              clear hK K O6 G6 hg6
              refine Go.wpAnyH_take (i := 8) (oi := _) (v := ?_) rfl (by kernel_rfl) (by kernel_rfl) (by kernel_rfl) (fun _ _ _ h => h) (Or.inl ⟨by rfl, ?_⟩) (by assumption) ?_
              rotate_left 1
              · intro wx hSw
                go_simp <;> with_reducible rfl
              simp only [Act.put, List.getElem_toArray, List.getElem_cons_zero, List.getElem_cons_succ, List.setIfInBounds_toArray, List.set_cons_zero, List.set_cons_succ]
              have s6 : w6.cell? ⟨S, 3, none⟩ = some (.slice AI k cI) := N6.out.2.1
              have t6 : w6.frozen? ⟨S, 3, none⟩ = false := N6.out.2.2.1
              refine Go.wpAnyH_ready (rs := [9]) (by kernel_rfl) (by simp) ?_
              refine Go.AllReadyH.cons rfl (fun K hK => ?_) Go.AllReadyH.nil
              rw [if_pos (by rfl)]
              go_simp
              refine hK.out _ _ (N6.out.2.2.2.1) (fun hHeld => ?_)
              clear hK K
              refine Go.wpAnyH_done (by kernel_rfl) ?_ _
              have N7 := Lib.hid N6.out.2.2.2.2
              clear N6 s6 t6 N5 NX2 BA2 OW2 e0 e1' e2' e3' e4' HMq
              go_wp2_with fail
              go_roundw
              case rel => exact ⟨k + 1, some ⟨g2, 0, none⟩, cap2, some ⟨g6, 0, none⟩, cap6, by omega, by go_num, N7⟩
              case measure => simp [intOf]; omega
            · rw [if_pos (by rfl)]
              go_simp
              refine hK.out _ _ (cc.out) (fun hHeld => ?_)
              clear hK K
              refine Go.wpAnyH_ready (rs := [1]) (by kernel_rfl) (by simp) ?_
              refine Go.AllReadyH.cons rfl (fun K hK => ?_) Go.AllReadyH.nil
              rw [if_pos (by rfl)]
              go_simp
              refine hK.out _ _ (cc.out) (fun hHeld => ?_)
              clear hK K
              refine Go.wpAnyH_ready (rs := [7]) (by kernel_rfl) (by simp) ?_
              refine Go.AllReadyH.cons rfl (fun K hK => ?_) Go.AllReadyH.nil
              refine step_val (by rfl) _ _ (by rfl) w3.heap.size (.slice AI k cI) k (flat F l (p.take k)) rfl OW2.out w5.drew.heap.size rfl #[.int .i64 yk, .int .i64 yn, .string ys, .slice A5 n5 k5, .slice A6 n6 k6] rfl (heap_alloc_new _ _) (five_one _ _ _ _ _ _ _ _ _) (by omega) BA2.out _ rfl ?_
              intro g6 cap6 w6 O6 G6 hg6
              have N6 := Lib.hid (NX2.out g6 cap6 w6 O6 G6 hg6)
              refine hK.out _ _ (N6.out.1) (fun hHeld => ?_)
              clear hK K O6 G6 hg6
              refine Go.wpAnyH_take (i := 8) (oi := _) (v := ?_) rfl (by kernel_rfl) (by kernel_rfl) (by kernel_rfl) (fun _ _ _ h => h) (Or.inl ⟨by rfl, ?_⟩) (by assumption) ?_
              rotate_left 1
              · intro wx hSw
                go_simp <;> with_reducible rfl
              simp only [Act.put, List.getElem_toArray, List.getElem_cons_zero, List.getElem_cons_succ, List.setIfInBounds_toArray, List.set_cons_zero, List.set_cons_succ]
              have s6 : w6.cell? ⟨S, 3, none⟩ = some (.slice AI k cI) := N6.out.2.1
              have t6 : w6.frozen? ⟨S, 3, none⟩ = false := N6.out.2.2.1
              refine Go.wpAnyH_ready (rs := [9]) (by kernel_rfl) (by simp) ?_
              refine Go.AllReadyH.cons rfl (fun K hK => ?_) Go.AllReadyH.nil
              rw [if_pos (by rfl)]
              go_simp
              refine hK.out _ _ (N6.out.2.2.2.1) (fun hHeld => ?_)
              clear hK K
              refine Go.wpAnyH_done (by kernel_rfl) ?_ _
              have N7 := Lib.hid N6.out.2.2.2.2
              clear N6 s6 t6 N5 NX2 BA2 OW2 e0 e1' e2' e3' e4' HMq
              go_wp2_with fail
              go_roundw
              case rel => exact ⟨k + 1, some ⟨g2, 0, none⟩, cap2, some ⟨g6, 0, none⟩, cap6, by omega, by go_num, N7⟩
              case measure => simp [intOf]; omega
    · have e : k = n := by omega
      have hkp : k = p.length := by rw [HO.out.len]; have := HN.out; omega
      have hwS : w.heap.size ≤ S := by have := HPS.out; omega
      have qw3 : Q w w3 := QF.out.trans Q3.out
      have qwr : Q w wr := HM.out.tw.grown qw3 hwS
      have hl2 : ks.length = l.length := by have := HN.out; omega
      have hltp : ∀ i ∈ p, i < l.length := fun i hi => by have := HO.out.lt hi; omega
      have hsrt : srt (Kp ks p) := by
        have h := HM.out.srt
        rw [List.take_of_length_le (by rw [Kp_len]; omega)] at h
        exact h
      have hmapd : Hid (mapP [] (ks.zip l) = some ((Kp ks p).zip (Lp l p))) := map_sorted HO.out hl2 hsrt
      have hW := map_wi HM.out hkp (fun i hi => by
        by_cases h0 : l = []
        · rw [h0] at hi
          exact absurd hi (Nat.not_lt_zero _)
        · obtain ⟨A', c', e, hc, g⟩ := HI.out
          simp only [Value.slice.injEq] at e
          obtain ⟨rfl, -, rfl⟩ := e
          obtain ⟨b, o, e, -⟩ := g h0
          exact ⟨b, o + i * 5, HF.out i hi b o e⟩) hltp qwr
      have hperm := Lp_perm HO.out hl2
      have hfit : Fit ⟨5, 0, ⟨#[]⟩, Lp l p, Kp ks p⟩ := by
        refine (Fit_iff _).2 ⟨by show 0 ≤ _; omega, fun x hx => HFIT.out.2 x ((Kp_perm HO.out).mem_iff.1 hx), ?_, ?_, ?_⟩
        · show (Lp l p).length ≤ _
          rw [Lp_len]
          have := HN.out
          omega
        · show (Kp ks p).length ≤ _
          rw [Kp_len]
          have := HN.out
          omega
        · exact (FitL_mem _).2 (fun x hx => (FitL_mem _).1 HFIT.out.1 x (hperm.mem_iff.1 hx))
      have hnod : nodesL (Lp l p) = nodesL l := nodesL_perm hperm
      have hn8 := HN.out.2.2.2
      have cC := Lib.hid (copy_gmk 5 0 ⟨#[]⟩ (Lp l p) (Kp ks p) AI AK cI cK k k 33554432 (by rw [Lp_len]; exact hkp) (by rw [Kp_len]; exact hkp) wr (fun b => w.heap.size ≤ b ∧ b < w3.heap.size) hW hfit (by omega) (by omega) (by omega))
      have vk := HM.out.bk
      have v0 := vk.at 0 _ rfl
      have v1 := vk.at 1 _ rfl
      have v2 := vk.at 2 _ rfl
      have v3 := vk.at 3 _ rfl
      have v4 := vk.at 4 _ rfl
      have z3 := ZB.out.stays Q3.out
      have zr : Bk P #[.int .i64 0, .int .i64 0, .string ⟨#[]⟩, .slice none 0 0, .slice none 0 0] 26 wr := (HM.out.tw.q.block P z3.lt (fun e => by have := Option.some.inj e; have := HPS.out; omega)).trans z3
      have ZR := Lib.hid zr
      have hP3 : P < w3.heap.size := z3.lt
      have HP3 := Lib.hid hP3
      have QW := Lib.hid qwr
      have HWR := Lib.hid (HM.out.tw.q.size)
      subst e
      have HL2 := Lib.hid hl2
      have HKP := Lib.hid hkp
      clear hkp hwS qw3 qwr hl2 hltp hsrt hW hperm hfit hnod hn8 vk z3 zr hP3 HM hk hlt
      go_wp2_with fail
      refine (cC.out).mono ?_
      rintro e w7 ⟨B3, d3, B4, d4, rfl, hI7, q7⟩
      have zq := ZR.out.stays q7
      have u0 := zq.at 0 _ rfl
      have u1 := zq.at 1 _ rfl
      have u2 := zq.at 2 _ rfl
      have u3 := zq.at 3 _ rfl
      have u4 := zq.at 4 _ rfl
      have f0 := zq.frozen 0
      have f1 := zq.frozen 1
      have f2 := zq.frozen 2
      have f3 := zq.frozen 3
      have f4 := zq.frozen 4
      obtain ⟨bf, qf⟩ := store5 (k := 5) (n := 0) (s := ⟨#[]⟩) (s3 := .slice B3 k d3) (s4 := .slice B4 k d4) HPS.out.2.1 zq (QW.out.trans q7)
      have hfin := hI7 (set5 w7 P 0 (.int .i64 5) (.int .i64 0) (.string ⟨#[]⟩) (.slice B3 k d3) (.slice B4 k d4)) (fun j _ hj => set5_block w7 P 0 _ _ _ _ _ j (fun e => by
        have h1 := HP3.out
        have h2 := HPS.out
        have h3 := HWR.out
        rcases hj with hj | hj
        · exact hj ⟨by omega, by omega⟩
        · omega))
      obtain ⟨wf, hwf⟩ : ∃ wf, set5 w7 P 0 (.int .i64 5) (.int .i64 0) (.string ⟨#[]⟩) (.slice B3 k d3) (.slice B4 k d4) = wf := ⟨_, rfl⟩
      rw [hwf] at bf qf hfin
      unfold set5 at hwf
      simp only [Nat.zero_add] at hwf
      have r0 := bf.at 0 _ rfl
      have r1 := bf.at 1 _ rfl
      have r2 := bf.at 2 _ rfl
      have r3 := bf.at 3 _ rfl
      have r4 := bf.at 4 _ rfl
      have QFF := Lib.hid qf
      have HFF := Lib.hid hfin
      clear bf qf zq hI7 hfin q7 v0 v1 v2 v3 v4
      go_wp2_with fail
      refine bodyPost_ret (by simp [results, Tryz.results27, go_sem, r0, r1, r2, r3, r4]; try rfl) rfl ?_
      refine ⟨QFF.out, ?_⟩
      rw [if_pos HL2.out, hmapd.out]
      have hz1 : ((Kp ks p).zip (Lp l p)).map (fun b => b.2) = Lp l p := List.map_snd_zip (by rw [Kp_len, Lp_len]; exact Nat.le_refl _)
      have hz2 : ((Kp ks p).zip (Lp l p)).map (fun b => b.1) = Kp ks p := List.map_fst_zip (by rw [Kp_len, Lp_len]; exact Nat.le_refl _)
      refine ⟨_, _, rfl, ?_, ?_⟩
      · rw [hz1]
        exact HFF.out.1
      · rw [hz2]
        exact HFF.out.2

end Go.Proofs.YtjmchjphdfbhiaaGreatDoor.val
