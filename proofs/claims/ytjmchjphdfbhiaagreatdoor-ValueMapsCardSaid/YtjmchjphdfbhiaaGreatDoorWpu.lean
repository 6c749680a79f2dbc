/- The reference's Put: the walk. -/
import Derived.Test.YtjmchjphdfbhiaaGreatDoorWpt
import Derived.Test.YtjmchjphdfbhiaaGreatDoorVmx
namespace Go.Proofs.YtjmchjphdfbhiaaGreatDoor.val
open Go.RowKit
open Go.Proofs.YtjmchjphdfbhiaaGreatDoor
open Go.Proofs.YtjmchjphdfbhiaaGreatDoor.val.cp (Fit FitL Fit_iff FitL_mem set5 set5_block set5_world set5_at)
theorem OM.own {p : Nat → Bool} {m : List (ByteArray × V)} {S : Nat} {AK : Option Addr} {cK : Nat} {AI : Option Addr} {cI k : Nat} {w w3 wr : World} (h : OM p m S AK cK AI cI k w w3 wr) : ∃ xs, Tw S 9 1 (.slice AK k cK) k (m.map (fun b => .string b.1)) 26 5 (.slice AI k cI) k xs w3 wr := by
  obtain ⟨_, ⟨xs, t, _⟩, _⟩ := h
  exact ⟨xs, t⟩
theorem Q4.tw {S : Nat} {T1 : TypeId} {z1 : Nat} {v1 : Value} {n1 : Nat} {xs1 : List Value} {T2 : TypeId} {z2 : Nat} {v2 : Value} {n2 : Nat} {xs2 : List Value} {w1 wf wr w4 : World} (q : Q w1 wf) (hS : w1.heap.size ≤ S) (h : Tw S T1 z1 v1 n1 xs1 T2 z2 v2 n2 xs2 wf wr) (G : wr.grownBy w4 v1.ownBlock) : Q w1 w4 := by
  have q5 := h.grown q hS
  exact ⟨G.os.trans q5.os, G.tape.trans q5.tape, G.output.trans q5.output, Nat.le_trans q5.size G.size, fun j hj => (G.block j (Nat.lt_of_lt_of_le hj q5.size) (fun e => by have := (h.own1.lt j e.symm).1; have := q.size; omega)).trans (q5.block j hj)⟩
/-- What the reference's Put hands back, pairs r. -/
def RPut (p : Nat → Bool) (r : List (ByteArray × V)) (w : World) (e : Ending) (w' : World) : Prop :=
  ∃ AI cI AK cK, e = .returned (.agg #[.int .i64 5, .int .i64 0, .string ⟨#[]⟩, .slice AI r.length cI, .slice AK r.length cK]) ∧ Is (.slice AI r.length cI) (r.map (fun b => b.2)) (eo p w') ∧ Ks (.slice AK r.length cK) (r.map (fun b => b.1)) (eo p w') ∧ Q w w'
set_option maxHeartbeats 40000000 in
set_option maxRecDepth 100000 in
theorem rput_any (p : Nat → Bool) (vk vn : Int) (vs : ByteArray) (l : List V) (ks : List ByteArray) (A3 : Option Addr) (k3 : Nat) (A4 : Option Addr) (k4 : Nat) (key : ByteArray) (xk xn : Int) (xs : ByteArray) (xl : List V) (xks : List ByteArray) (X3 : Option Addr) (x3 : Nat) (X4 : Option Addr) (x4 : Nat) (n m3 m4 : Nat) (w : World) (r : List (ByteArray × V)) (hr : rputL false (ks.zip l) key (⟨xk, xn, xs, xl, xks⟩ : V) = r)
    (hn3 : l.length = n) (hn4 : ks.length = n) (hn : n ≤ 900000) (hp : okp p w) (h3 : Is (.slice A3 n k3) l (eo p w)) (h4 : Ks (.slice A4 n k4) ks (eo p w)) (hx3 : Is (.slice X3 m3 x3) xl (eo p w)) (hx4 : Ks (.slice X4 m4 x4) xks (eo p w)) :
    Calls Tryz.prog 32 #[.agg #[.int .i64 vk, .int .i64 vn, .string vs, .slice A3 n k3, .slice A4 n k4], .string key, .agg #[.int .i64 xk, .int .i64 xn, .string xs, .slice X3 m3 x3, .slice X4 m4 x4]] w (RPut p r w) := by
  obtain ⟨B, hB⟩ : ∃ x, w.heap.size = x := ⟨_, rfl⟩
  obtain ⟨wv, hwv⟩ : ∃ x, w.alloc (.cells #[.int .i64 vk, .int .i64 vn, .string vs, .slice A3 n k3, .slice A4 n k4] 26) = x := ⟨_, rfl⟩
  obtain ⟨X, hX⟩ : ∃ x, wv.heap.size = x := ⟨_, rfl⟩
  obtain ⟨wx, hwx⟩ : ∃ x, wv.alloc (.cells #[.int .i64 xk, .int .i64 xn, .string xs, .slice X3 m3 x3, .slice X4 m4 x4] 26) = x := ⟨_, rfl⟩
  obtain ⟨P, hP⟩ : ∃ x, wx.heap.size = x := ⟨_, rfl⟩
  obtain ⟨w1, hw1⟩ : ∃ x, wx.alloc (.cells #[.int .i64 0, .int .i64 0, .string ⟨#[]⟩, .slice none 0 0, .slice none 0 0] 26) = x := ⟨_, rfl⟩
  obtain ⟨S, hS⟩ : ∃ x, w1.heap.size = x := ⟨_, rfl⟩
  obtain ⟨w2, hw2⟩ : ∃ x, w1.alloc (.cells #[.int .i64 0, .int .i64 0, .string ⟨#[]⟩, .slice none 0 0, .slice none 0 0] 26) = x := ⟨_, rfl⟩
  have qv : Q w wv := by rw [← hwv]; exact Q.box _ _
  have qx : Q wv wx := by rw [← hwx]; exact Q.box _ _
  have q1 : Q wx w1 := by rw [← hw1]; exact Q.box _ _
  have q2 : Q w1 w2 := by rw [← hw2]; exact Q.box _ _
  have bV : Bk B #[.int .i64 vk, .int .i64 vn, .string vs, .slice A3 n k3, .slice A4 n k4] 26 wv := by rw [← hwv, ← hB]; exact Bk.new _ _ _
  have bX : Bk X #[.int .i64 xk, .int .i64 xn, .string xs, .slice X3 m3 x3, .slice X4 m4 x4] 26 wx := by rw [← hwx, ← hX]; exact Bk.new _ _ _
  have bP : Bk P #[.int .i64 0, .int .i64 0, .string ⟨#[]⟩, .slice none 0 0, .slice none 0 0] 26 w1 := by rw [← hw1, ← hP]; exact Bk.new _ _ _
  have bS : Bk S #[.int .i64 0, .int .i64 0, .string ⟨#[]⟩, .slice none 0 0, .slice none 0 0] 26 w2 := by rw [← hw2, ← hS]; exact Bk.new _ _ _
  have u0 := bS.at 0 _ rfl
  have u1 := bS.at 1 _ rfl
  have u2 := bS.at 2 _ rfl
  have u3 := bS.at 3 _ rfl
  have u4 := bS.at 4 _ rfl
  have f0 := bS.frozen 0
  have f1 := bS.frozen 1
  have f2 := bS.frozen 2
  have f3 := bS.frozen 3
  have f4 := bS.frozen 4
  obtain ⟨bf, qf⟩ := store5 (k := 5) (n := 0) (s := ⟨#[]⟩) (s3 := .slice none 0 0) (s4 := .slice none 0 0) hS.symm bS q2
  have hszf := (set5_world w2 S 0 (.int .i64 5) (.int .i64 0) (.string ⟨#[]⟩) (.slice none 0 0) (.slice none 0 0)).2.2.2
  obtain ⟨wf, hwf⟩ : ∃ x, set5 w2 S 0 (.int .i64 5) (.int .i64 0) (.string ⟨#[]⟩) (.slice none 0 0) (.slice none 0 0) = x := ⟨_, rfl⟩
  rw [hwf] at bf qf hszf
  unfold set5 at hwf
  simp only [Nat.zero_add] at hwf
  have hsz2 : w2.heap.size = S + 1 := by rw [← hw2, size_alloc, hS]
  have hPS : P < S := by rw [← hS, ← hw1, size_alloc]; omega
  have HS : Hid (w1.heap.size = S ∧ wf.heap.size = S + 1 ∧ P = wx.heap.size ∧ P < S ∧ w.heap.size ≤ S) := Lib.hid ⟨hS, by omega, hP.symm, hPS, by have := (qv.trans (qx.trans q1)).size; omega⟩
  have Q1F := Lib.hid qf
  have QX1 := Lib.hid q1
  have QWX := Lib.hid (qv.trans qx)
  have QWF := Lib.hid ((qv.trans (qx.trans q1)).trans qf)
  have QW1 := Lib.hid (qv.trans (qx.trans q1))
  have BV := Lib.hid (bV.stays (qx.trans q1))
  have BX := Lib.hid (bX.stays q1)
  have BP := Lib.hid bP
  have HP := Lib.hid hp
  have HI := Lib.hid h3
  have HK := Lib.hid h4
  have HX := Lib.hid (And.intro hx3 hx4)
  have HN := Lib.hid (show l.length = n ∧ ks.length = n from ⟨hn3, hn4⟩)
  have H0 : Hid (OM p [] S none 0 none 0 0 w wf wf) := Lib.hid (OM.start bf)
  have HR0 : Hid ([] ++ rputL false ((ks.drop 0).zip (l.drop 0)) key (⟨xk, xn, xs, xl, xks⟩ : V) = r) := Lib.hid (by rw [List.drop_zero, List.drop_zero]; exact hr)
  have HC : Hid (∀ (c : Nat) (m : List (ByteArray × V)), m.length = c → m.length ≤ r.length → c ≤ 1000000) := Lib.hid (fun c m e h => by
    have := rputL_len key (⟨xk, xn, xs, xl, xks⟩ : V) (ks.zip l) false
    rw [hr, List.length_zip] at this
    omega)
  clear hr hn3 hn4 hp h3 h4 hx3 hx4 qv qx q1 q2 bV bX bP bS bf qf hszf hsz2 hPS
  go_enter Tryz.func32, Tryz.ntmps32
  go_wp2_with fail
  go_loopw [8, 9] (fun d i wr => ∃ (k : Nat) (D : Bool) (m : List (ByteArray × V)) (c : Nat) (AK : Option Addr) (cK : Nat) (AI : Option Addr) (cI : Nat), k ≤ n ∧ d = .bool D ∧ i = .int .i64 k ∧ Hid (OM p m S AK cK AI cI c w wf wr) ∧ Hid (m ++ rputL D ((ks.drop k).zip (l.drop k)) key (⟨xk, xn, xs, xl, xks⟩ : V) = r)) (fun _ i _ => n - (intOf i).toNat)
  case atStart => exact ⟨0, false, [], 0, none, 0, none, 0, Nat.zero_le _, rfl, rfl, H0, HR0⟩
  case round =>
    obtain ⟨k, D, m, c, AK, cK, AI, cI, hk, rfl, rfl, HM, HR⟩ := hrel
    clear H0 HR0 u0 u1 u2 u3 u4 f0 f1 f2 f3 f4 hwf hw2 hw1 hwx hwv hB hX hP hS
    have Q1R : Hid (Q w1 wr) := Lib.hid (HM.out.grown Q1F.out (Nat.le_of_eq HS.out.1))
    have bVr := BV.out.stays Q1R.out
    have v3 := bVr.at 3 _ rfl
    have v4 := bVr.at 4 _ rfl
    clear bVr
    by_cases hlt : k < n
    rotate_left 1
    · have e1 : decide (k < n) = false := decide_eq_false hlt
      have e2 : decide ((k : Int) < (n : Int)) = false := decide_eq_false (by omega)
      have HR2 : Hid (m ++ rputL D [] key (⟨xk, xn, xs, xl, xks⟩ : V) = r) := Lib.hid (by
        have h := HR.out
        rw [List.drop_of_length_le (by have := HN.out; omega), List.zip_nil_left] at h
        exact h)
      clear HR hlt
      cases D with
      | true =>
        have hmr : m = r := by
          have h := HR2.out
          rw [rputL, if_pos rfl, List.append_nil] at h
          exact h
        subst hmr
        have bSz := HM.out.bk
        have y0 := bSz.at 0 _ rfl
        have y1 := bSz.at 1 _ rfl
        have y2 := bSz.at 2 _ rfl
        have y3 := bSz.at 3 _ rfl
        have y4 := bSz.at 4 _ rfl
        have bPz := BP.out.stays Q1R.out
        have f0 := bPz.frozen 0
        have f1 := bPz.frozen 1
        have f2 := bPz.frozen 2
        have f3 := bPz.frozen 3
        have f4 := bPz.frozen 4
        have z0 := bPz.at 0 _ rfl
        have z1 := bPz.at 1 _ rfl
        have z2 := bPz.at 2 _ rfl
        have z3 := bPz.at 3 _ rfl
        have z4 := bPz.at 4 _ rfl
        obtain ⟨bf, qf⟩ := store5 (k := 5) (n := 0) (s := ⟨#[]⟩) (s3 := .slice AI c cI) (s4 := .slice AK c cK) HS.out.2.2.1 bPz (QX1.out.trans Q1R.out)
        have hblk : ∀ j, wf.heap.size ≤ j → j < wr.heap.size → (set5 wr P 0 (.int .i64 5) (.int .i64 0) (.string ⟨#[]⟩) (.slice AI c cI) (.slice AK c cK)).heap[j]? = wr.heap[j]? := fun j hj _ => set5_block wr P 0 _ _ _ _ _ j (by have := HS.out; omega)
        obtain ⟨wz, hwz⟩ : ∃ x, set5 wr P 0 (.int .i64 5) (.int .i64 0) (.string ⟨#[]⟩) (.slice AI c cI) (.slice AK c cK) = x := ⟨_, rfl⟩
        rw [hwz] at bf qf hblk
        unfold set5 at hwz
        simp only [Nat.zero_add] at hwz
        have r0 := bf.at 0 _ rfl
        have r1 := bf.at 1 _ rfl
        have r2 := bf.at 2 _ rfl
        have r3 := bf.at 3 _ rfl
        have r4 := bf.at 4 _ rfl
        have QFF := Lib.hid (QWX.out.trans qf)
        have HRD := Lib.hid (HM.out.reads QWF.out HP.out QFF.out hblk)
        have HLN := Lib.hid HM.out.len
        clear bf qf hblk bPz bSz
        go_wp2_with fail
        refine bodyPost_ret (by simp [results, Tryz.results32, go_sem, r0, r1, r2, r3, r4]; try rfl) rfl ?_
        exact ⟨AI, cI, AK, cK, by rw [HLN.out], by rw [HLN.out]; exact HRD.out.1, by rw [HLN.out]; exact HRD.out.2, QFF.out⟩
      | false =>
        have hmr : m ++ [(key, (⟨xk, xn, xs, xl, xks⟩ : V))] = r := by
          have h := HR2.out
          rw [rputL, if_neg (by simp)] at h
          exact h
        subst hmr
        have sAa := HM.out.bk.at 4 _ rfl
        have hca := HC.out c m HM.out.len (by rw [List.length_append]; omega)
        obtain ⟨waa, hwaa⟩ : ∃ x, wr.alloc (.cells #[.string key] 9) = x := ⟨_, rfl⟩
        obtain ⟨Da, hDa⟩ : ∃ x, wr.heap.size = x := ⟨_, rfl⟩
        have caa : waa.cell? ⟨Da, 0, none⟩ = some (.string key) := by rw [← hwaa, ← hDa]; exact lit_one _ _ _
        have HMaa := Lib.hid (HM.out.quiet (show Q wr waa by rw [← hwaa]; exact Q.box _ _))
        have OWa : Hid (waa.ownsRow wf.heap.size 9 1 (.slice AK c cK) c (m.map (fun b => .string b.1)) ∧ wf.heap.size ≤ waa.heap.size) := Lib.hid (by obtain ⟨_, ⟨_, t, _⟩, _⟩ := HMaa.out; exact ⟨t.own1, t.q.size⟩)
        have CAa := Lib.hid caa
        clear caa
        go_wp2_with (at_builtin; refine wpl_str rfl _ _ rfl wf.heap.size (.slice AK c cK) c (m.map (fun b => .string b.1)) rfl OWa.out.1 ⟨Da, 0, none⟩ rfl (.string key) CAa.out rfl (by omega) OWa.out.2 ?_)
        intro ga capa w4a O4 G4 hg4
        obtain ⟨HH, hb4⟩ := HMaa.out.push key O4 G4 hg4
        have sBa := hb4.at 4 _ rfl
        have fBa := hb4.frozen 4
        clear O4 G4 hg4 hb4 sAa
        obtain ⟨w5a, hw5a⟩ : ∃ x, w4a.setCell ⟨S, 4, none⟩ (.slice (some ⟨ga, 0, none⟩) (c + 1) capa) = x := ⟨_, rfl⟩
        rw [hw5a] at HH
        have H5a := Lib.hid HH
        clear HH
        have q5a : Q w1 w5a := H5a.out.grown Q1F.out (Nat.le_of_eq HS.out.1)
        have sCa := H5a.out.bk.at 3 _ rfl
        have bXa := BX.out.stays q5a
        have x0a := bXa.at 0 _ rfl
        have x1a := bXa.at 1 _ rfl
        have x2a := bXa.at 2 _ rfl
        have x3a := bXa.at 3 _ rfl
        have x4a := bXa.at 4 _ rfl
        obtain ⟨wba, hwba⟩ : ∃ x, w5a.alloc (.cells #[.int .i64 xk, .int .i64 xn, .string xs, .slice X3 m3 x3, .slice X4 m4 x4] 26) = x := ⟨_, rfl⟩
        obtain ⟨Ea, hEa⟩ : ∃ x, w5a.heap.size = x := ⟨_, rfl⟩
        have CBa : Hid (Bk Ea #[.int .i64 xk, .int .i64 xn, .string xs, .slice X3 m3 x3, .slice X4 m4 x4] 26 wba) := Lib.hid (by rw [← hwba, ← hEa]; exact heap_alloc_new _ _)
        have HMba := Lib.hid (H5a.out.quiet (show Q w5a wba by rw [← hwba]; exact Q.box _ _))
        obtain ⟨hl6, ⟨xs6, tw6, rw6⟩, bk6⟩ := HMba.out
        have T6 := Lib.hid (And.intro hl6 (And.intro tw6 (And.intro rw6 bk6)))
        have OXa := Lib.hid (And.intro tw6.own2 tw6.q.size)
        clear hl6 tw6 rw6 bk6 q5a bXa H5a
        go_wp2_with (at_builtin; refine wpl_val rfl _ _ rfl wf.heap.size (.slice AI c cI) c xs6 rfl OXa.out.1 Ea rfl #[.int .i64 xk, .int .i64 xn, .string xs, .slice X3 m3 x3, .slice X4 m4 x4] rfl CBa.out (five_one _ _ _ _ _ _ _ _ _) (by omega) OXa.out.2 ?_)
        intro ha cap6a w6a O6 G6 hg6
        obtain ⟨HH, hb6⟩ := OH.push T6.out.1 T6.out.2.1 T6.out.2.2.1 T6.out.2.2.2 (⟨xk, xn, xs, xl, xks⟩ : V) HX.out.1 HX.out.2 O6 G6 hg6
        have sDa := hb6.at 3 _ rfl
        have fDa := hb6.frozen 3
        clear O6 G6 hg6 hb6 T6 OXa HMba CBa x0a x1a x2a x3a x4a sCa hwba hEa sBa fBa hw5a HMaa OWa CAa hwaa hDa
        obtain ⟨w7a, hw7a⟩ : ∃ x, w6a.setCell ⟨S, 3, none⟩ (.slice (some ⟨ha, 0, none⟩) (c + 1) cap6a) = x := ⟨_, rfl⟩
        rw [hw7a] at HH
        have H7a := Lib.hid HH
        clear HH
        have Q7a : Hid (Q w1 w7a) := Lib.hid (H7a.out.grown Q1F.out (Nat.le_of_eq HS.out.1))
        have bSz := H7a.out.bk
        have y0 := bSz.at 0 _ rfl
        have y1 := bSz.at 1 _ rfl
        have y2 := bSz.at 2 _ rfl
        have y3 := bSz.at 3 _ rfl
        have y4 := bSz.at 4 _ rfl
        have bPz := BP.out.stays Q7a.out
        have f0 := bPz.frozen 0
        have f1 := bPz.frozen 1
        have f2 := bPz.frozen 2
        have f3 := bPz.frozen 3
        have f4 := bPz.frozen 4
        have z0 := bPz.at 0 _ rfl
        have z1 := bPz.at 1 _ rfl
        have z2 := bPz.at 2 _ rfl
        have z3 := bPz.at 3 _ rfl
        have z4 := bPz.at 4 _ rfl
        obtain ⟨bf, qf⟩ := store5 (k := 5) (n := 0) (s := ⟨#[]⟩) (s3 := .slice (some ⟨ha, 0, none⟩) (c + 1) cap6a) (s4 := .slice (some ⟨ga, 0, none⟩) (c + 1) capa) HS.out.2.2.1 bPz (QX1.out.trans Q7a.out)
        have hblk : ∀ j, wf.heap.size ≤ j → j < w7a.heap.size → (set5 w7a P 0 (.int .i64 5) (.int .i64 0) (.string ⟨#[]⟩) (.slice (some ⟨ha, 0, none⟩) (c + 1) cap6a) (.slice (some ⟨ga, 0, none⟩) (c + 1) capa)).heap[j]? = w7a.heap[j]? := fun j hj _ => set5_block w7a P 0 _ _ _ _ _ j (by have := HS.out; omega)
        obtain ⟨wz, hwz⟩ : ∃ x, set5 w7a P 0 (.int .i64 5) (.int .i64 0) (.string ⟨#[]⟩) (.slice (some ⟨ha, 0, none⟩) (c + 1) cap6a) (.slice (some ⟨ga, 0, none⟩) (c + 1) capa) = x := ⟨_, rfl⟩
        rw [hwz] at bf qf hblk
        unfold set5 at hwz
        simp only [Nat.zero_add] at hwz
        have r0 := bf.at 0 _ rfl
        have r1 := bf.at 1 _ rfl
        have r2 := bf.at 2 _ rfl
        have r3 := bf.at 3 _ rfl
        have r4 := bf.at 4 _ rfl
        have QFF := Lib.hid (QWX.out.trans qf)
        have HRD := Lib.hid (H7a.out.reads QWF.out HP.out QFF.out hblk)
        have HLN := Lib.hid H7a.out.len
        clear bf qf hblk bPz bSz
        go_wp2_with fail
        refine bodyPost_ret (by simp [results, Tryz.results32, go_sem, r0, r1, r2, r3, r4]; try rfl) rfl ?_
        exact ⟨(some ⟨ha, 0, none⟩), cap6a, (some ⟨ga, 0, none⟩), capa, by rw [HLN.out], by rw [HLN.out]; exact HRD.out.1, by rw [HLN.out]; exact HRD.out.2, QFF.out⟩
    have i1 : (k : Int) < (n : Int) := by omega
    have hkn : Hid (k < n) := Lib.hid hlt
    have hkl : k < l.length := by have := HN.out; omega
    have hkk : k < ks.length := by have := HN.out; omega
    obtain ⟨b, o, rfl, hKL⟩ : ∃ b o, A4 = some ⟨b, o, none⟩ ∧ KL ks b o (eo p w) := by
      obtain ⟨A', c', e, hc, g⟩ := HK.out
      simp only [Value.slice.injEq] at e
      obtain ⟨rfl, -, rfl⟩ := e
      exact g (by intro e; rw [e] at hkk; exact absurd hkk (Nat.not_lt_zero _))
    obtain ⟨bi, oi, rfl, hVL⟩ : ∃ b o, A3 = some ⟨b, o, none⟩ ∧ VL l b o (eo p w) := by
      obtain ⟨A', c', e, hc, g⟩ := HI.out
      simp only [Value.slice.injEq] at e
      obtain ⟨rfl, -, rfl⟩ := e
      exact g (by intro e; rw [e] at hkl; exact absurd hkl (Nat.not_lt_zero _))
    obtain ⟨kk, hkk2⟩ : ∃ x, ks[k] = x := ⟨_, rfl⟩
    obtain ⟨y, hy⟩ : ∃ x, l[k] = x := ⟨_, rfl⟩
    have cK := (eo_cell (KL.at ks b o _ hKL k hkk)).2
    obtain ⟨s5, s6, hd⟩ := VL.at l bi oi _ hVL k hkl
    rw [hkk2] at cK
    rw [hy] at hd
    have HRn : Hid (m ++ ((if D = false ∧ 0 ≤ cT kk key then [(key, (⟨xk, xn, xs, xl, xks⟩ : V))] else []) ++ ((if cT kk key = 0 then [] else [(kk, y)]) ++ rputL (D || decide (0 ≤ cT kk key)) ((ks.drop (k + 1)).zip (l.drop (k + 1))) key (⟨xk, xn, xs, xl, xks⟩ : V))) = r) := Lib.hid (by
      have h := HR.out
      rw [List.drop_eq_getElem_cons hkk, List.drop_eq_getElem_cons hkl, List.zip_cons_cons, rputL, hkk2, hy] at h
      exact h)
    obtain ⟨Y3, y3, e5, -⟩ := hd.is.shape
    obtain ⟨Y4, y4, e6, -⟩ := hd.kk.shape
    obtain ⟨yk, yn, ys, yl, yks⟩ := y
    have e5' : s5 = .slice Y3 yl.length y3 := e5
    have e6' : s6 = .slice Y4 yks.length y4 := e6
    clear e5 e6
    obtain ⟨n5, hn5⟩ : ∃ a, yl.length = a := ⟨_, rfl⟩
    obtain ⟨n6, hn6⟩ : ∃ a, yks.length = a := ⟨_, rfl⟩
    rw [hn5] at e5'
    rw [hn6] at e6'
    subst e5'
    subst e6'
    have HY : Hid (Is (.slice Y3 n5 y3) yl (eo p w) ∧ Ks (.slice Y4 n6 y4) yks (eo p w)) := Lib.hid ⟨hd.is, hd.kk⟩
    have SV : Hid (w1.cell? ⟨B, 3, none⟩ = some (.slice (some ⟨bi, oi, none⟩) n k3) ∧ w1.cell? ⟨B, 4, none⟩ = some (.slice (some ⟨b, o, none⟩) n k4) ∧ w1.cell? ⟨b, o + k, none⟩ = some (.string kk) ∧ w1.cell? ⟨bi, oi + k * 5, none⟩ = some (.int .i64 yk) ∧ w1.cell? ⟨bi, oi + k * 5 + 1, none⟩ = some (.int .i64 yn) ∧ w1.cell? ⟨bi, oi + k * 5 + 2, none⟩ = some (.string ys) ∧ w1.cell? ⟨bi, oi + k * 5 + 3, none⟩ = some (.slice Y3 n5 y3) ∧ w1.cell? ⟨bi, oi + k * 5 + 4, none⟩ = some (.slice Y4 n6 y4)) :=
      Lib.hid ⟨BV.out.at 3 _ rfl, BV.out.at 4 _ rfl, cell_stays QW1.out cK, cell_stays QW1.out (eo_cell hd.k).2, cell_stays QW1.out (eo_cell hd.n).2, cell_stays QW1.out (eo_cell hd.s).2, cell_stays QW1.out (eo_cell hd.l).2, cell_stays QW1.out (eo_cell hd.ks).2⟩
    have t5 := cell_stays Q1R.out SV.out.2.2.1
    have hHC : Hid (m.length ≤ r.length ∧ ((D = false ∧ 0 ≤ cT kk key) → (m ++ [(key, (⟨xk, xn, xs, xl, xks⟩ : V))]).length ≤ r.length)) := Lib.hid (by
      have h := congrArg List.length HRn.out
      rw [List.length_append, List.length_append] at h
      refine ⟨by omega, fun g => ?_⟩
      rw [if_pos g] at h
      rw [List.length_append]
      omega)
    clear HR hkk2 hy cK hd hKL hVL hkl hkk hn5 hn6 hlt
    cases D with
    | true =>
      by_cases h0 : cT kk key = 0
      · have e3 : (kk.toList == key.toList) = true := by rw [same_cT]; exact decide_eq_true h0
        have HR2 : Hid (m ++ rputL true ((ks.drop (k + 1)).zip (l.drop (k + 1))) key (⟨xk, xn, xs, xl, xks⟩ : V) = r) := Lib.hid (by
          have h := HRn.out
          rw [if_neg (by simp), if_pos h0, Bool.true_or] at h
          exact h)
        clear HRn h0
        go_wp2_with fail
        go_roundw
        case rel => exact ⟨k + 1, true, m, c, AK, cK, AI, cI, hkn.out, rfl, by go_num, HM, HR2⟩
        case measure => have := hkn.out; simp [intOf]; omega
      · have e3 : (kk.toList == key.toList) = false := by rw [same_cT]; exact decide_eq_false h0
        have HR2 : Hid ((m ++ [(kk, (⟨yk, yn, ys, yl, yks⟩ : V))]) ++ rputL true ((ks.drop (k + 1)).zip (l.drop (k + 1))) key (⟨xk, xn, xs, xl, xks⟩ : V) = r) := Lib.hid (by
          have h := HRn.out
          rw [if_neg (by simp), if_neg h0, Bool.true_or, List.nil_append] at h
          rw [List.append_assoc]
          exact h)
        clear HRn h0
        go_wp2_with fail
        have hca := HC.out c m HM.out.len (hHC.out.1)
        obtain ⟨wda, hwda⟩ : ∃ x, x = wr.drew := ⟨_, rfl⟩
        have qda : Q wr wda := by rw [hwda]; exact Q.drew _
        have HMda := Lib.hid (HM.out.quiet qda)
        have SEa : Hid (∀ w', Q w1 w' → (fun w' : World => w'.cell? ⟨B, 4, none⟩ = some (.slice (some ⟨b, o, none⟩) n k4) ∧ w'.cell? ⟨b, o + k, none⟩ = some (.string kk)) w' ∧ (fun w' : World => w'.cell? ⟨B, 3, none⟩ = some (.slice (some ⟨bi, oi, none⟩) n k3) ∧ w'.cell? ⟨bi, oi + k * 5, none⟩ = some (.int .i64 yk) ∧ w'.cell? ⟨bi, oi + k * 5 + 1, none⟩ = some (.int .i64 yn) ∧ w'.cell? ⟨bi, oi + k * 5 + 2, none⟩ = some (.string ys) ∧ w'.cell? ⟨bi, oi + k * 5 + 3, none⟩ = some (.slice Y3 n5 y3) ∧ w'.cell? ⟨bi, oi + k * 5 + 4, none⟩ = some (.slice Y4 n6 y4)) w') := Lib.hid (fun w' q => ⟨⟨cell_stays q SV.out.2.1, cell_stays q SV.out.2.2.1⟩, ⟨cell_stays q SV.out.1, cell_stays q SV.out.2.2.2.1, cell_stays q SV.out.2.2.2.2.1, cell_stays q SV.out.2.2.2.2.2.1, cell_stays q SV.out.2.2.2.2.2.2.1, cell_stays q SV.out.2.2.2.2.2.2.2⟩⟩)
        have Qda : Hid (Q w1 wda) := Lib.hid (HMda.out.grown Q1F.out (Nat.le_of_eq HS.out.1))
        have sAa := HM.out.bk.at 4 _ rfl
        obtain ⟨waa, hwaa⟩ : ∃ x, x = wda.alloc (.cells #[.string kk] 9) := ⟨_, rfl⟩
        have qaa : Q wda waa := by rw [hwaa]; exact Q.box _ _
        have HMaa := Lib.hid (HMda.out.quiet qaa)
        rw [hwda] at hwaa
        have Qaa : Hid (Q w1 (wr.drew.alloc (.cells #[.string kk] 9))) := Lib.hid (by rw [← hwaa]; exact Qda.out.trans qaa)
        have sBa : (wr.drew.alloc (.cells #[.string kk] 9)).cell? ⟨S, 4, none⟩ = some (.slice AK c cK) := by rw [← hwaa]; exact HMaa.out.bk.at 4 _ rfl
        have sBqa : (wr.alloc (.cells #[.string kk] 9)).cell? ⟨S, 4, none⟩ = some (.slice AK c cK) := cell_stays (Q.box _ _) (HM.out.bk.at 4 _ rfl)
        have OWa : Hid ((wr.drew.alloc (.cells #[.string kk] 9)).ownsRow wf.heap.size 9 1 (.slice AK c cK) c (m.map (fun b => .string b.1)) ∧ wf.heap.size ≤ (wr.drew.alloc (.cells #[.string kk] 9)).heap.size) := Lib.hid (by rw [← hwaa]; obtain ⟨_, ⟨_, t, _⟩, _⟩ := HMaa.out; exact ⟨t.own1, t.q.size⟩)
        have HM2a : Hid (OM p m S AK cK AI cI c w wf (wr.drew.alloc (.cells #[.string kk] 9))) := Lib.hid (by rw [← hwaa]; exact HMaa.out)
        have Qwa : Hid (Q w1 wr.drew) := Lib.hid (by rw [← hwda]; exact Qda.out)
        clear qda HMda Qda HMaa qaa hwaa hwda waa wda
        go_wp2_with fail
        refine Go.wp_region_held_drew (S := fun w' => w'.cell? ⟨B, 4, none⟩ = some (.slice (some ⟨b, o, none⟩) n k4) ∧ w'.cell? ⟨b, o + k, none⟩ = some (.string kk)) (by kernel_rfl) ((SEa.out _ Qwa.out).1) (fun hHeld => ?_)
        refine Go.wpAnyH_take (i := 0) (oi := _) (v := ?_) rfl (by kernel_rfl) (by kernel_rfl) (by kernel_rfl) (fun _ _ _ h => h) (Or.inl ⟨by rfl, ?_⟩) (by assumption) ?_
        rotate_left 1
        · intro wx hSw
          go_simp <;> with_reducible rfl
        simp only [Act.put, List.getElem_toArray, List.getElem_cons_zero, List.setIfInBounds_toArray, List.set_cons_zero, List.set_cons_succ]
        refine Go.wpAnyH_take (i := 2) (oi := _) (v := ?_) rfl (by kernel_rfl) (by kernel_rfl) (by kernel_rfl) (fun _ _ _ h => h) (Or.inl ⟨by rfl, ?_⟩) (by assumption) ?_
        rotate_left 1
        · intro wx hSw
          go_simp <;> with_reducible rfl
        simp only [Act.put, List.getElem_toArray, List.getElem_cons_zero, List.getElem_cons_succ, List.setIfInBounds_toArray, List.set_cons_zero, List.set_cons_succ]
        refine Go.wpAnyH_take (i := 3) (oi := _) (v := ?_) rfl (by kernel_rfl) (by kernel_rfl) (by kernel_rfl) (fun _ _ _ h => h) (Or.inl ⟨by rfl, ?_⟩) (by assumption) ?_
        rotate_left 1
        · intro wx hSw
          go_simp <;> with_reducible rfl
        simp only [Act.put, List.getElem_toArray, List.getElem_cons_zero, List.getElem_cons_succ, List.setIfInBounds_toArray, List.set_cons_zero, List.set_cons_succ]
        refine Go.wpAnyH_take (i := 4) (oi := _) (v := ?_) rfl (by kernel_rfl) (by kernel_rfl) (by kernel_rfl) (fun _ _ _ h => h) (Or.inl ⟨by rfl, ?_⟩) (by assumption) ?_
        rotate_left 1
        · intro wx hSw
          go_simp <;> with_reducible rfl
        simp only [Act.put, List.getElem_toArray, List.getElem_cons_zero, List.getElem_cons_succ, List.setIfInBounds_toArray, List.set_cons_zero, List.set_cons_succ]
        refine Go.wpAnyH_take (i := 5) (oi := _) (v := ?_) rfl (by kernel_rfl) (by kernel_rfl) (by kernel_rfl) (fun _ _ _ h => h) (Or.inl ⟨by rfl, ?_⟩) (by assumption) ?_
        rotate_left 1
        · intro wx hSw
          go_simp <;> with_reducible rfl
        simp only [Act.put, List.getElem_toArray, List.getElem_cons_zero, List.getElem_cons_succ, List.setIfInBounds_toArray, List.set_cons_zero, List.set_cons_succ]
        refine Go.wpAnyH_take (i := 6) (oi := _) (v := ?_) rfl (by kernel_rfl) (by kernel_rfl) (by kernel_rfl) (fun _ _ _ h => h) (Or.inl ⟨by rfl, ?_⟩) (by assumption) ?_
        rotate_left 1
        · intro wx hSw
          go_simp <;> with_reducible rfl
        simp only [Act.put, List.getElem_toArray, List.getElem_cons_zero, List.getElem_cons_succ, List.setIfInBounds_toArray, List.set_cons_zero, List.set_cons_succ]
        refine Go.wpAnyH_ready (rs := [1, 7]) (by kernel_rfl) (by simp) ?_
        refine Go.AllReadyH.cons rfl (fun K hK => ?_) (Go.AllReadyH.cons rfl (fun K hK => ?_) Go.AllReadyH.nil)
        · rw [if_pos (by rfl)]
          go_simp
          refine hK.out _ _ ((SEa.out _ Qwa.out).1) (fun hHeld => ?_)
          clear hK K
          refine Go.wpAnyH_ready (rs := [7]) (by kernel_rfl) (by simp) ?_
          refine Go.AllReadyH.cons rfl (fun K hK => ?_) Go.AllReadyH.nil
          rw [if_pos (by rfl)]
          go_simp
          refine hK.out _ _ ((SEa.out _ Qaa.out).1) (fun hHeld => ?_)
          clear hK K
          refine Go.wpAnyH_ready (rs := [8]) (by kernel_rfl) (by simp) ?_
          refine Go.AllReadyH.cons rfl (fun K hK => ?_) Go.AllReadyH.nil
          refine step_str (by rfl) _ _ (by rfl) wf.heap.size (.slice AK c cK) c _ rfl OWa.out.1 ⟨wr.drew.heap.size, 0, none⟩ rfl (.string kk) (lit_one _ _ _) rfl (by omega) OWa.out.2 _ rfl ?_
          intro ga capa w4a O4 G4 hg4
          obtain ⟨HH, hb4⟩ := HM2a.out.push kk O4 G4 hg4
          have q4a : Hid (Q w1 w4a) := Lib.hid (by obtain ⟨_, t⟩ := HM2a.out.own; exact Q4.tw Q1F.out (Nat.le_of_eq HS.out.1) t G4)
          clear O4 G4 hg4
          refine hK.out _ _ ((SEa.out _ q4a.out).1) (fun hHeld => ?_)
          clear hK K
          refine Go.wpAnyH_take (i := 9) (oi := _) (v := ?_) rfl (by kernel_rfl) (by kernel_rfl) (by kernel_rfl) (fun _ _ _ h => h) (Or.inl ⟨by rfl, ?_⟩) (by assumption) ?_
          rotate_left 1
          · intro wx hSw
            go_simp <;> with_reducible rfl
          simp only [Act.put, List.getElem_toArray, List.getElem_cons_zero, List.getElem_cons_succ, List.setIfInBounds_toArray, List.set_cons_zero, List.set_cons_succ]
          have sCa := hb4.at 4 _ rfl
          have fCa := hb4.frozen 4
          have H5 := Lib.hid HH
          clear HH
          have Q5a : Hid (Q w1 (w4a.setCell ⟨S, 4, none⟩ (.slice (some ⟨ga, 0, none⟩) (c + 1) capa))) := Lib.hid (H5.out.grown Q1F.out (Nat.le_of_eq HS.out.1))
          refine Go.wpAnyH_ready (rs := [10]) (by kernel_rfl) (by simp) ?_
          refine Go.AllReadyH.cons rfl (fun K hK => ?_) Go.AllReadyH.nil
          rw [if_pos (by rfl)]
          go_simp
          refine hK.out _ _ ((SEa.out _ Q5a.out).1) (fun hHeld => ?_)
          clear hK K
          refine Go.wpAnyH_done (by kernel_rfl) ?_ _
          obtain ⟨w5a, hw5a⟩ : ∃ x, w4a.setCell ⟨S, 4, none⟩ (.slice (some ⟨ga, 0, none⟩) (c + 1) capa) = x := ⟨_, rfl⟩
          rw [hw5a] at H5 Q5a ⊢
          clear hw5a sCa fCa hb4 q4a sAa sBa sBqa OWa HM2a Qwa Qaa hHeld
          obtain ⟨wda, hwda⟩ : ∃ x, x = w5a.drew := ⟨_, rfl⟩
          have qda : Q w5a wda := by rw [hwda]; exact Q.drew _
          obtain ⟨waa, hwaa⟩ : ∃ x, x = wda.alloc (.cells #[.int .i64 yk, .int .i64 yn, .string ys, .slice Y3 n5 y3, .slice Y4 n6 y4] 26) := ⟨_, rfl⟩
          have qaa : Q wda waa := by rw [hwaa]; exact Q.box _ _
          have HMaa := Lib.hid (H5.out.quiet (qda.trans qaa))
          rw [hwda] at hwaa
          have Qwa : Hid (Q w1 w5a.drew) := Lib.hid (by rw [← hwda]; exact Q5a.out.trans qda)
          have Qaa : Hid (Q w1 (w5a.drew.alloc (.cells #[.int .i64 yk, .int .i64 yn, .string ys, .slice Y3 n5 y3, .slice Y4 n6 y4] 26))) := Lib.hid (by rw [← hwaa]; exact Q5a.out.trans (qda.trans qaa))
          have sEa := H5.out.bk.at 3 _ rfl
          have sFa : (w5a.drew.alloc (.cells #[.int .i64 yk, .int .i64 yn, .string ys, .slice Y3 n5 y3, .slice Y4 n6 y4] 26)).cell? ⟨S, 3, none⟩ = some (.slice AI c cI) := by rw [← hwaa]; exact HMaa.out.bk.at 3 _ rfl
          have sFqa : (w5a.alloc (.cells #[.int .i64 yk, .int .i64 yn, .string ys, .slice Y3 n5 y3, .slice Y4 n6 y4] 26)).cell? ⟨S, 3, none⟩ = some (.slice AI c cI) := cell_stays (Q.box _ _) (H5.out.bk.at 3 _ rfl)
          obtain ⟨xs6, T6⟩ : ∃ xs6, Hid (m.length = c ∧ Tw S 9 1 (.slice (some ⟨ga, 0, none⟩) (c + 1) capa) (c + 1) (m.map (fun b => .string b.1) ++ [.string kk]) 26 5 (.slice AI c cI) c xs6 wf (w5a.drew.alloc (.cells #[.int .i64 yk, .int .i64 yn, .string ys, .slice Y3 n5 y3, .slice Y4 n6 y4] 26)) ∧ Rw m xs6 (eo p w) ∧ Bk S #[.int .i64 5, .int .i64 0, .string ⟨#[]⟩, .slice AI c cI, .slice (some ⟨ga, 0, none⟩) (c + 1) capa] 26 (w5a.drew.alloc (.cells #[.int .i64 yk, .int .i64 yn, .string ys, .slice Y3 n5 y3, .slice Y4 n6 y4] 26))) := by
            obtain ⟨hl6, ⟨xs6, tw6, rw6⟩, bk6⟩ := HMaa.out
            rw [hwaa] at tw6 bk6
            exact ⟨xs6, Lib.hid ⟨hl6, tw6, rw6, bk6⟩⟩
          have OXa := Lib.hid (And.intro T6.out.2.1.own2 T6.out.2.1.q.size)
          clear qda HMaa qaa hwaa hwda waa wda H5 Q5a
          go_wp2_with fail
          refine Go.wp_region_held_drew (S := fun w' => w'.cell? ⟨B, 3, none⟩ = some (.slice (some ⟨bi, oi, none⟩) n k3) ∧ w'.cell? ⟨bi, oi + k * 5, none⟩ = some (.int .i64 yk) ∧ w'.cell? ⟨bi, oi + k * 5 + 1, none⟩ = some (.int .i64 yn) ∧ w'.cell? ⟨bi, oi + k * 5 + 2, none⟩ = some (.string ys) ∧ w'.cell? ⟨bi, oi + k * 5 + 3, none⟩ = some (.slice Y3 n5 y3) ∧ w'.cell? ⟨bi, oi + k * 5 + 4, none⟩ = some (.slice Y4 n6 y4)) (by kernel_rfl) ((SEa.out _ Qwa.out).2) (fun hHeld => ?_)
          refine Go.wpAnyH_take (i := 0) (oi := _) (v := ?_) rfl (by kernel_rfl) (by kernel_rfl) (by kernel_rfl) (fun _ _ _ h => h) (Or.inl ⟨by rfl, ?_⟩) (by assumption) ?_
          rotate_left 1
          · intro wx hSw
            go_simp <;> with_reducible rfl
          simp only [Act.put, List.getElem_toArray, List.getElem_cons_zero, List.setIfInBounds_toArray, List.set_cons_zero, List.set_cons_succ]
          refine Go.wpAnyH_take (i := 2) (oi := _) (v := ?_) rfl (by kernel_rfl) (by kernel_rfl) (by kernel_rfl) (fun _ _ _ h => h) (Or.inl ⟨by rfl, ?_⟩) (by assumption) ?_
          rotate_left 1
          · intro wx hSw
            go_simp <;> with_reducible rfl
          simp only [Act.put, List.getElem_toArray, List.getElem_cons_zero, List.getElem_cons_succ, List.setIfInBounds_toArray, List.set_cons_zero, List.set_cons_succ]
          refine Go.wpAnyH_take (i := 3) (oi := _) (v := ?_) rfl (by kernel_rfl) (by kernel_rfl) (by kernel_rfl) (fun _ _ _ h => h) (Or.inl ⟨by rfl, ?_⟩) (by assumption) ?_
          rotate_left 1
          · intro wx hSw
            go_simp <;> with_reducible rfl
          simp only [Act.put, List.getElem_toArray, List.getElem_cons_zero, List.getElem_cons_succ, List.setIfInBounds_toArray, List.set_cons_zero, List.set_cons_succ]
          refine Go.wpAnyH_take (i := 4) (oi := _) (v := ?_) rfl (by kernel_rfl) (by kernel_rfl) (by kernel_rfl) (fun _ _ _ h => h) (Or.inl ⟨by rfl, ?_⟩) (by assumption) ?_
          rotate_left 1
          · intro wx hSw
            go_simp <;> with_reducible rfl
          simp only [Act.put, List.getElem_toArray, List.getElem_cons_zero, List.getElem_cons_succ, List.setIfInBounds_toArray, List.set_cons_zero, List.set_cons_succ]
          refine Go.wpAnyH_take (i := 5) (oi := _) (v := ?_) rfl (by kernel_rfl) (by kernel_rfl) (by kernel_rfl) (fun _ _ _ h => h) (Or.inl ⟨by rfl, ?_⟩) (by assumption) ?_
          rotate_left 1
          · intro wx hSw
            go_simp <;> with_reducible rfl
          simp only [Act.put, List.getElem_toArray, List.getElem_cons_zero, List.getElem_cons_succ, List.setIfInBounds_toArray, List.set_cons_zero, List.set_cons_succ]
          refine Go.wpAnyH_take (i := 6) (oi := _) (v := ?_) rfl (by kernel_rfl) (by kernel_rfl) (by kernel_rfl) (fun _ _ _ h => h) (Or.inl ⟨by rfl, ?_⟩) (by assumption) ?_
          rotate_left 1
          · intro wx hSw
            go_simp <;> with_reducible rfl
          simp only [Act.put, List.getElem_toArray, List.getElem_cons_zero, List.getElem_cons_succ, List.setIfInBounds_toArray, List.set_cons_zero, List.set_cons_succ]
          refine Go.wpAnyH_ready (rs := [1, 7]) (by kernel_rfl) (by simp) ?_
          refine Go.AllReadyH.cons rfl (fun K hK => ?_) (Go.AllReadyH.cons rfl (fun K hK => ?_) Go.AllReadyH.nil)
          · rw [if_pos (by rfl)]
            go_simp
            refine hK.out _ _ ((SEa.out _ Qwa.out).2) (fun hHeld => ?_)
            clear hK K
            refine Go.wpAnyH_ready (rs := [7]) (by kernel_rfl) (by simp) ?_
            refine Go.AllReadyH.cons rfl (fun K hK => ?_) Go.AllReadyH.nil
            rw [if_pos (by rfl)]
            go_simp
            refine hK.out _ _ ((SEa.out _ Qaa.out).2) (fun hHeld => ?_)
            clear hK K
            refine Go.wpAnyH_ready (rs := [8]) (by kernel_rfl) (by simp) ?_
            refine Go.AllReadyH.cons rfl (fun K hK => ?_) Go.AllReadyH.nil
            refine step_val (by rfl) _ _ (by rfl) wf.heap.size (.slice AI c cI) c xs6 rfl OXa.out.1 w5a.drew.heap.size rfl #[.int .i64 yk, .int .i64 yn, .string ys, .slice Y3 n5 y3, .slice Y4 n6 y4] rfl (heap_alloc_new _ _) (five_one _ _ _ _ _ _ _ _ _) (by omega) OXa.out.2 _ rfl ?_
            intro ha cap6a w6a O6 G6 hg6
            obtain ⟨HH, hb6⟩ := OH.push T6.out.1 T6.out.2.1 T6.out.2.2.1 T6.out.2.2.2 (⟨yk, yn, ys, yl, yks⟩ : V) HY.out.1 HY.out.2 O6 G6 hg6
            have q6a : Hid (Q w1 w6a) := Lib.hid (Q4.tw Q1F.out (Nat.le_of_eq HS.out.1) T6.out.2.1.swap G6)
            clear O6 G6 hg6
            refine hK.out _ _ ((SEa.out _ q6a.out).2) (fun hHeld => ?_)
            clear hK K
            refine Go.wpAnyH_take (i := 9) (oi := _) (v := ?_) rfl (by kernel_rfl) (by kernel_rfl) (by kernel_rfl) (fun _ _ _ h => h) (Or.inl ⟨by rfl, ?_⟩) (by assumption) ?_
            rotate_left 1
            · intro wx hSw
              go_simp <;> with_reducible rfl
            simp only [Act.put, List.getElem_toArray, List.getElem_cons_zero, List.getElem_cons_succ, List.setIfInBounds_toArray, List.set_cons_zero, List.set_cons_succ]
            have sGa := hb6.at 3 _ rfl
            have fGa := hb6.frozen 3
            have H7 := Lib.hid HH
            clear HH
            have Q7a : Hid (Q w1 (w6a.setCell ⟨S, 3, none⟩ (.slice (some ⟨ha, 0, none⟩) (c + 1) cap6a))) := Lib.hid (H7.out.grown Q1F.out (Nat.le_of_eq HS.out.1))
            refine Go.wpAnyH_ready (rs := [10]) (by kernel_rfl) (by simp) ?_
            refine Go.AllReadyH.cons rfl (fun K hK => ?_) Go.AllReadyH.nil
            rw [if_pos (by rfl)]
            go_simp
            refine hK.out _ _ ((SEa.out _ Q7a.out).2) (fun hHeld => ?_)
            clear hK K
            refine Go.wpAnyH_done (by kernel_rfl) ?_ _
            obtain ⟨w7a, hw7a⟩ : ∃ x, w6a.setCell ⟨S, 3, none⟩ (.slice (some ⟨ha, 0, none⟩) (c + 1) cap6a) = x := ⟨_, rfl⟩
            rw [hw7a] at H7 Q7a ⊢
            have H7a := H7
            clear hw7a sGa fGa hb6 q6a sEa sFa sFqa OXa T6 Qwa Qaa hHeld SEa H7
            go_wp2_with fail
            go_roundw
            case rel => exact ⟨k + 1, true, (m ++ [(kk, (⟨yk, yn, ys, yl, yks⟩ : V))]), (c + 1), (some ⟨ga, 0, none⟩), capa, (some ⟨ha, 0, none⟩), cap6a, hkn.out, rfl, by go_num, H7a, Lib.hid (HR2.out)⟩
            case measure => have := hkn.out; simp [intOf]; omega
          · rw [if_pos (by rfl)]
            go_simp
            refine hK.out _ _ ((SEa.out _ Qaa.out).2) (fun hHeld => ?_)
            clear hK K
            refine Go.wpAnyH_ready (rs := [1]) (by kernel_rfl) (by simp) ?_
            refine Go.AllReadyH.cons rfl (fun K hK => ?_) Go.AllReadyH.nil
            rw [if_pos (by rfl)]
            go_simp
            refine hK.out _ _ ((SEa.out _ Qaa.out).2) (fun hHeld => ?_)
            clear hK K
            refine Go.wpAnyH_ready (rs := [8]) (by kernel_rfl) (by simp) ?_
            refine Go.AllReadyH.cons rfl (fun K hK => ?_) Go.AllReadyH.nil
            refine step_val (by rfl) _ _ (by rfl) wf.heap.size (.slice AI c cI) c xs6 rfl OXa.out.1 w5a.drew.heap.size rfl #[.int .i64 yk, .int .i64 yn, .string ys, .slice Y3 n5 y3, .slice Y4 n6 y4] rfl (heap_alloc_new _ _) (five_one _ _ _ _ _ _ _ _ _) (by omega) OXa.out.2 _ rfl ?_
            intro ha cap6a w6a O6 G6 hg6
            obtain ⟨HH, hb6⟩ := OH.push T6.out.1 T6.out.2.1 T6.out.2.2.1 T6.out.2.2.2 (⟨yk, yn, ys, yl, yks⟩ : V) HY.out.1 HY.out.2 O6 G6 hg6
            have q6a : Hid (Q w1 w6a) := Lib.hid (Q4.tw Q1F.out (Nat.le_of_eq HS.out.1) T6.out.2.1.swap G6)
            clear O6 G6 hg6
            refine hK.out _ _ ((SEa.out _ q6a.out).2) (fun hHeld => ?_)
            clear hK K
            refine Go.wpAnyH_take (i := 9) (oi := _) (v := ?_) rfl (by kernel_rfl) (by kernel_rfl) (by kernel_rfl) (fun _ _ _ h => h) (Or.inl ⟨by rfl, ?_⟩) (by assumption) ?_
            rotate_left 1
            · intro wx hSw
              go_simp <;> with_reducible rfl
            simp only [Act.put, List.getElem_toArray, List.getElem_cons_zero, List.getElem_cons_succ, List.setIfInBounds_toArray, List.set_cons_zero, List.set_cons_succ]
            have sGa := hb6.at 3 _ rfl
            have fGa := hb6.frozen 3
            have H7 := Lib.hid HH
            clear HH
            have Q7a : Hid (Q w1 (w6a.setCell ⟨S, 3, none⟩ (.slice (some ⟨ha, 0, none⟩) (c + 1) cap6a))) := Lib.hid (H7.out.grown Q1F.out (Nat.le_of_eq HS.out.1))
            refine Go.wpAnyH_ready (rs := [10]) (by kernel_rfl) (by simp) ?_
            refine Go.AllReadyH.cons rfl (fun K hK => ?_) Go.AllReadyH.nil
            rw [if_pos (by rfl)]
            go_simp
            refine hK.out _ _ ((SEa.out _ Q7a.out).2) (fun hHeld => ?_)
            clear hK K
            refine Go.wpAnyH_done (by kernel_rfl) ?_ _
            obtain ⟨w7a, hw7a⟩ : ∃ x, w6a.setCell ⟨S, 3, none⟩ (.slice (some ⟨ha, 0, none⟩) (c + 1) cap6a) = x := ⟨_, rfl⟩
            rw [hw7a] at H7 Q7a ⊢
            have H7a := H7
            clear hw7a sGa fGa hb6 q6a sEa sFa sFqa OXa T6 Qwa Qaa hHeld SEa H7
            go_wp2_with fail
            go_roundw
            case rel => exact ⟨k + 1, true, (m ++ [(kk, (⟨yk, yn, ys, yl, yks⟩ : V))]), (c + 1), (some ⟨ga, 0, none⟩), capa, (some ⟨ha, 0, none⟩), cap6a, hkn.out, rfl, by go_num, H7a, Lib.hid (HR2.out)⟩
            case measure => have := hkn.out; simp [intOf]; omega
        · rw [if_pos (by rfl)]
          go_simp
          refine hK.out _ _ ((SEa.out _ Qaa.out).1) (fun hHeld => ?_)
          clear hK K
          refine Go.wpAnyH_ready (rs := [1]) (by kernel_rfl) (by simp) ?_
          refine Go.AllReadyH.cons rfl (fun K hK => ?_) Go.AllReadyH.nil
          rw [if_pos (by rfl)]
          go_simp
          refine hK.out _ _ ((SEa.out _ Qaa.out).1) (fun hHeld => ?_)
          clear hK K
          refine Go.wpAnyH_ready (rs := [8]) (by kernel_rfl) (by simp) ?_
          refine Go.AllReadyH.cons rfl (fun K hK => ?_) Go.AllReadyH.nil
          refine step_str (by rfl) _ _ (by rfl) wf.heap.size (.slice AK c cK) c _ rfl OWa.out.1 ⟨wr.drew.heap.size, 0, none⟩ rfl (.string kk) (lit_one _ _ _) rfl (by omega) OWa.out.2 _ rfl ?_
          intro ga capa w4a O4 G4 hg4
          obtain ⟨HH, hb4⟩ := HM2a.out.push kk O4 G4 hg4
          have q4a : Hid (Q w1 w4a) := Lib.hid (by obtain ⟨_, t⟩ := HM2a.out.own; exact Q4.tw Q1F.out (Nat.le_of_eq HS.out.1) t G4)
          clear O4 G4 hg4
          refine hK.out _ _ ((SEa.out _ q4a.out).1) (fun hHeld => ?_)
          clear hK K
          refine Go.wpAnyH_take (i := 9) (oi := _) (v := ?_) rfl (by kernel_rfl) (by kernel_rfl) (by kernel_rfl) (fun _ _ _ h => h) (Or.inl ⟨by rfl, ?_⟩) (by assumption) ?_
          rotate_left 1
          · intro wx hSw
            go_simp <;> with_reducible rfl
          simp only [Act.put, List.getElem_toArray, List.getElem_cons_zero, List.getElem_cons_succ, List.setIfInBounds_toArray, List.set_cons_zero, List.set_cons_succ]
          have sCa := hb4.at 4 _ rfl
          have fCa := hb4.frozen 4
          have H5 := Lib.hid HH
          clear HH
          have Q5a : Hid (Q w1 (w4a.setCell ⟨S, 4, none⟩ (.slice (some ⟨ga, 0, none⟩) (c + 1) capa))) := Lib.hid (H5.out.grown Q1F.out (Nat.le_of_eq HS.out.1))
          refine Go.wpAnyH_ready (rs := [10]) (by kernel_rfl) (by simp) ?_
          refine Go.AllReadyH.cons rfl (fun K hK => ?_) Go.AllReadyH.nil
          rw [if_pos (by rfl)]
          go_simp
          refine hK.out _ _ ((SEa.out _ Q5a.out).1) (fun hHeld => ?_)
          clear hK K
          refine Go.wpAnyH_done (by kernel_rfl) ?_ _
          obtain ⟨w5a, hw5a⟩ : ∃ x, w4a.setCell ⟨S, 4, none⟩ (.slice (some ⟨ga, 0, none⟩) (c + 1) capa) = x := ⟨_, rfl⟩
          rw [hw5a] at H5 Q5a ⊢
          clear hw5a sCa fCa hb4 q4a sAa sBa sBqa OWa HM2a Qwa Qaa hHeld
          obtain ⟨wda, hwda⟩ : ∃ x, x = w5a.drew := ⟨_, rfl⟩
          have qda : Q w5a wda := by rw [hwda]; exact Q.drew _
          obtain ⟨waa, hwaa⟩ : ∃ x, x = wda.alloc (.cells #[.int .i64 yk, .int .i64 yn, .string ys, .slice Y3 n5 y3, .slice Y4 n6 y4] 26) := ⟨_, rfl⟩
          have qaa : Q wda waa := by rw [hwaa]; exact Q.box _ _
          have HMaa := Lib.hid (H5.out.quiet (qda.trans qaa))
          rw [hwda] at hwaa
          have Qwa : Hid (Q w1 w5a.drew) := Lib.hid (by rw [← hwda]; exact Q5a.out.trans qda)
          have Qaa : Hid (Q w1 (w5a.drew.alloc (.cells #[.int .i64 yk, .int .i64 yn, .string ys, .slice Y3 n5 y3, .slice Y4 n6 y4] 26))) := Lib.hid (by rw [← hwaa]; exact Q5a.out.trans (qda.trans qaa))
          have sEa := H5.out.bk.at 3 _ rfl
          have sFa : (w5a.drew.alloc (.cells #[.int .i64 yk, .int .i64 yn, .string ys, .slice Y3 n5 y3, .slice Y4 n6 y4] 26)).cell? ⟨S, 3, none⟩ = some (.slice AI c cI) := by rw [← hwaa]; exact HMaa.out.bk.at 3 _ rfl
          have sFqa : (w5a.alloc (.cells #[.int .i64 yk, .int .i64 yn, .string ys, .slice Y3 n5 y3, .slice Y4 n6 y4] 26)).cell? ⟨S, 3, none⟩ = some (.slice AI c cI) := cell_stays (Q.box _ _) (H5.out.bk.at 3 _ rfl)
          obtain ⟨xs6, T6⟩ : ∃ xs6, Hid (m.length = c ∧ Tw S 9 1 (.slice (some ⟨ga, 0, none⟩) (c + 1) capa) (c + 1) (m.map (fun b => .string b.1) ++ [.string kk]) 26 5 (.slice AI c cI) c xs6 wf (w5a.drew.alloc (.cells #[.int .i64 yk, .int .i64 yn, .string ys, .slice Y3 n5 y3, .slice Y4 n6 y4] 26)) ∧ Rw m xs6 (eo p w) ∧ Bk S #[.int .i64 5, .int .i64 0, .string ⟨#[]⟩, .slice AI c cI, .slice (some ⟨ga, 0, none⟩) (c + 1) capa] 26 (w5a.drew.alloc (.cells #[.int .i64 yk, .int .i64 yn, .string ys, .slice Y3 n5 y3, .slice Y4 n6 y4] 26))) := by
            obtain ⟨hl6, ⟨xs6, tw6, rw6⟩, bk6⟩ := HMaa.out
            rw [hwaa] at tw6 bk6
            exact ⟨xs6, Lib.hid ⟨hl6, tw6, rw6, bk6⟩⟩
          have OXa := Lib.hid (And.intro T6.out.2.1.own2 T6.out.2.1.q.size)
          clear qda HMaa qaa hwaa hwda waa wda H5 Q5a
          go_wp2_with fail
          refine Go.wp_region_held_drew (S := fun w' => w'.cell? ⟨B, 3, none⟩ = some (.slice (some ⟨bi, oi, none⟩) n k3) ∧ w'.cell? ⟨bi, oi + k * 5, none⟩ = some (.int .i64 yk) ∧ w'.cell? ⟨bi, oi + k * 5 + 1, none⟩ = some (.int .i64 yn) ∧ w'.cell? ⟨bi, oi + k * 5 + 2, none⟩ = some (.string ys) ∧ w'.cell? ⟨bi, oi + k * 5 + 3, none⟩ = some (.slice Y3 n5 y3) ∧ w'.cell? ⟨bi, oi + k * 5 + 4, none⟩ = some (.slice Y4 n6 y4)) (by kernel_rfl) ((SEa.out _ Qwa.out).2) (fun hHeld => ?_)
          refine Go.wpAnyH_take (i := 0) (oi := _) (v := ?_) rfl (by kernel_rfl) (by kernel_rfl) (by kernel_rfl) (fun _ _ _ h => h) (Or.inl ⟨by rfl, ?_⟩) (by assumption) ?_
          rotate_left 1
          · intro wx hSw
            go_simp <;> with_reducible rfl
          simp only [Act.put, List.getElem_toArray, List.getElem_cons_zero, List.setIfInBounds_toArray, List.set_cons_zero, List.set_cons_succ]
          refine Go.wpAnyH_take (i := 2) (oi := _) (v := ?_) rfl (by kernel_rfl) (by kernel_rfl) (by kernel_rfl) (fun _ _ _ h => h) (Or.inl ⟨by rfl, ?_⟩) (by assumption) ?_
          rotate_left 1
          · intro wx hSw
            go_simp <;> with_reducible rfl
          simp only [Act.put, List.getElem_toArray, List.getElem_cons_zero, List.getElem_cons_succ, List.setIfInBounds_toArray, List.set_cons_zero, List.set_cons_succ]
          refine Go.wpAnyH_take (i := 3) (oi := _) (v := ?_) rfl (by kernel_rfl) (by kernel_rfl) (by kernel_rfl) (fun _ _ _ h => h) (Or.inl ⟨by rfl, ?_⟩) (by assumption) ?_
          rotate_left 1
          · intro wx hSw
            go_simp <;> with_reducible rfl
          simp only [Act.put, List.getElem_toArray, List.getElem_cons_zero, List.getElem_cons_succ, List.setIfInBounds_toArray, List.set_cons_zero, List.set_cons_succ]
          refine Go.wpAnyH_take (i := 4) (oi := _) (v := ?_) rfl (by kernel_rfl) (by kernel_rfl) (by kernel_rfl) (fun _ _ _ h => h) (Or.inl ⟨by rfl, ?_⟩) (by assumption) ?_
          rotate_left 1
          · intro wx hSw
            go_simp <;> with_reducible rfl
          simp only [Act.put, List.getElem_toArray, List.getElem_cons_zero, List.getElem_cons_succ, List.setIfInBounds_toArray, List.set_cons_zero, List.set_cons_succ]
          refine Go.wpAnyH_take (i := 5) (oi := _) (v := ?_) rfl (by kernel_rfl) (by kernel_rfl) (by kernel_rfl) (fun _ _ _ h => h) (Or.inl ⟨by rfl, ?_⟩) (by assumption) ?_
          rotate_left 1
          · intro wx hSw
            go_simp <;> with_reducible rfl
          simp only [Act.put, List.getElem_toArray, List.getElem_cons_zero, List.getElem_cons_succ, List.setIfInBounds_toArray, List.set_cons_zero, List.set_cons_succ]
          refine Go.wpAnyH_take (i := 6) (oi := _) (v := ?_) rfl (by kernel_rfl) (by kernel_rfl) (by kernel_rfl) (fun _ _ _ h => h) (Or.inl ⟨by rfl, ?_⟩) (by assumption) ?_
          rotate_left 1
          · intro wx hSw
            go_simp <;> with_reducible rfl
          simp only [Act.put, List.getElem_toArray, List.getElem_cons_zero, List.getElem_cons_succ, List.setIfInBounds_toArray, List.set_cons_zero, List.set_cons_succ]
          refine Go.wpAnyH_ready (rs := [1, 7]) (by kernel_rfl) (by simp) ?_
          refine Go.AllReadyH.cons rfl (fun K hK => ?_) (Go.AllReadyH.cons rfl (fun K hK => ?_) Go.AllReadyH.nil)
          · rw [if_pos (by rfl)]
            go_simp
            refine hK.out _ _ ((SEa.out _ Qwa.out).2) (fun hHeld => ?_)
            clear hK K
            refine Go.wpAnyH_ready (rs := [7]) (by kernel_rfl) (by simp) ?_
            refine Go.AllReadyH.cons rfl (fun K hK => ?_) Go.AllReadyH.nil
            rw [if_pos (by rfl)]
            go_simp
            refine hK.out _ _ ((SEa.out _ Qaa.out).2) (fun hHeld => ?_)
            clear hK K
            refine Go.wpAnyH_ready (rs := [8]) (by kernel_rfl) (by simp) ?_
            refine Go.AllReadyH.cons rfl (fun K hK => ?_) Go.AllReadyH.nil
            refine step_val (by rfl) _ _ (by rfl) wf.heap.size (.slice AI c cI) c xs6 rfl OXa.out.1 w5a.drew.heap.size rfl #[.int .i64 yk, .int .i64 yn, .string ys, .slice Y3 n5 y3, .slice Y4 n6 y4] rfl (heap_alloc_new _ _) (five_one _ _ _ _ _ _ _ _ _) (by omega) OXa.out.2 _ rfl ?_
            intro ha cap6a w6a O6 G6 hg6
            obtain ⟨HH, hb6⟩ := OH.push T6.out.1 T6.out.2.1 T6.out.2.2.1 T6.out.2.2.2 (⟨yk, yn, ys, yl, yks⟩ : V) HY.out.1 HY.out.2 O6 G6 hg6
            have q6a : Hid (Q w1 w6a) := Lib.hid (Q4.tw Q1F.out (Nat.le_of_eq HS.out.1) T6.out.2.1.swap G6)
            clear O6 G6 hg6
            refine hK.out _ _ ((SEa.out _ q6a.out).2) (fun hHeld => ?_)
            clear hK K
            refine Go.wpAnyH_take (i := 9) (oi := _) (v := ?_) rfl (by kernel_rfl) (by kernel_rfl) (by kernel_rfl) (fun _ _ _ h => h) (Or.inl ⟨by rfl, ?_⟩) (by assumption) ?_
            rotate_left 1
            · intro wx hSw
              go_simp <;> with_reducible rfl
            simp only [Act.put, List.getElem_toArray, List.getElem_cons_zero, List.getElem_cons_succ, List.setIfInBounds_toArray, List.set_cons_zero, List.set_cons_succ]
            have sGa := hb6.at 3 _ rfl
            have fGa := hb6.frozen 3
            have H7 := Lib.hid HH
            clear HH
            have Q7a : Hid (Q w1 (w6a.setCell ⟨S, 3, none⟩ (.slice (some ⟨ha, 0, none⟩) (c + 1) cap6a))) := Lib.hid (H7.out.grown Q1F.out (Nat.le_of_eq HS.out.1))
            refine Go.wpAnyH_ready (rs := [10]) (by kernel_rfl) (by simp) ?_
            refine Go.AllReadyH.cons rfl (fun K hK => ?_) Go.AllReadyH.nil
            rw [if_pos (by rfl)]
            go_simp
            refine hK.out _ _ ((SEa.out _ Q7a.out).2) (fun hHeld => ?_)
            clear hK K
            refine Go.wpAnyH_done (by kernel_rfl) ?_ _
            obtain ⟨w7a, hw7a⟩ : ∃ x, w6a.setCell ⟨S, 3, none⟩ (.slice (some ⟨ha, 0, none⟩) (c + 1) cap6a) = x := ⟨_, rfl⟩
            rw [hw7a] at H7 Q7a ⊢
            have H7a := H7
            clear hw7a sGa fGa hb6 q6a sEa sFa sFqa OXa T6 Qwa Qaa hHeld SEa H7
            go_wp2_with fail
            go_roundw
            case rel => exact ⟨k + 1, true, (m ++ [(kk, (⟨yk, yn, ys, yl, yks⟩ : V))]), (c + 1), (some ⟨ga, 0, none⟩), capa, (some ⟨ha, 0, none⟩), cap6a, hkn.out, rfl, by go_num, H7a, Lib.hid (HR2.out)⟩
            case measure => have := hkn.out; simp [intOf]; omega
          · rw [if_pos (by rfl)]
            go_simp
            refine hK.out _ _ ((SEa.out _ Qaa.out).2) (fun hHeld => ?_)
            clear hK K
            refine Go.wpAnyH_ready (rs := [1]) (by kernel_rfl) (by simp) ?_
            refine Go.AllReadyH.cons rfl (fun K hK => ?_) Go.AllReadyH.nil
            rw [if_pos (by rfl)]
            go_simp
            refine hK.out _ _ ((SEa.out _ Qaa.out).2) (fun hHeld => ?_)
            clear hK K
            refine Go.wpAnyH_ready (rs := [8]) (by kernel_rfl) (by simp) ?_
            refine Go.AllReadyH.cons rfl (fun K hK => ?_) Go.AllReadyH.nil
            refine step_val (by rfl) _ _ (by rfl) wf.heap.size (.slice AI c cI) c xs6 rfl OXa.out.1 w5a.drew.heap.size rfl #[.int .i64 yk, .int .i64 yn, .string ys, .slice Y3 n5 y3, .slice Y4 n6 y4] rfl (heap_alloc_new _ _) (five_one _ _ _ _ _ _ _ _ _) (by omega) OXa.out.2 _ rfl ?_
            intro ha cap6a w6a O6 G6 hg6
            obtain ⟨HH, hb6⟩ := OH.push T6.out.1 T6.out.2.1 T6.out.2.2.1 T6.out.2.2.2 (⟨yk, yn, ys, yl, yks⟩ : V) HY.out.1 HY.out.2 O6 G6 hg6
            have q6a : Hid (Q w1 w6a) := Lib.hid (Q4.tw Q1F.out (Nat.le_of_eq HS.out.1) T6.out.2.1.swap G6)
            clear O6 G6 hg6
            refine hK.out _ _ ((SEa.out _ q6a.out).2) (fun hHeld => ?_)
            clear hK K
            refine Go.wpAnyH_take (i := 9) (oi := _) (v := ?_) rfl (by kernel_rfl) (by kernel_rfl) (by kernel_rfl) (fun _ _ _ h => h) (Or.inl ⟨by rfl, ?_⟩) (by assumption) ?_
            rotate_left 1
            · intro wx hSw
              go_simp <;> with_reducible rfl
            simp only [Act.put, List.getElem_toArray, List.getElem_cons_zero, List.getElem_cons_succ, List.setIfInBounds_toArray, List.set_cons_zero, List.set_cons_succ]
            have sGa := hb6.at 3 _ rfl
            have fGa := hb6.frozen 3
            have H7 := Lib.hid HH
            clear HH
            have Q7a : Hid (Q w1 (w6a.setCell ⟨S, 3, none⟩ (.slice (some ⟨ha, 0, none⟩) (c + 1) cap6a))) := Lib.hid (H7.out.grown Q1F.out (Nat.le_of_eq HS.out.1))
            refine Go.wpAnyH_ready (rs := [10]) (by kernel_rfl) (by simp) ?_
            refine Go.AllReadyH.cons rfl (fun K hK => ?_) Go.AllReadyH.nil
            rw [if_pos (by rfl)]
            go_simp
            refine hK.out _ _ ((SEa.out _ Q7a.out).2) (fun hHeld => ?_)
            clear hK K
            refine Go.wpAnyH_done (by kernel_rfl) ?_ _
            obtain ⟨w7a, hw7a⟩ : ∃ x, w6a.setCell ⟨S, 3, none⟩ (.slice (some ⟨ha, 0, none⟩) (c + 1) cap6a) = x := ⟨_, rfl⟩
            rw [hw7a] at H7 Q7a ⊢
            have H7a := H7
            clear hw7a sGa fGa hb6 q6a sEa sFa sFqa OXa T6 Qwa Qaa hHeld SEa H7
            go_wp2_with fail
            go_roundw
            case rel => exact ⟨k + 1, true, (m ++ [(kk, (⟨yk, yn, ys, yl, yks⟩ : V))]), (c + 1), (some ⟨ga, 0, none⟩), capa, (some ⟨ha, 0, none⟩), cap6a, hkn.out, rfl, by go_num, H7a, Lib.hid (HR2.out)⟩
            case measure => have := hkn.out; simp [intOf]; omega
    | false =>
      by_cases hl : cT kk key < 0
      · have e3 : (kk.toList == key.toList) = false := by rw [same_cT]; exact decide_eq_false (by omega)
        have e4 : Op.bytesLess kk.toList key.toList = true := by rw [less_cT']; exact decide_eq_true hl
        have HR2 : Hid ((m ++ [(kk, (⟨yk, yn, ys, yl, yks⟩ : V))]) ++ rputL false ((ks.drop (k + 1)).zip (l.drop (k + 1))) key (⟨xk, xn, xs, xl, xks⟩ : V) = r) := Lib.hid (by
          have h := HRn.out
          rw [if_neg (fun g => by have := g.2; omega), if_neg (by omega), Bool.false_or, decide_eq_false (by omega), List.nil_append] at h
          rw [List.append_assoc]
          exact h)
        clear HRn hl
        go_wp2_with fail
        have hca := HC.out c m HM.out.len (hHC.out.1)
        obtain ⟨wda, hwda⟩ : ∃ x, x = wr.drew := ⟨_, rfl⟩
        have qda : Q wr wda := by rw [hwda]; exact Q.drew _
        have HMda := Lib.hid (HM.out.quiet qda)
        have SEa : Hid (∀ w', Q w1 w' → (fun w' : World => w'.cell? ⟨B, 4, none⟩ = some (.slice (some ⟨b, o, none⟩) n k4) ∧ w'.cell? ⟨b, o + k, none⟩ = some (.string kk)) w' ∧ (fun w' : World => w'.cell? ⟨B, 3, none⟩ = some (.slice (some ⟨bi, oi, none⟩) n k3) ∧ w'.cell? ⟨bi, oi + k * 5, none⟩ = some (.int .i64 yk) ∧ w'.cell? ⟨bi, oi + k * 5 + 1, none⟩ = some (.int .i64 yn) ∧ w'.cell? ⟨bi, oi + k * 5 + 2, none⟩ = some (.string ys) ∧ w'.cell? ⟨bi, oi + k * 5 + 3, none⟩ = some (.slice Y3 n5 y3) ∧ w'.cell? ⟨bi, oi + k * 5 + 4, none⟩ = some (.slice Y4 n6 y4)) w') := Lib.hid (fun w' q => ⟨⟨cell_stays q SV.out.2.1, cell_stays q SV.out.2.2.1⟩, ⟨cell_stays q SV.out.1, cell_stays q SV.out.2.2.2.1, cell_stays q SV.out.2.2.2.2.1, cell_stays q SV.out.2.2.2.2.2.1, cell_stays q SV.out.2.2.2.2.2.2.1, cell_stays q SV.out.2.2.2.2.2.2.2⟩⟩)
        have Qda : Hid (Q w1 wda) := Lib.hid (HMda.out.grown Q1F.out (Nat.le_of_eq HS.out.1))
        have sAa := HM.out.bk.at 4 _ rfl
        obtain ⟨waa, hwaa⟩ : ∃ x, x = wda.alloc (.cells #[.string kk] 9) := ⟨_, rfl⟩
        have qaa : Q wda waa := by rw [hwaa]; exact Q.box _ _
        have HMaa := Lib.hid (HMda.out.quiet qaa)
        rw [hwda] at hwaa
        have Qaa : Hid (Q w1 (wr.drew.alloc (.cells #[.string kk] 9))) := Lib.hid (by rw [← hwaa]; exact Qda.out.trans qaa)
        have sBa : (wr.drew.alloc (.cells #[.string kk] 9)).cell? ⟨S, 4, none⟩ = some (.slice AK c cK) := by rw [← hwaa]; exact HMaa.out.bk.at 4 _ rfl
        have sBqa : (wr.alloc (.cells #[.string kk] 9)).cell? ⟨S, 4, none⟩ = some (.slice AK c cK) := cell_stays (Q.box _ _) (HM.out.bk.at 4 _ rfl)
        have OWa : Hid ((wr.drew.alloc (.cells #[.string kk] 9)).ownsRow wf.heap.size 9 1 (.slice AK c cK) c (m.map (fun b => .string b.1)) ∧ wf.heap.size ≤ (wr.drew.alloc (.cells #[.string kk] 9)).heap.size) := Lib.hid (by rw [← hwaa]; obtain ⟨_, ⟨_, t, _⟩, _⟩ := HMaa.out; exact ⟨t.own1, t.q.size⟩)
        have HM2a : Hid (OM p m S AK cK AI cI c w wf (wr.drew.alloc (.cells #[.string kk] 9))) := Lib.hid (by rw [← hwaa]; exact HMaa.out)
        have Qwa : Hid (Q w1 wr.drew) := Lib.hid (by rw [← hwda]; exact Qda.out)
        clear qda HMda Qda HMaa qaa hwaa hwda waa wda
        go_wp2_with fail
        refine Go.wp_region_held_drew (S := fun w' => w'.cell? ⟨B, 4, none⟩ = some (.slice (some ⟨b, o, none⟩) n k4) ∧ w'.cell? ⟨b, o + k, none⟩ = some (.string kk)) (by kernel_rfl) ((SEa.out _ Qwa.out).1) (fun hHeld => ?_)
        refine Go.wpAnyH_take (i := 0) (oi := _) (v := ?_) rfl (by kernel_rfl) (by kernel_rfl) (by kernel_rfl) (fun _ _ _ h => h) (Or.inl ⟨by rfl, ?_⟩) (by assumption) ?_
        rotate_left 1
        · intro wx hSw
          go_simp <;> with_reducible rfl
        simp only [Act.put, List.getElem_toArray, List.getElem_cons_zero, List.setIfInBounds_toArray, List.set_cons_zero, List.set_cons_succ]
        refine Go.wpAnyH_take (i := 2) (oi := _) (v := ?_) rfl (by kernel_rfl) (by kernel_rfl) (by kernel_rfl) (fun _ _ _ h => h) (Or.inl ⟨by rfl, ?_⟩) (by assumption) ?_
        rotate_left 1
        · intro wx hSw
          go_simp <;> with_reducible rfl
        simp only [Act.put, List.getElem_toArray, List.getElem_cons_zero, List.getElem_cons_succ, List.setIfInBounds_toArray, List.set_cons_zero, List.set_cons_succ]
        refine Go.wpAnyH_take (i := 3) (oi := _) (v := ?_) rfl (by kernel_rfl) (by kernel_rfl) (by kernel_rfl) (fun _ _ _ h => h) (Or.inl ⟨by rfl, ?_⟩) (by assumption) ?_
        rotate_left 1
        · intro wx hSw
          go_simp <;> with_reducible rfl
        simp only [Act.put, List.getElem_toArray, List.getElem_cons_zero, List.getElem_cons_succ, List.setIfInBounds_toArray, List.set_cons_zero, List.set_cons_succ]
        refine Go.wpAnyH_take (i := 4) (oi := _) (v := ?_) rfl (by kernel_rfl) (by kernel_rfl) (by kernel_rfl) (fun _ _ _ h => h) (Or.inl ⟨by rfl, ?_⟩) (by assumption) ?_
        rotate_left 1
        · intro wx hSw
          go_simp <;> with_reducible rfl
        simp only [Act.put, List.getElem_toArray, List.getElem_cons_zero, List.getElem_cons_succ, List.setIfInBounds_toArray, List.set_cons_zero, List.set_cons_succ]
        refine Go.wpAnyH_take (i := 5) (oi := _) (v := ?_) rfl (by kernel_rfl) (by kernel_rfl) (by kernel_rfl) (fun _ _ _ h => h) (Or.inl ⟨by rfl, ?_⟩) (by assumption) ?_
        rotate_left 1
        · intro wx hSw
          go_simp <;> with_reducible rfl
        simp only [Act.put, List.getElem_toArray, List.getElem_cons_zero, List.getElem_cons_succ, List.setIfInBounds_toArray, List.set_cons_zero, List.set_cons_succ]
        refine Go.wpAnyH_take (i := 6) (oi := _) (v := ?_) rfl (by kernel_rfl) (by kernel_rfl) (by kernel_rfl) (fun _ _ _ h => h) (Or.inl ⟨by rfl, ?_⟩) (by assumption) ?_
        rotate_left 1
        · intro wx hSw
          go_simp <;> with_reducible rfl
        simp only [Act.put, List.getElem_toArray, List.getElem_cons_zero, List.getElem_cons_succ, List.setIfInBounds_toArray, List.set_cons_zero, List.set_cons_succ]
        refine Go.wpAnyH_ready (rs := [1, 7]) (by kernel_rfl) (by simp) ?_
        refine Go.AllReadyH.cons rfl (fun K hK => ?_) (Go.AllReadyH.cons rfl (fun K hK => ?_) Go.AllReadyH.nil)
        · rw [if_pos (by rfl)]
          go_simp
          refine hK.out _ _ ((SEa.out _ Qwa.out).1) (fun hHeld => ?_)
          clear hK K
          refine Go.wpAnyH_ready (rs := [7]) (by kernel_rfl) (by simp) ?_
          refine Go.AllReadyH.cons rfl (fun K hK => ?_) Go.AllReadyH.nil
          rw [if_pos (by rfl)]
          go_simp
          refine hK.out _ _ ((SEa.out _ Qaa.out).1) (fun hHeld => ?_)
          clear hK K
          refine Go.wpAnyH_ready (rs := [8]) (by kernel_rfl) (by simp) ?_
          refine Go.AllReadyH.cons rfl (fun K hK => ?_) Go.AllReadyH.nil
          refine step_str (by rfl) _ _ (by rfl) wf.heap.size (.slice AK c cK) c _ rfl OWa.out.1 ⟨wr.drew.heap.size, 0, none⟩ rfl (.string kk) (lit_one _ _ _) rfl (by omega) OWa.out.2 _ rfl ?_
          intro ga capa w4a O4 G4 hg4
          obtain ⟨HH, hb4⟩ := HM2a.out.push kk O4 G4 hg4
          have q4a : Hid (Q w1 w4a) := Lib.hid (by obtain ⟨_, t⟩ := HM2a.out.own; exact Q4.tw Q1F.out (Nat.le_of_eq HS.out.1) t G4)
          clear O4 G4 hg4
          refine hK.out _ _ ((SEa.out _ q4a.out).1) (fun hHeld => ?_)
          clear hK K
          refine Go.wpAnyH_take (i := 9) (oi := _) (v := ?_) rfl (by kernel_rfl) (by kernel_rfl) (by kernel_rfl) (fun _ _ _ h => h) (Or.inl ⟨by rfl, ?_⟩) (by assumption) ?_
          rotate_left 1
          · intro wx hSw
            go_simp <;> with_reducible rfl
          simp only [Act.put, List.getElem_toArray, List.getElem_cons_zero, List.getElem_cons_succ, List.setIfInBounds_toArray, List.set_cons_zero, List.set_cons_succ]
          have sCa := hb4.at 4 _ rfl
          have fCa := hb4.frozen 4
          have H5 := Lib.hid HH
          clear HH
          have Q5a : Hid (Q w1 (w4a.setCell ⟨S, 4, none⟩ (.slice (some ⟨ga, 0, none⟩) (c + 1) capa))) := Lib.hid (H5.out.grown Q1F.out (Nat.le_of_eq HS.out.1))
          refine Go.wpAnyH_ready (rs := [10]) (by kernel_rfl) (by simp) ?_
          refine Go.AllReadyH.cons rfl (fun K hK => ?_) Go.AllReadyH.nil
          rw [if_pos (by rfl)]
          go_simp
          refine hK.out _ _ ((SEa.out _ Q5a.out).1) (fun hHeld => ?_)
          clear hK K
          refine Go.wpAnyH_done (by kernel_rfl) ?_ _
          obtain ⟨w5a, hw5a⟩ : ∃ x, w4a.setCell ⟨S, 4, none⟩ (.slice (some ⟨ga, 0, none⟩) (c + 1) capa) = x := ⟨_, rfl⟩
          rw [hw5a] at H5 Q5a ⊢
          clear hw5a sCa fCa hb4 q4a sAa sBa sBqa OWa HM2a Qwa Qaa hHeld
          obtain ⟨wda, hwda⟩ : ∃ x, x = w5a.drew := ⟨_, rfl⟩
          have qda : Q w5a wda := by rw [hwda]; exact Q.drew _
          obtain ⟨waa, hwaa⟩ : ∃ x, x = wda.alloc (.cells #[.int .i64 yk, .int .i64 yn, .string ys, .slice Y3 n5 y3, .slice Y4 n6 y4] 26) := ⟨_, rfl⟩
          have qaa : Q wda waa := by rw [hwaa]; exact Q.box _ _
          have HMaa := Lib.hid (H5.out.quiet (qda.trans qaa))
          rw [hwda] at hwaa
          have Qwa : Hid (Q w1 w5a.drew) := Lib.hid (by rw [← hwda]; exact Q5a.out.trans qda)
          have Qaa : Hid (Q w1 (w5a.drew.alloc (.cells #[.int .i64 yk, .int .i64 yn, .string ys, .slice Y3 n5 y3, .slice Y4 n6 y4] 26))) := Lib.hid (by rw [← hwaa]; exact Q5a.out.trans (qda.trans qaa))
          have sEa := H5.out.bk.at 3 _ rfl
          have sFa : (w5a.drew.alloc (.cells #[.int .i64 yk, .int .i64 yn, .string ys, .slice Y3 n5 y3, .slice Y4 n6 y4] 26)).cell? ⟨S, 3, none⟩ = some (.slice AI c cI) := by rw [← hwaa]; exact HMaa.out.bk.at 3 _ rfl
          have sFqa : (w5a.alloc (.cells #[.int .i64 yk, .int .i64 yn, .string ys, .slice Y3 n5 y3, .slice Y4 n6 y4] 26)).cell? ⟨S, 3, none⟩ = some (.slice AI c cI) := cell_stays (Q.box _ _) (H5.out.bk.at 3 _ rfl)
          obtain ⟨xs6, T6⟩ : ∃ xs6, Hid (m.length = c ∧ Tw S 9 1 (.slice (some ⟨ga, 0, none⟩) (c + 1) capa) (c + 1) (m.map (fun b => .string b.1) ++ [.string kk]) 26 5 (.slice AI c cI) c xs6 wf (w5a.drew.alloc (.cells #[.int .i64 yk, .int .i64 yn, .string ys, .slice Y3 n5 y3, .slice Y4 n6 y4] 26)) ∧ Rw m xs6 (eo p w) ∧ Bk S #[.int .i64 5, .int .i64 0, .string ⟨#[]⟩, .slice AI c cI, .slice (some ⟨ga, 0, none⟩) (c + 1) capa] 26 (w5a.drew.alloc (.cells #[.int .i64 yk, .int .i64 yn, .string ys, .slice Y3 n5 y3, .slice Y4 n6 y4] 26))) := by
            obtain ⟨hl6, ⟨xs6, tw6, rw6⟩, bk6⟩ := HMaa.out
            rw [hwaa] at tw6 bk6
            exact ⟨xs6, Lib.hid ⟨hl6, tw6, rw6, bk6⟩⟩
          have OXa := Lib.hid (And.intro T6.out.2.1.own2 T6.out.2.1.q.size)
          clear qda HMaa qaa hwaa hwda waa wda H5 Q5a
          go_wp2_with fail
          refine Go.wp_region_held_drew (S := fun w' => w'.cell? ⟨B, 3, none⟩ = some (.slice (some ⟨bi, oi, none⟩) n k3) ∧ w'.cell? ⟨bi, oi + k * 5, none⟩ = some (.int .i64 yk) ∧ w'.cell? ⟨bi, oi + k * 5 + 1, none⟩ = some (.int .i64 yn) ∧ w'.cell? ⟨bi, oi + k * 5 + 2, none⟩ = some (.string ys) ∧ w'.cell? ⟨bi, oi + k * 5 + 3, none⟩ = some (.slice Y3 n5 y3) ∧ w'.cell? ⟨bi, oi + k * 5 + 4, none⟩ = some (.slice Y4 n6 y4)) (by kernel_rfl) ((SEa.out _ Qwa.out).2) (fun hHeld => ?_)
          refine Go.wpAnyH_take (i := 0) (oi := _) (v := ?_) rfl (by kernel_rfl) (by kernel_rfl) (by kernel_rfl) (fun _ _ _ h => h) (Or.inl ⟨by rfl, ?_⟩) (by assumption) ?_
          rotate_left 1
          · intro wx hSw
            go_simp <;> with_reducible rfl
          simp only [Act.put, List.getElem_toArray, List.getElem_cons_zero, List.setIfInBounds_toArray, List.set_cons_zero, List.set_cons_succ]
          refine Go.wpAnyH_take (i := 2) (oi := _) (v := ?_) rfl (by kernel_rfl) (by kernel_rfl) (by kernel_rfl) (fun _ _ _ h => h) (Or.inl ⟨by rfl, ?_⟩) (by assumption) ?_
          rotate_left 1
          · intro wx hSw
            go_simp <;> with_reducible rfl
          simp only [Act.put, List.getElem_toArray, List.getElem_cons_zero, List.getElem_cons_succ, List.setIfInBounds_toArray, List.set_cons_zero, List.set_cons_succ]
          refine Go.wpAnyH_take (i := 3) (oi := _) (v := ?_) rfl (by kernel_rfl) (by kernel_rfl) (by kernel_rfl) (fun _ _ _ h => h) (Or.inl ⟨by rfl, ?_⟩) (by assumption) ?_
          rotate_left 1
          · intro wx hSw
            go_simp <;> with_reducible rfl
          simp only [Act.put, List.getElem_toArray, List.getElem_cons_zero, List.getElem_cons_succ, List.setIfInBounds_toArray, List.set_cons_zero, List.set_cons_succ]
          refine Go.wpAnyH_take (i := 4) (oi := _) (v := ?_) rfl (by kernel_rfl) (by kernel_rfl) (by kernel_rfl) (fun _ _ _ h => h) (Or.inl ⟨by rfl, ?_⟩) (by assumption) ?_
          rotate_left 1
          · intro wx hSw
            go_simp <;> with_reducible rfl
          simp only [Act.put, List.getElem_toArray, List.getElem_cons_zero, List.getElem_cons_succ, List.setIfInBounds_toArray, List.set_cons_zero, List.set_cons_succ]
          refine Go.wpAnyH_take (i := 5) (oi := _) (v := ?_) rfl (by kernel_rfl) (by kernel_rfl) (by kernel_rfl) (fun _ _ _ h => h) (Or.inl ⟨by rfl, ?_⟩) (by assumption) ?_
          rotate_left 1
          · intro wx hSw
            go_simp <;> with_reducible rfl
          simp only [Act.put, List.getElem_toArray, List.getElem_cons_zero, List.getElem_cons_succ, List.setIfInBounds_toArray, List.set_cons_zero, List.set_cons_succ]
          refine Go.wpAnyH_take (i := 6) (oi := _) (v := ?_) rfl (by kernel_rfl) (by kernel_rfl) (by kernel_rfl) (fun _ _ _ h => h) (Or.inl ⟨by rfl, ?_⟩) (by assumption) ?_
          rotate_left 1
          · intro wx hSw
            go_simp <;> with_reducible rfl
          simp only [Act.put, List.getElem_toArray, List.getElem_cons_zero, List.getElem_cons_succ, List.setIfInBounds_toArray, List.set_cons_zero, List.set_cons_succ]
          refine Go.wpAnyH_ready (rs := [1, 7]) (by kernel_rfl) (by simp) ?_
          refine Go.AllReadyH.cons rfl (fun K hK => ?_) (Go.AllReadyH.cons rfl (fun K hK => ?_) Go.AllReadyH.nil)
          · rw [if_pos (by rfl)]
            go_simp
            refine hK.out _ _ ((SEa.out _ Qwa.out).2) (fun hHeld => ?_)
            clear hK K
            refine Go.wpAnyH_ready (rs := [7]) (by kernel_rfl) (by simp) ?_
            refine Go.AllReadyH.cons rfl (fun K hK => ?_) Go.AllReadyH.nil
            rw [if_pos (by rfl)]
            go_simp
            refine hK.out _ _ ((SEa.out _ Qaa.out).2) (fun hHeld => ?_)
            clear hK K
            refine Go.wpAnyH_ready (rs := [8]) (by kernel_rfl) (by simp) ?_
            refine Go.AllReadyH.cons rfl (fun K hK => ?_) Go.AllReadyH.nil
            refine step_val (by rfl) _ _ (by rfl) wf.heap.size (.slice AI c cI) c xs6 rfl OXa.out.1 w5a.drew.heap.size rfl #[.int .i64 yk, .int .i64 yn, .string ys, .slice Y3 n5 y3, .slice Y4 n6 y4] rfl (heap_alloc_new _ _) (five_one _ _ _ _ _ _ _ _ _) (by omega) OXa.out.2 _ rfl ?_
            intro ha cap6a w6a O6 G6 hg6
            obtain ⟨HH, hb6⟩ := OH.push T6.out.1 T6.out.2.1 T6.out.2.2.1 T6.out.2.2.2 (⟨yk, yn, ys, yl, yks⟩ : V) HY.out.1 HY.out.2 O6 G6 hg6
            have q6a : Hid (Q w1 w6a) := Lib.hid (Q4.tw Q1F.out (Nat.le_of_eq HS.out.1) T6.out.2.1.swap G6)
            clear O6 G6 hg6
            refine hK.out _ _ ((SEa.out _ q6a.out).2) (fun hHeld => ?_)
            clear hK K
            refine Go.wpAnyH_take (i := 9) (oi := _) (v := ?_) rfl (by kernel_rfl) (by kernel_rfl) (by kernel_rfl) (fun _ _ _ h => h) (Or.inl ⟨by rfl, ?_⟩) (by assumption) ?_
            rotate_left 1
            · intro wx hSw
              go_simp <;> with_reducible rfl
            simp only [Act.put, List.getElem_toArray, List.getElem_cons_zero, List.getElem_cons_succ, List.setIfInBounds_toArray, List.set_cons_zero, List.set_cons_succ]
            have sGa := hb6.at 3 _ rfl
            have fGa := hb6.frozen 3
            have H7 := Lib.hid HH
            clear HH
            have Q7a : Hid (Q w1 (w6a.setCell ⟨S, 3, none⟩ (.slice (some ⟨ha, 0, none⟩) (c + 1) cap6a))) := Lib.hid (H7.out.grown Q1F.out (Nat.le_of_eq HS.out.1))
            refine Go.wpAnyH_ready (rs := [10]) (by kernel_rfl) (by simp) ?_
            refine Go.AllReadyH.cons rfl (fun K hK => ?_) Go.AllReadyH.nil
            rw [if_pos (by rfl)]
            go_simp
            refine hK.out _ _ ((SEa.out _ Q7a.out).2) (fun hHeld => ?_)
            clear hK K
            refine Go.wpAnyH_done (by kernel_rfl) ?_ _
            obtain ⟨w7a, hw7a⟩ : ∃ x, w6a.setCell ⟨S, 3, none⟩ (.slice (some ⟨ha, 0, none⟩) (c + 1) cap6a) = x := ⟨_, rfl⟩
            rw [hw7a] at H7 Q7a ⊢
            have H7a := H7
            clear hw7a sGa fGa hb6 q6a sEa sFa sFqa OXa T6 Qwa Qaa hHeld SEa H7
            go_wp2_with fail
            go_roundw
            case rel => exact ⟨k + 1, false, (m ++ [(kk, (⟨yk, yn, ys, yl, yks⟩ : V))]), (c + 1), (some ⟨ga, 0, none⟩), capa, (some ⟨ha, 0, none⟩), cap6a, hkn.out, rfl, by go_num, H7a, Lib.hid (HR2.out)⟩
            case measure => have := hkn.out; simp [intOf]; omega
          · rw [if_pos (by rfl)]
            go_simp
            refine hK.out _ _ ((SEa.out _ Qaa.out).2) (fun hHeld => ?_)
            clear hK K
            refine Go.wpAnyH_ready (rs := [1]) (by kernel_rfl) (by simp) ?_
            refine Go.AllReadyH.cons rfl (fun K hK => ?_) Go.AllReadyH.nil
            rw [if_pos (by rfl)]
            go_simp
            refine hK.out _ _ ((SEa.out _ Qaa.out).2) (fun hHeld => ?_)
            clear hK K
            refine Go.wpAnyH_ready (rs := [8]) (by kernel_rfl) (by simp) ?_
            refine Go.AllReadyH.cons rfl (fun K hK => ?_) Go.AllReadyH.nil
            refine step_val (by rfl) _ _ (by rfl) wf.heap.size (.slice AI c cI) c xs6 rfl OXa.out.1 w5a.drew.heap.size rfl #[.int .i64 yk, .int .i64 yn, .string ys, .slice Y3 n5 y3, .slice Y4 n6 y4] rfl (heap_alloc_new _ _) (five_one _ _ _ _ _ _ _ _ _) (by omega) OXa.out.2 _ rfl ?_
            intro ha cap6a w6a O6 G6 hg6
            obtain ⟨HH, hb6⟩ := OH.push T6.out.1 T6.out.2.1 T6.out.2.2.1 T6.out.2.2.2 (⟨yk, yn, ys, yl, yks⟩ : V) HY.out.1 HY.out.2 O6 G6 hg6
            have q6a : Hid (Q w1 w6a) := Lib.hid (Q4.tw Q1F.out (Nat.le_of_eq HS.out.1) T6.out.2.1.swap G6)
            clear O6 G6 hg6
            refine hK.out _ _ ((SEa.out _ q6a.out).2) (fun hHeld => ?_)
            clear hK K
            refine Go.wpAnyH_take (i := 9) (oi := _) (v := ?_) rfl (by kernel_rfl) (by kernel_rfl) (by kernel_rfl) (fun _ _ _ h => h) (Or.inl ⟨by rfl, ?_⟩) (by assumption) ?_
            rotate_left 1
            · intro wx hSw
              go_simp <;> with_reducible rfl
            simp only [Act.put, List.getElem_toArray, List.getElem_cons_zero, List.getElem_cons_succ, List.setIfInBounds_toArray, List.set_cons_zero, List.set_cons_succ]
            have sGa := hb6.at 3 _ rfl
            have fGa := hb6.frozen 3
            have H7 := Lib.hid HH
            clear HH
            have Q7a : Hid (Q w1 (w6a.setCell ⟨S, 3, none⟩ (.slice (some ⟨ha, 0, none⟩) (c + 1) cap6a))) := Lib.hid (H7.out.grown Q1F.out (Nat.le_of_eq HS.out.1))
            refine Go.wpAnyH_ready (rs := [10]) (by kernel_rfl) (by simp) ?_
            refine Go.AllReadyH.cons rfl (fun K hK => ?_) Go.AllReadyH.nil
            rw [if_pos (by rfl)]
            go_simp
            refine hK.out _ _ ((SEa.out _ Q7a.out).2) (fun hHeld => ?_)
            clear hK K
            refine Go.wpAnyH_done (by kernel_rfl) ?_ _
            obtain ⟨w7a, hw7a⟩ : ∃ x, w6a.setCell ⟨S, 3, none⟩ (.slice (some ⟨ha, 0, none⟩) (c + 1) cap6a) = x := ⟨_, rfl⟩
            rw [hw7a] at H7 Q7a ⊢
            have H7a := H7
            clear hw7a sGa fGa hb6 q6a sEa sFa sFqa OXa T6 Qwa Qaa hHeld SEa H7
            go_wp2_with fail
            go_roundw
            case rel => exact ⟨k + 1, false, (m ++ [(kk, (⟨yk, yn, ys, yl, yks⟩ : V))]), (c + 1), (some ⟨ga, 0, none⟩), capa, (some ⟨ha, 0, none⟩), cap6a, hkn.out, rfl, by go_num, H7a, Lib.hid (HR2.out)⟩
            case measure => have := hkn.out; simp [intOf]; omega
        · rw [if_pos (by rfl)]
          go_simp
          refine hK.out _ _ ((SEa.out _ Qaa.out).1) (fun hHeld => ?_)
          clear hK K
          refine Go.wpAnyH_ready (rs := [1]) (by kernel_rfl) (by simp) ?_
          refine Go.AllReadyH.cons rfl (fun K hK => ?_) Go.AllReadyH.nil
          rw [if_pos (by rfl)]
          go_simp
          refine hK.out _ _ ((SEa.out _ Qaa.out).1) (fun hHeld => ?_)
          clear hK K
          refine Go.wpAnyH_ready (rs := [8]) (by kernel_rfl) (by simp) ?_
          refine Go.AllReadyH.cons rfl (fun K hK => ?_) Go.AllReadyH.nil
          refine step_str (by rfl) _ _ (by rfl) wf.heap.size (.slice AK c cK) c _ rfl OWa.out.1 ⟨wr.drew.heap.size, 0, none⟩ rfl (.string kk) (lit_one _ _ _) rfl (by omega) OWa.out.2 _ rfl ?_
          intro ga capa w4a O4 G4 hg4
          obtain ⟨HH, hb4⟩ := HM2a.out.push kk O4 G4 hg4
          have q4a : Hid (Q w1 w4a) := Lib.hid (by obtain ⟨_, t⟩ := HM2a.out.own; exact Q4.tw Q1F.out (Nat.le_of_eq HS.out.1) t G4)
          clear O4 G4 hg4
          refine hK.out _ _ ((SEa.out _ q4a.out).1) (fun hHeld => ?_)
          clear hK K
          refine Go.wpAnyH_take (i := 9) (oi := _) (v := ?_) rfl (by kernel_rfl) (by kernel_rfl) (by kernel_rfl) (fun _ _ _ h => h) (Or.inl ⟨by rfl, ?_⟩) (by assumption) ?_
          rotate_left 1
          · intro wx hSw
            go_simp <;> with_reducible rfl
          simp only [Act.put, List.getElem_toArray, List.getElem_cons_zero, List.getElem_cons_succ, List.setIfInBounds_toArray, List.set_cons_zero, List.set_cons_succ]
          have sCa := hb4.at 4 _ rfl
          have fCa := hb4.frozen 4
          have H5 := Lib.hid HH
          clear HH
          have Q5a : Hid (Q w1 (w4a.setCell ⟨S, 4, none⟩ (.slice (some ⟨ga, 0, none⟩) (c + 1) capa))) := Lib.hid (H5.out.grown Q1F.out (Nat.le_of_eq HS.out.1))
          refine Go.wpAnyH_ready (rs := [10]) (by kernel_rfl) (by simp) ?_
          refine Go.AllReadyH.cons rfl (fun K hK => ?_) Go.AllReadyH.nil
          rw [if_pos (by rfl)]
          go_simp
          refine hK.out _ _ ((SEa.out _ Q5a.out).1) (fun hHeld => ?_)
          clear hK K
          refine Go.wpAnyH_done (by kernel_rfl) ?_ _
          obtain ⟨w5a, hw5a⟩ : ∃ x, w4a.setCell ⟨S, 4, none⟩ (.slice (some ⟨ga, 0, none⟩) (c + 1) capa) = x := ⟨_, rfl⟩
          rw [hw5a] at H5 Q5a ⊢
          clear hw5a sCa fCa hb4 q4a sAa sBa sBqa OWa HM2a Qwa Qaa hHeld
          obtain ⟨wda, hwda⟩ : ∃ x, x = w5a.drew := ⟨_, rfl⟩
          have qda : Q w5a wda := by rw [hwda]; exact Q.drew _
          obtain ⟨waa, hwaa⟩ : ∃ x, x = wda.alloc (.cells #[.int .i64 yk, .int .i64 yn, .string ys, .slice Y3 n5 y3, .slice Y4 n6 y4] 26) := ⟨_, rfl⟩
          have qaa : Q wda waa := by rw [hwaa]; exact Q.box _ _
          have HMaa := Lib.hid (H5.out.quiet (qda.trans qaa))
          rw [hwda] at hwaa
          have Qwa : Hid (Q w1 w5a.drew) := Lib.hid (by rw [← hwda]; exact Q5a.out.trans qda)
          have Qaa : Hid (Q w1 (w5a.drew.alloc (.cells #[.int .i64 yk, .int .i64 yn, .string ys, .slice Y3 n5 y3, .slice Y4 n6 y4] 26))) := Lib.hid (by rw [← hwaa]; exact Q5a.out.trans (qda.trans qaa))
          have sEa := H5.out.bk.at 3 _ rfl
          have sFa : (w5a.drew.alloc (.cells #[.int .i64 yk, .int .i64 yn, .string ys, .slice Y3 n5 y3, .slice Y4 n6 y4] 26)).cell? ⟨S, 3, none⟩ = some (.slice AI c cI) := by rw [← hwaa]; exact HMaa.out.bk.at 3 _ rfl
          have sFqa : (w5a.alloc (.cells #[.int .i64 yk, .int .i64 yn, .string ys, .slice Y3 n5 y3, .slice Y4 n6 y4] 26)).cell? ⟨S, 3, none⟩ = some (.slice AI c cI) := cell_stays (Q.box _ _) (H5.out.bk.at 3 _ rfl)
          obtain ⟨xs6, T6⟩ : ∃ xs6, Hid (m.length = c ∧ Tw S 9 1 (.slice (some ⟨ga, 0, none⟩) (c + 1) capa) (c + 1) (m.map (fun b => .string b.1) ++ [.string kk]) 26 5 (.slice AI c cI) c xs6 wf (w5a.drew.alloc (.cells #[.int .i64 yk, .int .i64 yn, .string ys, .slice Y3 n5 y3, .slice Y4 n6 y4] 26)) ∧ Rw m xs6 (eo p w) ∧ Bk S #[.int .i64 5, .int .i64 0, .string ⟨#[]⟩, .slice AI c cI, .slice (some ⟨ga, 0, none⟩) (c + 1) capa] 26 (w5a.drew.alloc (.cells #[.int .i64 yk, .int .i64 yn, .string ys, .slice Y3 n5 y3, .slice Y4 n6 y4] 26))) := by
            obtain ⟨hl6, ⟨xs6, tw6, rw6⟩, bk6⟩ := HMaa.out
            rw [hwaa] at tw6 bk6
            exact ⟨xs6, Lib.hid ⟨hl6, tw6, rw6, bk6⟩⟩
          have OXa := Lib.hid (And.intro T6.out.2.1.own2 T6.out.2.1.q.size)
          clear qda HMaa qaa hwaa hwda waa wda H5 Q5a
          go_wp2_with fail
          refine Go.wp_region_held_drew (S := fun w' => w'.cell? ⟨B, 3, none⟩ = some (.slice (some ⟨bi, oi, none⟩) n k3) ∧ w'.cell? ⟨bi, oi + k * 5, none⟩ = some (.int .i64 yk) ∧ w'.cell? ⟨bi, oi + k * 5 + 1, none⟩ = some (.int .i64 yn) ∧ w'.cell? ⟨bi, oi + k * 5 + 2, none⟩ = some (.string ys) ∧ w'.cell? ⟨bi, oi + k * 5 + 3, none⟩ = some (.slice Y3 n5 y3) ∧ w'.cell? ⟨bi, oi + k * 5 + 4, none⟩ = some (.slice Y4 n6 y4)) (by kernel_rfl) ((SEa.out _ Qwa.out).2) (fun hHeld => ?_)
          refine Go.wpAnyH_take (i := 0) (oi := _) (v := ?_) rfl (by kernel_rfl) (by kernel_rfl) (by kernel_rfl) (fun _ _ _ h => h) (Or.inl ⟨by rfl, ?_⟩) (by assumption) ?_
          rotate_left 1
          · intro wx hSw
            go_simp <;> with_reducible rfl
          simp only [Act.put, List.getElem_toArray, List.getElem_cons_zero, List.setIfInBounds_toArray, List.set_cons_zero, List.set_cons_succ]
          refine Go.wpAnyH_take (i := 2) (oi := _) (v := ?_) rfl (by kernel_rfl) (by kernel_rfl) (by kernel_rfl) (fun _ _ _ h => h) (Or.inl ⟨by rfl, ?_⟩) (by assumption) ?_
          rotate_left 1
          · intro wx hSw
            go_simp <;> with_reducible rfl
          simp only [Act.put, List.getElem_toArray, List.getElem_cons_zero, List.getElem_cons_succ, List.setIfInBounds_toArray, List.set_cons_zero, List.set_cons_succ]
          refine Go.wpAnyH_take (i := 3) (oi := _) (v := ?_) rfl (by kernel_rfl) (by kernel_rfl) (by kernel_rfl) (fun _ _ _ h => h) (Or.inl ⟨by rfl, ?_⟩) (by assumption) ?_
          rotate_left 1
          · intro wx hSw
            go_simp <;> with_reducible rfl
          simp only [Act.put, List.getElem_toArray, List.getElem_cons_zero, List.getElem_cons_succ, List.setIfInBounds_toArray, List.set_cons_zero, List.set_cons_succ]
          refine Go.wpAnyH_take (i := 4) (oi := _) (v := ?_) rfl (by kernel_rfl) (by kernel_rfl) (by kernel_rfl) (fun _ _ _ h => h) (Or.inl ⟨by rfl, ?_⟩) (by assumption) ?_
          rotate_left 1
          · intro wx hSw
            go_simp <;> with_reducible rfl
          simp only [Act.put, List.getElem_toArray, List.getElem_cons_zero, List.getElem_cons_succ, List.setIfInBounds_toArray, List.set_cons_zero, List.set_cons_succ]
          refine Go.wpAnyH_take (i := 5) (oi := _) (v := ?_) rfl (by kernel_rfl) (by kernel_rfl) (by kernel_rfl) (fun _ _ _ h => h) (Or.inl ⟨by rfl, ?_⟩) (by assumption) ?_
          rotate_left 1
          · intro wx hSw
            go_simp <;> with_reducible rfl
          simp only [Act.put, List.getElem_toArray, List.getElem_cons_zero, List.getElem_cons_succ, List.setIfInBounds_toArray, List.set_cons_zero, List.set_cons_succ]
          refine Go.wpAnyH_take (i := 6) (oi := _) (v := ?_) rfl (by kernel_rfl) (by kernel_rfl) (by kernel_rfl) (fun _ _ _ h => h) (Or.inl ⟨by rfl, ?_⟩) (by assumption) ?_
          rotate_left 1
          · intro wx hSw
            go_simp <;> with_reducible rfl
          simp only [Act.put, List.getElem_toArray, List.getElem_cons_zero, List.getElem_cons_succ, List.setIfInBounds_toArray, List.set_cons_zero, List.set_cons_succ]
          refine Go.wpAnyH_ready (rs := [1, 7]) (by kernel_rfl) (by simp) ?_
          refine Go.AllReadyH.cons rfl (fun K hK => ?_) (Go.AllReadyH.cons rfl (fun K hK => ?_) Go.AllReadyH.nil)
          · rw [if_pos (by rfl)]
            go_simp
            refine hK.out _ _ ((SEa.out _ Qwa.out).2) (fun hHeld => ?_)
            clear hK K
            refine Go.wpAnyH_ready (rs := [7]) (by kernel_rfl) (by simp) ?_
            refine Go.AllReadyH.cons rfl (fun K hK => ?_) Go.AllReadyH.nil
            rw [if_pos (by rfl)]
            go_simp
            refine hK.out _ _ ((SEa.out _ Qaa.out).2) (fun hHeld => ?_)
            clear hK K
            refine Go.wpAnyH_ready (rs := [8]) (by kernel_rfl) (by simp) ?_
            refine Go.AllReadyH.cons rfl (fun K hK => ?_) Go.AllReadyH.nil
            refine step_val (by rfl) _ _ (by rfl) wf.heap.size (.slice AI c cI) c xs6 rfl OXa.out.1 w5a.drew.heap.size rfl #[.int .i64 yk, .int .i64 yn, .string ys, .slice Y3 n5 y3, .slice Y4 n6 y4] rfl (heap_alloc_new _ _) (five_one _ _ _ _ _ _ _ _ _) (by omega) OXa.out.2 _ rfl ?_
            intro ha cap6a w6a O6 G6 hg6
            obtain ⟨HH, hb6⟩ := OH.push T6.out.1 T6.out.2.1 T6.out.2.2.1 T6.out.2.2.2 (⟨yk, yn, ys, yl, yks⟩ : V) HY.out.1 HY.out.2 O6 G6 hg6
            have q6a : Hid (Q w1 w6a) := Lib.hid (Q4.tw Q1F.out (Nat.le_of_eq HS.out.1) T6.out.2.1.swap G6)
            clear O6 G6 hg6
            refine hK.out _ _ ((SEa.out _ q6a.out).2) (fun hHeld => ?_)
            clear hK K
            refine Go.wpAnyH_take (i := 9) (oi := _) (v := ?_) rfl (by kernel_rfl) (by kernel_rfl) (by kernel_rfl) (fun _ _ _ h => h) (Or.inl ⟨by rfl, ?_⟩) (by assumption) ?_
            rotate_left 1
            · intro wx hSw
              go_simp <;> with_reducible rfl
            simp only [Act.put, List.getElem_toArray, List.getElem_cons_zero, List.getElem_cons_succ, List.setIfInBounds_toArray, List.set_cons_zero, List.set_cons_succ]
            have sGa := hb6.at 3 _ rfl
            have fGa := hb6.frozen 3
            have H7 := Lib.hid HH
            clear HH
            have Q7a : Hid (Q w1 (w6a.setCell ⟨S, 3, none⟩ (.slice (some ⟨ha, 0, none⟩) (c + 1) cap6a))) := Lib.hid (H7.out.grown Q1F.out (Nat.le_of_eq HS.out.1))
            refine Go.wpAnyH_ready (rs := [10]) (by kernel_rfl) (by simp) ?_
            refine Go.AllReadyH.cons rfl (fun K hK => ?_) Go.AllReadyH.nil
            rw [if_pos (by rfl)]
            go_simp
            refine hK.out _ _ ((SEa.out _ Q7a.out).2) (fun hHeld => ?_)
            clear hK K
            refine Go.wpAnyH_done (by kernel_rfl) ?_ _
            obtain ⟨w7a, hw7a⟩ : ∃ x, w6a.setCell ⟨S, 3, none⟩ (.slice (some ⟨ha, 0, none⟩) (c + 1) cap6a) = x := ⟨_, rfl⟩
            rw [hw7a] at H7 Q7a ⊢
            have H7a := H7
            clear hw7a sGa fGa hb6 q6a sEa sFa sFqa OXa T6 Qwa Qaa hHeld SEa H7
            go_wp2_with fail
            go_roundw
            case rel => exact ⟨k + 1, false, (m ++ [(kk, (⟨yk, yn, ys, yl, yks⟩ : V))]), (c + 1), (some ⟨ga, 0, none⟩), capa, (some ⟨ha, 0, none⟩), cap6a, hkn.out, rfl, by go_num, H7a, Lib.hid (HR2.out)⟩
            case measure => have := hkn.out; simp [intOf]; omega
          · rw [if_pos (by rfl)]
            go_simp
            refine hK.out _ _ ((SEa.out _ Qaa.out).2) (fun hHeld => ?_)
            clear hK K
            refine Go.wpAnyH_ready (rs := [1]) (by kernel_rfl) (by simp) ?_
            refine Go.AllReadyH.cons rfl (fun K hK => ?_) Go.AllReadyH.nil
            rw [if_pos (by rfl)]
            go_simp
            refine hK.out _ _ ((SEa.out _ Qaa.out).2) (fun hHeld => ?_)
            clear hK K
            refine Go.wpAnyH_ready (rs := [8]) (by kernel_rfl) (by simp) ?_
            refine Go.AllReadyH.cons rfl (fun K hK => ?_) Go.AllReadyH.nil
            refine step_val (by rfl) _ _ (by rfl) wf.heap.size (.slice AI c cI) c xs6 rfl OXa.out.1 w5a.drew.heap.size rfl #[.int .i64 yk, .int .i64 yn, .string ys, .slice Y3 n5 y3, .slice Y4 n6 y4] rfl (heap_alloc_new _ _) (five_one _ _ _ _ _ _ _ _ _) (by omega) OXa.out.2 _ rfl ?_
            intro ha cap6a w6a O6 G6 hg6
            obtain ⟨HH, hb6⟩ := OH.push T6.out.1 T6.out.2.1 T6.out.2.2.1 T6.out.2.2.2 (⟨yk, yn, ys, yl, yks⟩ : V) HY.out.1 HY.out.2 O6 G6 hg6
            have q6a : Hid (Q w1 w6a) := Lib.hid (Q4.tw Q1F.out (Nat.le_of_eq HS.out.1) T6.out.2.1.swap G6)
            clear O6 G6 hg6
            refine hK.out _ _ ((SEa.out _ q6a.out).2) (fun hHeld => ?_)
            clear hK K
            refine Go.wpAnyH_take (i := 9) (oi := _) (v := ?_) rfl (by kernel_rfl) (by kernel_rfl) (by kernel_rfl) (fun _ _ _ h => h) (Or.inl ⟨by rfl, ?_⟩) (by assumption) ?_
            rotate_left 1
            · intro wx hSw
              go_simp <;> with_reducible rfl
            simp only [Act.put, List.getElem_toArray, List.getElem_cons_zero, List.getElem_cons_succ, List.setIfInBounds_toArray, List.set_cons_zero, List.set_cons_succ]
            have sGa := hb6.at 3 _ rfl
            have fGa := hb6.frozen 3
            have H7 := Lib.hid HH
            clear HH
            have Q7a : Hid (Q w1 (w6a.setCell ⟨S, 3, none⟩ (.slice (some ⟨ha, 0, none⟩) (c + 1) cap6a))) := Lib.hid (H7.out.grown Q1F.out (Nat.le_of_eq HS.out.1))
            refine Go.wpAnyH_ready (rs := [10]) (by kernel_rfl) (by simp) ?_
            refine Go.AllReadyH.cons rfl (fun K hK => ?_) Go.AllReadyH.nil
            rw [if_pos (by rfl)]
            go_simp
            refine hK.out _ _ ((SEa.out _ Q7a.out).2) (fun hHeld => ?_)
            clear hK K
            refine Go.wpAnyH_done (by kernel_rfl) ?_ _
            obtain ⟨w7a, hw7a⟩ : ∃ x, w6a.setCell ⟨S, 3, none⟩ (.slice (some ⟨ha, 0, none⟩) (c + 1) cap6a) = x := ⟨_, rfl⟩
            rw [hw7a] at H7 Q7a ⊢
            have H7a := H7
            clear hw7a sGa fGa hb6 q6a sEa sFa sFqa OXa T6 Qwa Qaa hHeld SEa H7
            go_wp2_with fail
            go_roundw
            case rel => exact ⟨k + 1, false, (m ++ [(kk, (⟨yk, yn, ys, yl, yks⟩ : V))]), (c + 1), (some ⟨ga, 0, none⟩), capa, (some ⟨ha, 0, none⟩), cap6a, hkn.out, rfl, by go_num, H7a, Lib.hid (HR2.out)⟩
            case measure => have := hkn.out; simp [intOf]; omega
      · have e4 : Op.bytesLess kk.toList key.toList = false := by rw [less_cT']; exact decide_eq_false hl
        by_cases h0 : cT kk key = 0
        · have e3 : (kk.toList == key.toList) = true := by rw [same_cT]; exact decide_eq_true h0
          have HR2 : Hid ((m ++ [(key, (⟨xk, xn, xs, xl, xks⟩ : V))]) ++ rputL true ((ks.drop (k + 1)).zip (l.drop (k + 1))) key (⟨xk, xn, xs, xl, xks⟩ : V) = r) := Lib.hid (by
            have h := HRn.out
            rw [if_pos ⟨rfl, by omega⟩, if_pos h0, Bool.false_or, decide_eq_true (by omega), List.nil_append] at h
            rw [List.append_assoc]
            exact h)
          clear HRn h0 hl
          have sAa := HM.out.bk.at 4 _ rfl
          have hca := HC.out c m HM.out.len (hHC.out.1)
          obtain ⟨waa, hwaa⟩ : ∃ x, wr.alloc (.cells #[.string key] 9) = x := ⟨_, rfl⟩
          obtain ⟨Da, hDa⟩ : ∃ x, wr.heap.size = x := ⟨_, rfl⟩
          have caa : waa.cell? ⟨Da, 0, none⟩ = some (.string key) := by rw [← hwaa, ← hDa]; exact lit_one _ _ _
          have HMaa := Lib.hid (HM.out.quiet (show Q wr waa by rw [← hwaa]; exact Q.box _ _))
          have OWa : Hid (waa.ownsRow wf.heap.size 9 1 (.slice AK c cK) c (m.map (fun b => .string b.1)) ∧ wf.heap.size ≤ waa.heap.size) := Lib.hid (by obtain ⟨_, ⟨_, t, _⟩, _⟩ := HMaa.out; exact ⟨t.own1, t.q.size⟩)
          have CAa := Lib.hid caa
          clear caa
          go_wp2_with (at_builtin; refine wpl_str rfl _ _ rfl wf.heap.size (.slice AK c cK) c (m.map (fun b => .string b.1)) rfl OWa.out.1 ⟨Da, 0, none⟩ rfl (.string key) CAa.out rfl (by omega) OWa.out.2 ?_)
          intro ga capa w4a O4 G4 hg4
          obtain ⟨HH, hb4⟩ := HMaa.out.push key O4 G4 hg4
          have sBa := hb4.at 4 _ rfl
          have fBa := hb4.frozen 4
          clear O4 G4 hg4 hb4 sAa
          obtain ⟨w5a, hw5a⟩ : ∃ x, w4a.setCell ⟨S, 4, none⟩ (.slice (some ⟨ga, 0, none⟩) (c + 1) capa) = x := ⟨_, rfl⟩
          rw [hw5a] at HH
          have H5a := Lib.hid HH
          clear HH
          have q5a : Q w1 w5a := H5a.out.grown Q1F.out (Nat.le_of_eq HS.out.1)
          have sCa := H5a.out.bk.at 3 _ rfl
          have bXa := BX.out.stays q5a
          have x0a := bXa.at 0 _ rfl
          have x1a := bXa.at 1 _ rfl
          have x2a := bXa.at 2 _ rfl
          have x3a := bXa.at 3 _ rfl
          have x4a := bXa.at 4 _ rfl
          obtain ⟨wba, hwba⟩ : ∃ x, w5a.alloc (.cells #[.int .i64 xk, .int .i64 xn, .string xs, .slice X3 m3 x3, .slice X4 m4 x4] 26) = x := ⟨_, rfl⟩
          obtain ⟨Ea, hEa⟩ : ∃ x, w5a.heap.size = x := ⟨_, rfl⟩
          have CBa : Hid (Bk Ea #[.int .i64 xk, .int .i64 xn, .string xs, .slice X3 m3 x3, .slice X4 m4 x4] 26 wba) := Lib.hid (by rw [← hwba, ← hEa]; exact heap_alloc_new _ _)
          have HMba := Lib.hid (H5a.out.quiet (show Q w5a wba by rw [← hwba]; exact Q.box _ _))
          obtain ⟨hl6, ⟨xs6, tw6, rw6⟩, bk6⟩ := HMba.out
          have T6 := Lib.hid (And.intro hl6 (And.intro tw6 (And.intro rw6 bk6)))
          have OXa := Lib.hid (And.intro tw6.own2 tw6.q.size)
          clear hl6 tw6 rw6 bk6 q5a bXa H5a
          go_wp2_with (at_builtin; refine wpl_val rfl _ _ rfl wf.heap.size (.slice AI c cI) c xs6 rfl OXa.out.1 Ea rfl #[.int .i64 xk, .int .i64 xn, .string xs, .slice X3 m3 x3, .slice X4 m4 x4] rfl CBa.out (five_one _ _ _ _ _ _ _ _ _) (by omega) OXa.out.2 ?_)
          intro ha cap6a w6a O6 G6 hg6
          obtain ⟨HH, hb6⟩ := OH.push T6.out.1 T6.out.2.1 T6.out.2.2.1 T6.out.2.2.2 (⟨xk, xn, xs, xl, xks⟩ : V) HX.out.1 HX.out.2 O6 G6 hg6
          have sDa := hb6.at 3 _ rfl
          have fDa := hb6.frozen 3
          clear O6 G6 hg6 hb6 T6 OXa HMba CBa x0a x1a x2a x3a x4a sCa hwba hEa sBa fBa hw5a HMaa OWa CAa hwaa hDa
          obtain ⟨w7a, hw7a⟩ : ∃ x, w6a.setCell ⟨S, 3, none⟩ (.slice (some ⟨ha, 0, none⟩) (c + 1) cap6a) = x := ⟨_, rfl⟩
          rw [hw7a] at HH
          have H7a := Lib.hid HH
          clear HH
          have Q7a : Hid (Q w1 w7a) := Lib.hid (H7a.out.grown Q1F.out (Nat.le_of_eq HS.out.1))
          have t4a := cell_stays Q7a.out SV.out.2.1
          have t5a := cell_stays Q7a.out SV.out.2.2.1
          go_wp2_with fail
          go_roundw
          case rel => exact ⟨k + 1, true, (m ++ [(key, (⟨xk, xn, xs, xl, xks⟩ : V))]), (c + 1), (some ⟨ga, 0, none⟩), capa, (some ⟨ha, 0, none⟩), cap6a, hkn.out, rfl, by go_num, H7a, Lib.hid (HR2.out)⟩
          case measure => have := hkn.out; simp [intOf]; omega
        · have e3 : (kk.toList == key.toList) = false := by rw [same_cT]; exact decide_eq_false h0
          have HR2 : Hid (((m ++ [(key, (⟨xk, xn, xs, xl, xks⟩ : V))]) ++ [(kk, (⟨yk, yn, ys, yl, yks⟩ : V))]) ++ rputL true ((ks.drop (k + 1)).zip (l.drop (k + 1))) key (⟨xk, xn, xs, xl, xks⟩ : V) = r) := Lib.hid (by
            have h := HRn.out
            rw [if_pos ⟨rfl, by omega⟩, if_neg h0, Bool.false_or, decide_eq_true (by omega)] at h
            rw [List.append_assoc, List.append_assoc]
            exact h)
          have HL1 : Hid ((m ++ [(key, (⟨xk, xn, xs, xl, xks⟩ : V))]).length ≤ r.length) := Lib.hid (hHC.out.2 ⟨rfl, by omega⟩)
          clear HRn h0 hl
          have sAa := HM.out.bk.at 4 _ rfl
          have hca := HC.out c m HM.out.len (hHC.out.1)
          obtain ⟨waa, hwaa⟩ : ∃ x, wr.alloc (.cells #[.string key] 9) = x := ⟨_, rfl⟩
          obtain ⟨Da, hDa⟩ : ∃ x, wr.heap.size = x := ⟨_, rfl⟩
          have caa : waa.cell? ⟨Da, 0, none⟩ = some (.string key) := by rw [← hwaa, ← hDa]; exact lit_one _ _ _
          have HMaa := Lib.hid (HM.out.quiet (show Q wr waa by rw [← hwaa]; exact Q.box _ _))
          have OWa : Hid (waa.ownsRow wf.heap.size 9 1 (.slice AK c cK) c (m.map (fun b => .string b.1)) ∧ wf.heap.size ≤ waa.heap.size) := Lib.hid (by obtain ⟨_, ⟨_, t, _⟩, _⟩ := HMaa.out; exact ⟨t.own1, t.q.size⟩)
          have CAa := Lib.hid caa
          clear caa
          go_wp2_with (at_builtin; refine wpl_str rfl _ _ rfl wf.heap.size (.slice AK c cK) c (m.map (fun b => .string b.1)) rfl OWa.out.1 ⟨Da, 0, none⟩ rfl (.string key) CAa.out rfl (by omega) OWa.out.2 ?_)
          intro ga capa w4a O4 G4 hg4
          obtain ⟨HH, hb4⟩ := HMaa.out.push key O4 G4 hg4
          have sBa := hb4.at 4 _ rfl
          have fBa := hb4.frozen 4
          clear O4 G4 hg4 hb4 sAa
          obtain ⟨w5a, hw5a⟩ : ∃ x, w4a.setCell ⟨S, 4, none⟩ (.slice (some ⟨ga, 0, none⟩) (c + 1) capa) = x := ⟨_, rfl⟩
          rw [hw5a] at HH
          have H5a := Lib.hid HH
          clear HH
          have q5a : Q w1 w5a := H5a.out.grown Q1F.out (Nat.le_of_eq HS.out.1)
          have sCa := H5a.out.bk.at 3 _ rfl
          have bXa := BX.out.stays q5a
          have x0a := bXa.at 0 _ rfl
          have x1a := bXa.at 1 _ rfl
          have x2a := bXa.at 2 _ rfl
          have x3a := bXa.at 3 _ rfl
          have x4a := bXa.at 4 _ rfl
          obtain ⟨wba, hwba⟩ : ∃ x, w5a.alloc (.cells #[.int .i64 xk, .int .i64 xn, .string xs, .slice X3 m3 x3, .slice X4 m4 x4] 26) = x := ⟨_, rfl⟩
          obtain ⟨Ea, hEa⟩ : ∃ x, w5a.heap.size = x := ⟨_, rfl⟩
          have CBa : Hid (Bk Ea #[.int .i64 xk, .int .i64 xn, .string xs, .slice X3 m3 x3, .slice X4 m4 x4] 26 wba) := Lib.hid (by rw [← hwba, ← hEa]; exact heap_alloc_new _ _)
          have HMba := Lib.hid (H5a.out.quiet (show Q w5a wba by rw [← hwba]; exact Q.box _ _))
          obtain ⟨hl6, ⟨xs6, tw6, rw6⟩, bk6⟩ := HMba.out
          have T6 := Lib.hid (And.intro hl6 (And.intro tw6 (And.intro rw6 bk6)))
          have OXa := Lib.hid (And.intro tw6.own2 tw6.q.size)
          clear hl6 tw6 rw6 bk6 q5a bXa H5a
          go_wp2_with (at_builtin; refine wpl_val rfl _ _ rfl wf.heap.size (.slice AI c cI) c xs6 rfl OXa.out.1 Ea rfl #[.int .i64 xk, .int .i64 xn, .string xs, .slice X3 m3 x3, .slice X4 m4 x4] rfl CBa.out (five_one _ _ _ _ _ _ _ _ _) (by omega) OXa.out.2 ?_)
          intro ha cap6a w6a O6 G6 hg6
          obtain ⟨HH, hb6⟩ := OH.push T6.out.1 T6.out.2.1 T6.out.2.2.1 T6.out.2.2.2 (⟨xk, xn, xs, xl, xks⟩ : V) HX.out.1 HX.out.2 O6 G6 hg6
          have sDa := hb6.at 3 _ rfl
          have fDa := hb6.frozen 3
          clear O6 G6 hg6 hb6 T6 OXa HMba CBa x0a x1a x2a x3a x4a sCa hwba hEa sBa fBa hw5a HMaa OWa CAa hwaa hDa
          obtain ⟨w7a, hw7a⟩ : ∃ x, w6a.setCell ⟨S, 3, none⟩ (.slice (some ⟨ha, 0, none⟩) (c + 1) cap6a) = x := ⟨_, rfl⟩
          rw [hw7a] at HH
          have H7a := Lib.hid HH
          clear HH
          have Q7a : Hid (Q w1 w7a) := Lib.hid (H7a.out.grown Q1F.out (Nat.le_of_eq HS.out.1))
          have t4a := cell_stays Q7a.out SV.out.2.1
          have t5a := cell_stays Q7a.out SV.out.2.2.1
          go_wp2_with fail
          have hcb := HC.out (c + 1) (m ++ [(key, (⟨xk, xn, xs, xl, xks⟩ : V))]) H7a.out.len (HL1.out)
          obtain ⟨wdb, hwdb⟩ : ∃ x, x = w7a.drew := ⟨_, rfl⟩
          have qdb : Q w7a wdb := by rw [hwdb]; exact Q.drew _
          have HMdb := Lib.hid (H7a.out.quiet qdb)
          have SEb : Hid (∀ w', Q w1 w' → (fun w' : World => w'.cell? ⟨B, 4, none⟩ = some (.slice (some ⟨b, o, none⟩) n k4) ∧ w'.cell? ⟨b, o + k, none⟩ = some (.string kk)) w' ∧ (fun w' : World => w'.cell? ⟨B, 3, none⟩ = some (.slice (some ⟨bi, oi, none⟩) n k3) ∧ w'.cell? ⟨bi, oi + k * 5, none⟩ = some (.int .i64 yk) ∧ w'.cell? ⟨bi, oi + k * 5 + 1, none⟩ = some (.int .i64 yn) ∧ w'.cell? ⟨bi, oi + k * 5 + 2, none⟩ = some (.string ys) ∧ w'.cell? ⟨bi, oi + k * 5 + 3, none⟩ = some (.slice Y3 n5 y3) ∧ w'.cell? ⟨bi, oi + k * 5 + 4, none⟩ = some (.slice Y4 n6 y4)) w') := Lib.hid (fun w' q => ⟨⟨cell_stays q SV.out.2.1, cell_stays q SV.out.2.2.1⟩, ⟨cell_stays q SV.out.1, cell_stays q SV.out.2.2.2.1, cell_stays q SV.out.2.2.2.2.1, cell_stays q SV.out.2.2.2.2.2.1, cell_stays q SV.out.2.2.2.2.2.2.1, cell_stays q SV.out.2.2.2.2.2.2.2⟩⟩)
          have Qdb : Hid (Q w1 wdb) := Lib.hid (HMdb.out.grown Q1F.out (Nat.le_of_eq HS.out.1))
          have sAb := H7a.out.bk.at 4 _ rfl
          obtain ⟨wab, hwab⟩ : ∃ x, x = wdb.alloc (.cells #[.string kk] 9) := ⟨_, rfl⟩
          have qab : Q wdb wab := by rw [hwab]; exact Q.box _ _
          have HMab := Lib.hid (HMdb.out.quiet qab)
          rw [hwdb] at hwab
          have Qab : Hid (Q w1 (w7a.drew.alloc (.cells #[.string kk] 9))) := Lib.hid (by rw [← hwab]; exact Qdb.out.trans qab)
          have sBb : (w7a.drew.alloc (.cells #[.string kk] 9)).cell? ⟨S, 4, none⟩ = some (.slice (some ⟨ga, 0, none⟩) (c + 1) capa) := by rw [← hwab]; exact HMab.out.bk.at 4 _ rfl
          have sBqb : (w7a.alloc (.cells #[.string kk] 9)).cell? ⟨S, 4, none⟩ = some (.slice (some ⟨ga, 0, none⟩) (c + 1) capa) := cell_stays (Q.box _ _) (H7a.out.bk.at 4 _ rfl)
          have OWb : Hid ((w7a.drew.alloc (.cells #[.string kk] 9)).ownsRow wf.heap.size 9 1 (.slice (some ⟨ga, 0, none⟩) (c + 1) capa) (c + 1) ((m ++ [(key, (⟨xk, xn, xs, xl, xks⟩ : V))]).map (fun b => .string b.1)) ∧ wf.heap.size ≤ (w7a.drew.alloc (.cells #[.string kk] 9)).heap.size) := Lib.hid (by rw [← hwab]; obtain ⟨_, ⟨_, t, _⟩, _⟩ := HMab.out; exact ⟨t.own1, t.q.size⟩)
          have HM2b : Hid (OM p (m ++ [(key, (⟨xk, xn, xs, xl, xks⟩ : V))]) S (some ⟨ga, 0, none⟩) capa (some ⟨ha, 0, none⟩) cap6a (c + 1) w wf (w7a.drew.alloc (.cells #[.string kk] 9))) := Lib.hid (by rw [← hwab]; exact HMab.out)
          have Qwb : Hid (Q w1 w7a.drew) := Lib.hid (by rw [← hwdb]; exact Qdb.out)
          clear qdb HMdb Qdb HMab qab hwab hwdb wab wdb
          go_wp2_with fail
          refine Go.wp_region_held_drew (S := fun w' => w'.cell? ⟨B, 4, none⟩ = some (.slice (some ⟨b, o, none⟩) n k4) ∧ w'.cell? ⟨b, o + k, none⟩ = some (.string kk)) (by kernel_rfl) ((SEb.out _ Qwb.out).1) (fun hHeld => ?_)
          refine Go.wpAnyH_take (i := 0) (oi := _) (v := ?_) rfl (by kernel_rfl) (by kernel_rfl) (by kernel_rfl) (fun _ _ _ h => h) (Or.inl ⟨by rfl, ?_⟩) (by assumption) ?_
          rotate_left 1
          · intro wx hSw
            go_simp <;> with_reducible rfl
          simp only [Act.put, List.getElem_toArray, List.getElem_cons_zero, List.setIfInBounds_toArray, List.set_cons_zero, List.set_cons_succ]
          refine Go.wpAnyH_take (i := 2) (oi := _) (v := ?_) rfl (by kernel_rfl) (by kernel_rfl) (by kernel_rfl) (fun _ _ _ h => h) (Or.inl ⟨by rfl, ?_⟩) (by assumption) ?_
          rotate_left 1
          · intro wx hSw
            go_simp <;> with_reducible rfl
          simp only [Act.put, List.getElem_toArray, List.getElem_cons_zero, List.getElem_cons_succ, List.setIfInBounds_toArray, List.set_cons_zero, List.set_cons_succ]
          refine Go.wpAnyH_take (i := 3) (oi := _) (v := ?_) rfl (by kernel_rfl) (by kernel_rfl) (by kernel_rfl) (fun _ _ _ h => h) (Or.inl ⟨by rfl, ?_⟩) (by assumption) ?_
          rotate_left 1
          · intro wx hSw
            go_simp <;> with_reducible rfl
          simp only [Act.put, List.getElem_toArray, List.getElem_cons_zero, List.getElem_cons_succ, List.setIfInBounds_toArray, List.set_cons_zero, List.set_cons_succ]
          refine Go.wpAnyH_take (i := 4) (oi := _) (v := ?_) rfl (by kernel_rfl) (by kernel_rfl) (by kernel_rfl) (fun _ _ _ h => h) (Or.inl ⟨by rfl, ?_⟩) (by assumption) ?_
          rotate_left 1
          · intro wx hSw
            go_simp <;> with_reducible rfl
          simp only [Act.put, List.getElem_toArray, List.getElem_cons_zero, List.getElem_cons_succ, List.setIfInBounds_toArray, List.set_cons_zero, List.set_cons_succ]
          refine Go.wpAnyH_take (i := 5) (oi := _) (v := ?_) rfl (by kernel_rfl) (by kernel_rfl) (by kernel_rfl) (fun _ _ _ h => h) (Or.inl ⟨by rfl, ?_⟩) (by assumption) ?_
          rotate_left 1
          · intro wx hSw
            go_simp <;> with_reducible rfl
          simp only [Act.put, List.getElem_toArray, List.getElem_cons_zero, List.getElem_cons_succ, List.setIfInBounds_toArray, List.set_cons_zero, List.set_cons_succ]
          refine Go.wpAnyH_take (i := 6) (oi := _) (v := ?_) rfl (by kernel_rfl) (by kernel_rfl) (by kernel_rfl) (fun _ _ _ h => h) (Or.inl ⟨by rfl, ?_⟩) (by assumption) ?_
          rotate_left 1
          · intro wx hSw
            go_simp <;> with_reducible rfl
          simp only [Act.put, List.getElem_toArray, List.getElem_cons_zero, List.getElem_cons_succ, List.setIfInBounds_toArray, List.set_cons_zero, List.set_cons_succ]
          refine Go.wpAnyH_ready (rs := [1, 7]) (by kernel_rfl) (by simp) ?_
          refine Go.AllReadyH.cons rfl (fun K hK => ?_) (Go.AllReadyH.cons rfl (fun K hK => ?_) Go.AllReadyH.nil)
          · rw [if_pos (by rfl)]
            go_simp
            refine hK.out _ _ ((SEb.out _ Qwb.out).1) (fun hHeld => ?_)
            clear hK K
            refine Go.wpAnyH_ready (rs := [7]) (by kernel_rfl) (by simp) ?_
            refine Go.AllReadyH.cons rfl (fun K hK => ?_) Go.AllReadyH.nil
            rw [if_pos (by rfl)]
            go_simp
            refine hK.out _ _ ((SEb.out _ Qab.out).1) (fun hHeld => ?_)
            clear hK K
            refine Go.wpAnyH_ready (rs := [8]) (by kernel_rfl) (by simp) ?_
            refine Go.AllReadyH.cons rfl (fun K hK => ?_) Go.AllReadyH.nil
            refine step_str (by rfl) _ _ (by rfl) wf.heap.size (.slice (some ⟨ga, 0, none⟩) (c + 1) capa) (c + 1) _ rfl OWb.out.1 ⟨w7a.drew.heap.size, 0, none⟩ rfl (.string kk) (lit_one _ _ _) rfl (by omega) OWb.out.2 _ rfl ?_
            intro gb capb w4b O4 G4 hg4
            obtain ⟨HH, hb4⟩ := HM2b.out.push kk O4 G4 hg4
            have q4b : Hid (Q w1 w4b) := Lib.hid (by obtain ⟨_, t⟩ := HM2b.out.own; exact Q4.tw Q1F.out (Nat.le_of_eq HS.out.1) t G4)
            clear O4 G4 hg4
            refine hK.out _ _ ((SEb.out _ q4b.out).1) (fun hHeld => ?_)
            clear hK K
            refine Go.wpAnyH_take (i := 9) (oi := _) (v := ?_) rfl (by kernel_rfl) (by kernel_rfl) (by kernel_rfl) (fun _ _ _ h => h) (Or.inl ⟨by rfl, ?_⟩) (by assumption) ?_
            rotate_left 1
            · intro wx hSw
              go_simp <;> with_reducible rfl
            simp only [Act.put, List.getElem_toArray, List.getElem_cons_zero, List.getElem_cons_succ, List.setIfInBounds_toArray, List.set_cons_zero, List.set_cons_succ]
            have sCb := hb4.at 4 _ rfl
            have fCb := hb4.frozen 4
            have H5 := Lib.hid HH
            clear HH
            have Q5b : Hid (Q w1 (w4b.setCell ⟨S, 4, none⟩ (.slice (some ⟨gb, 0, none⟩) ((c + 1) + 1) capb))) := Lib.hid (H5.out.grown Q1F.out (Nat.le_of_eq HS.out.1))
            refine Go.wpAnyH_ready (rs := [10]) (by kernel_rfl) (by simp) ?_
            refine Go.AllReadyH.cons rfl (fun K hK => ?_) Go.AllReadyH.nil
            rw [if_pos (by rfl)]
            go_simp
            refine hK.out _ _ ((SEb.out _ Q5b.out).1) (fun hHeld => ?_)
            clear hK K
            refine Go.wpAnyH_done (by kernel_rfl) ?_ _
            obtain ⟨w5b, hw5b⟩ : ∃ x, w4b.setCell ⟨S, 4, none⟩ (.slice (some ⟨gb, 0, none⟩) ((c + 1) + 1) capb) = x := ⟨_, rfl⟩
            rw [hw5b] at H5 Q5b ⊢
            clear hw5b sCb fCb hb4 q4b sAb sBb sBqb OWb HM2b Qwb Qab hHeld
            obtain ⟨wdb, hwdb⟩ : ∃ x, x = w5b.drew := ⟨_, rfl⟩
            have qdb : Q w5b wdb := by rw [hwdb]; exact Q.drew _
            obtain ⟨wab, hwab⟩ : ∃ x, x = wdb.alloc (.cells #[.int .i64 yk, .int .i64 yn, .string ys, .slice Y3 n5 y3, .slice Y4 n6 y4] 26) := ⟨_, rfl⟩
            have qab : Q wdb wab := by rw [hwab]; exact Q.box _ _
            have HMab := Lib.hid (H5.out.quiet (qdb.trans qab))
            rw [hwdb] at hwab
            have Qwb : Hid (Q w1 w5b.drew) := Lib.hid (by rw [← hwdb]; exact Q5b.out.trans qdb)
            have Qab : Hid (Q w1 (w5b.drew.alloc (.cells #[.int .i64 yk, .int .i64 yn, .string ys, .slice Y3 n5 y3, .slice Y4 n6 y4] 26))) := Lib.hid (by rw [← hwab]; exact Q5b.out.trans (qdb.trans qab))
            have sEb := H5.out.bk.at 3 _ rfl
            have sFb : (w5b.drew.alloc (.cells #[.int .i64 yk, .int .i64 yn, .string ys, .slice Y3 n5 y3, .slice Y4 n6 y4] 26)).cell? ⟨S, 3, none⟩ = some (.slice (some ⟨ha, 0, none⟩) (c + 1) cap6a) := by rw [← hwab]; exact HMab.out.bk.at 3 _ rfl
            have sFqb : (w5b.alloc (.cells #[.int .i64 yk, .int .i64 yn, .string ys, .slice Y3 n5 y3, .slice Y4 n6 y4] 26)).cell? ⟨S, 3, none⟩ = some (.slice (some ⟨ha, 0, none⟩) (c + 1) cap6a) := cell_stays (Q.box _ _) (H5.out.bk.at 3 _ rfl)
            obtain ⟨xs6, T6⟩ : ∃ xs6, Hid ((m ++ [(key, (⟨xk, xn, xs, xl, xks⟩ : V))]).length = (c + 1) ∧ Tw S 9 1 (.slice (some ⟨gb, 0, none⟩) ((c + 1) + 1) capb) ((c + 1) + 1) ((m ++ [(key, (⟨xk, xn, xs, xl, xks⟩ : V))]).map (fun b => .string b.1) ++ [.string kk]) 26 5 (.slice (some ⟨ha, 0, none⟩) (c + 1) cap6a) (c + 1) xs6 wf (w5b.drew.alloc (.cells #[.int .i64 yk, .int .i64 yn, .string ys, .slice Y3 n5 y3, .slice Y4 n6 y4] 26)) ∧ Rw (m ++ [(key, (⟨xk, xn, xs, xl, xks⟩ : V))]) xs6 (eo p w) ∧ Bk S #[.int .i64 5, .int .i64 0, .string ⟨#[]⟩, .slice (some ⟨ha, 0, none⟩) (c + 1) cap6a, .slice (some ⟨gb, 0, none⟩) ((c + 1) + 1) capb] 26 (w5b.drew.alloc (.cells #[.int .i64 yk, .int .i64 yn, .string ys, .slice Y3 n5 y3, .slice Y4 n6 y4] 26))) := by
              obtain ⟨hl6, ⟨xs6, tw6, rw6⟩, bk6⟩ := HMab.out
              rw [hwab] at tw6 bk6
              exact ⟨xs6, Lib.hid ⟨hl6, tw6, rw6, bk6⟩⟩
            have OXb := Lib.hid (And.intro T6.out.2.1.own2 T6.out.2.1.q.size)
            clear qdb HMab qab hwab hwdb wab wdb H5 Q5b
            go_wp2_with fail
            refine Go.wp_region_held_drew (S := fun w' => w'.cell? ⟨B, 3, none⟩ = some (.slice (some ⟨bi, oi, none⟩) n k3) ∧ w'.cell? ⟨bi, oi + k * 5, none⟩ = some (.int .i64 yk) ∧ w'.cell? ⟨bi, oi + k * 5 + 1, none⟩ = some (.int .i64 yn) ∧ w'.cell? ⟨bi, oi + k * 5 + 2, none⟩ = some (.string ys) ∧ w'.cell? ⟨bi, oi + k * 5 + 3, none⟩ = some (.slice Y3 n5 y3) ∧ w'.cell? ⟨bi, oi + k * 5 + 4, none⟩ = some (.slice Y4 n6 y4)) (by kernel_rfl) ((SEb.out _ Qwb.out).2) (fun hHeld => ?_)
            refine Go.wpAnyH_take (i := 0) (oi := _) (v := ?_) rfl (by kernel_rfl) (by kernel_rfl) (by kernel_rfl) (fun _ _ _ h => h) (Or.inl ⟨by rfl, ?_⟩) (by assumption) ?_
            rotate_left 1
            · intro wx hSw
              go_simp <;> with_reducible rfl
            simp only [Act.put, List.getElem_toArray, List.getElem_cons_zero, List.setIfInBounds_toArray, List.set_cons_zero, List.set_cons_succ]
            refine Go.wpAnyH_take (i := 2) (oi := _) (v := ?_) rfl (by kernel_rfl) (by kernel_rfl) (by kernel_rfl) (fun _ _ _ h => h) (Or.inl ⟨by rfl, ?_⟩) (by assumption) ?_
            rotate_left 1
            · intro wx hSw
              go_simp <;> with_reducible rfl
            simp only [Act.put, List.getElem_toArray, List.getElem_cons_zero, List.getElem_cons_succ, List.setIfInBounds_toArray, List.set_cons_zero, List.set_cons_succ]
            refine Go.wpAnyH_take (i := 3) (oi := _) (v := ?_) rfl (by kernel_rfl) (by kernel_rfl) (by kernel_rfl) (fun _ _ _ h => h) (Or.inl ⟨by rfl, ?_⟩) (by assumption) ?_
            rotate_left 1
            · intro wx hSw
              go_simp <;> with_reducible rfl
            simp only [Act.put, List.getElem_toArray, List.getElem_cons_zero, List.getElem_cons_succ, List.setIfInBounds_toArray, List.set_cons_zero, List.set_cons_succ]
            refine Go.wpAnyH_take (i := 4) (oi := _) (v := ?_) rfl (by kernel_rfl) (by kernel_rfl) (by kernel_rfl) (fun _ _ _ h => h) (Or.inl ⟨by rfl, ?_⟩) (by assumption) ?_
            rotate_left 1
            · intro wx hSw
              go_simp <;> with_reducible rfl
            simp only [Act.put, List.getElem_toArray, List.getElem_cons_zero, List.getElem_cons_succ, List.setIfInBounds_toArray, List.set_cons_zero, List.set_cons_succ]
            refine Go.wpAnyH_take (i := 5) (oi := _) (v := ?_) rfl (by kernel_rfl) (by kernel_rfl) (by kernel_rfl) (fun _ _ _ h => h) (Or.inl ⟨by rfl, ?_⟩) (by assumption) ?_
            rotate_left 1
            · intro wx hSw
              go_simp <;> with_reducible rfl
            simp only [Act.put, List.getElem_toArray, List.getElem_cons_zero, List.getElem_cons_succ, List.setIfInBounds_toArray, List.set_cons_zero, List.set_cons_succ]
            refine Go.wpAnyH_take (i := 6) (oi := _) (v := ?_) rfl (by kernel_rfl) (by kernel_rfl) (by kernel_rfl) (fun _ _ _ h => h) (Or.inl ⟨by rfl, ?_⟩) (by assumption) ?_
            rotate_left 1
            · intro wx hSw
              go_simp <;> with_reducible rfl
            simp only [Act.put, List.getElem_toArray, List.getElem_cons_zero, List.getElem_cons_succ, List.setIfInBounds_toArray, List.set_cons_zero, List.set_cons_succ]
            refine Go.wpAnyH_ready (rs := [1, 7]) (by kernel_rfl) (by simp) ?_
            refine Go.AllReadyH.cons rfl (fun K hK => ?_) (Go.AllReadyH.cons rfl (fun K hK => ?_) Go.AllReadyH.nil)
            · rw [if_pos (by rfl)]
              go_simp
              refine hK.out _ _ ((SEb.out _ Qwb.out).2) (fun hHeld => ?_)
              clear hK K
              refine Go.wpAnyH_ready (rs := [7]) (by kernel_rfl) (by simp) ?_
              refine Go.AllReadyH.cons rfl (fun K hK => ?_) Go.AllReadyH.nil
              rw [if_pos (by rfl)]
              go_simp
              refine hK.out _ _ ((SEb.out _ Qab.out).2) (fun hHeld => ?_)
              clear hK K
              refine Go.wpAnyH_ready (rs := [8]) (by kernel_rfl) (by simp) ?_
              refine Go.AllReadyH.cons rfl (fun K hK => ?_) Go.AllReadyH.nil
              refine step_val (by rfl) _ _ (by rfl) wf.heap.size (.slice (some ⟨ha, 0, none⟩) (c + 1) cap6a) (c + 1) xs6 rfl OXb.out.1 w5b.drew.heap.size rfl #[.int .i64 yk, .int .i64 yn, .string ys, .slice Y3 n5 y3, .slice Y4 n6 y4] rfl (heap_alloc_new _ _) (five_one _ _ _ _ _ _ _ _ _) (by omega) OXb.out.2 _ rfl ?_
              intro hb cap6b w6b O6 G6 hg6
              obtain ⟨HH, hb6⟩ := OH.push T6.out.1 T6.out.2.1 T6.out.2.2.1 T6.out.2.2.2 (⟨yk, yn, ys, yl, yks⟩ : V) HY.out.1 HY.out.2 O6 G6 hg6
              have q6b : Hid (Q w1 w6b) := Lib.hid (Q4.tw Q1F.out (Nat.le_of_eq HS.out.1) T6.out.2.1.swap G6)
              clear O6 G6 hg6
              refine hK.out _ _ ((SEb.out _ q6b.out).2) (fun hHeld => ?_)
              clear hK K
              refine Go.wpAnyH_take (i := 9) (oi := _) (v := ?_) rfl (by kernel_rfl) (by kernel_rfl) (by kernel_rfl) (fun _ _ _ h => h) (Or.inl ⟨by rfl, ?_⟩) (by assumption) ?_
              rotate_left 1
              · intro wx hSw
                go_simp <;> with_reducible rfl
              simp only [Act.put, List.getElem_toArray, List.getElem_cons_zero, List.getElem_cons_succ, List.setIfInBounds_toArray, List.set_cons_zero, List.set_cons_succ]
              have sGb := hb6.at 3 _ rfl
              have fGb := hb6.frozen 3
              have H7 := Lib.hid HH
              clear HH
              have Q7b : Hid (Q w1 (w6b.setCell ⟨S, 3, none⟩ (.slice (some ⟨hb, 0, none⟩) ((c + 1) + 1) cap6b))) := Lib.hid (H7.out.grown Q1F.out (Nat.le_of_eq HS.out.1))
              refine Go.wpAnyH_ready (rs := [10]) (by kernel_rfl) (by simp) ?_
              refine Go.AllReadyH.cons rfl (fun K hK => ?_) Go.AllReadyH.nil
              rw [if_pos (by rfl)]
              go_simp
              refine hK.out _ _ ((SEb.out _ Q7b.out).2) (fun hHeld => ?_)
              clear hK K
              refine Go.wpAnyH_done (by kernel_rfl) ?_ _
              obtain ⟨w7b, hw7b⟩ : ∃ x, w6b.setCell ⟨S, 3, none⟩ (.slice (some ⟨hb, 0, none⟩) ((c + 1) + 1) cap6b) = x := ⟨_, rfl⟩
              rw [hw7b] at H7 Q7b ⊢
              have H7b := H7
              clear hw7b sGb fGb hb6 q6b sEb sFb sFqb OXb T6 Qwb Qab hHeld SEb H7
              go_wp2_with fail
              go_roundw
              case rel => exact ⟨k + 1, true, ((m ++ [(key, (⟨xk, xn, xs, xl, xks⟩ : V))]) ++ [(kk, (⟨yk, yn, ys, yl, yks⟩ : V))]), ((c + 1) + 1), (some ⟨gb, 0, none⟩), capb, (some ⟨hb, 0, none⟩), cap6b, hkn.out, rfl, by go_num, H7b, Lib.hid (HR2.out)⟩
              case measure => have := hkn.out; simp [intOf]; omega
            · rw [if_pos (by rfl)]
              go_simp
              refine hK.out _ _ ((SEb.out _ Qab.out).2) (fun hHeld => ?_)
              clear hK K
              refine Go.wpAnyH_ready (rs := [1]) (by kernel_rfl) (by simp) ?_
              refine Go.AllReadyH.cons rfl (fun K hK => ?_) Go.AllReadyH.nil
              rw [if_pos (by rfl)]
              go_simp
              refine hK.out _ _ ((SEb.out _ Qab.out).2) (fun hHeld => ?_)
              clear hK K
              refine Go.wpAnyH_ready (rs := [8]) (by kernel_rfl) (by simp) ?_
              refine Go.AllReadyH.cons rfl (fun K hK => ?_) Go.AllReadyH.nil
              refine step_val (by rfl) _ _ (by rfl) wf.heap.size (.slice (some ⟨ha, 0, none⟩) (c + 1) cap6a) (c + 1) xs6 rfl OXb.out.1 w5b.drew.heap.size rfl #[.int .i64 yk, .int .i64 yn, .string ys, .slice Y3 n5 y3, .slice Y4 n6 y4] rfl (heap_alloc_new _ _) (five_one _ _ _ _ _ _ _ _ _) (by omega) OXb.out.2 _ rfl ?_
              intro hb cap6b w6b O6 G6 hg6
              obtain ⟨HH, hb6⟩ := OH.push T6.out.1 T6.out.2.1 T6.out.2.2.1 T6.out.2.2.2 (⟨yk, yn, ys, yl, yks⟩ : V) HY.out.1 HY.out.2 O6 G6 hg6
              have q6b : Hid (Q w1 w6b) := Lib.hid (Q4.tw Q1F.out (Nat.le_of_eq HS.out.1) T6.out.2.1.swap G6)
              clear O6 G6 hg6
              refine hK.out _ _ ((SEb.out _ q6b.out).2) (fun hHeld => ?_)
              clear hK K
              refine Go.wpAnyH_take (i := 9) (oi := _) (v := ?_) rfl (by kernel_rfl) (by kernel_rfl) (by kernel_rfl) (fun _ _ _ h => h) (Or.inl ⟨by rfl, ?_⟩) (by assumption) ?_
              rotate_left 1
              · intro wx hSw
                go_simp <;> with_reducible rfl
              simp only [Act.put, List.getElem_toArray, List.getElem_cons_zero, List.getElem_cons_succ, List.setIfInBounds_toArray, List.set_cons_zero, List.set_cons_succ]
              have sGb := hb6.at 3 _ rfl
              have fGb := hb6.frozen 3
              have H7 := Lib.hid HH
              clear HH
              have Q7b : Hid (Q w1 (w6b.setCell ⟨S, 3, none⟩ (.slice (some ⟨hb, 0, none⟩) ((c + 1) + 1) cap6b))) := Lib.hid (H7.out.grown Q1F.out (Nat.le_of_eq HS.out.1))
              refine Go.wpAnyH_ready (rs := [10]) (by kernel_rfl) (by simp) ?_
              refine Go.AllReadyH.cons rfl (fun K hK => ?_) Go.AllReadyH.nil
              rw [if_pos (by rfl)]
              go_simp
              refine hK.out _ _ ((SEb.out _ Q7b.out).2) (fun hHeld => ?_)
              clear hK K
              refine Go.wpAnyH_done (by kernel_rfl) ?_ _
              obtain ⟨w7b, hw7b⟩ : ∃ x, w6b.setCell ⟨S, 3, none⟩ (.slice (some ⟨hb, 0, none⟩) ((c + 1) + 1) cap6b) = x := ⟨_, rfl⟩
              rw [hw7b] at H7 Q7b ⊢
              have H7b := H7
              clear hw7b sGb fGb hb6 q6b sEb sFb sFqb OXb T6 Qwb Qab hHeld SEb H7
              go_wp2_with fail
              go_roundw
              case rel => exact ⟨k + 1, true, ((m ++ [(key, (⟨xk, xn, xs, xl, xks⟩ : V))]) ++ [(kk, (⟨yk, yn, ys, yl, yks⟩ : V))]), ((c + 1) + 1), (some ⟨gb, 0, none⟩), capb, (some ⟨hb, 0, none⟩), cap6b, hkn.out, rfl, by go_num, H7b, Lib.hid (HR2.out)⟩
              case measure => have := hkn.out; simp [intOf]; omega
          · rw [if_pos (by rfl)]
            go_simp
            refine hK.out _ _ ((SEb.out _ Qab.out).1) (fun hHeld => ?_)
            clear hK K
            refine Go.wpAnyH_ready (rs := [1]) (by kernel_rfl) (by simp) ?_
            refine Go.AllReadyH.cons rfl (fun K hK => ?_) Go.AllReadyH.nil
            rw [if_pos (by rfl)]
            go_simp
            refine hK.out _ _ ((SEb.out _ Qab.out).1) (fun hHeld => ?_)
            clear hK K
            refine Go.wpAnyH_ready (rs := [8]) (by kernel_rfl) (by simp) ?_
            refine Go.AllReadyH.cons rfl (fun K hK => ?_) Go.AllReadyH.nil
            refine step_str (by rfl) _ _ (by rfl) wf.heap.size (.slice (some ⟨ga, 0, none⟩) (c + 1) capa) (c + 1) _ rfl OWb.out.1 ⟨w7a.drew.heap.size, 0, none⟩ rfl (.string kk) (lit_one _ _ _) rfl (by omega) OWb.out.2 _ rfl ?_
            intro gb capb w4b O4 G4 hg4
            obtain ⟨HH, hb4⟩ := HM2b.out.push kk O4 G4 hg4
            have q4b : Hid (Q w1 w4b) := Lib.hid (by obtain ⟨_, t⟩ := HM2b.out.own; exact Q4.tw Q1F.out (Nat.le_of_eq HS.out.1) t G4)
            clear O4 G4 hg4
            refine hK.out _ _ ((SEb.out _ q4b.out).1) (fun hHeld => ?_)
            clear hK K
            refine Go.wpAnyH_take (i := 9) (oi := _) (v := ?_) rfl (by kernel_rfl) (by kernel_rfl) (by kernel_rfl) (fun _ _ _ h => h) (Or.inl ⟨by rfl, ?_⟩) (by assumption) ?_
            rotate_left 1
            · intro wx hSw
              go_simp <;> with_reducible rfl
            simp only [Act.put, List.getElem_toArray, List.getElem_cons_zero, List.getElem_cons_succ, List.setIfInBounds_toArray, List.set_cons_zero, List.set_cons_succ]
            have sCb := hb4.at 4 _ rfl
            have fCb := hb4.frozen 4
            have H5 := Lib.hid HH
            clear HH
            have Q5b : Hid (Q w1 (w4b.setCell ⟨S, 4, none⟩ (.slice (some ⟨gb, 0, none⟩) ((c + 1) + 1) capb))) := Lib.hid (H5.out.grown Q1F.out (Nat.le_of_eq HS.out.1))
            refine Go.wpAnyH_ready (rs := [10]) (by kernel_rfl) (by simp) ?_
            refine Go.AllReadyH.cons rfl (fun K hK => ?_) Go.AllReadyH.nil
            rw [if_pos (by rfl)]
            go_simp
            refine hK.out _ _ ((SEb.out _ Q5b.out).1) (fun hHeld => ?_)
            clear hK K
            refine Go.wpAnyH_done (by kernel_rfl) ?_ _
            obtain ⟨w5b, hw5b⟩ : ∃ x, w4b.setCell ⟨S, 4, none⟩ (.slice (some ⟨gb, 0, none⟩) ((c + 1) + 1) capb) = x := ⟨_, rfl⟩
            rw [hw5b] at H5 Q5b ⊢
            clear hw5b sCb fCb hb4 q4b sAb sBb sBqb OWb HM2b Qwb Qab hHeld
            obtain ⟨wdb, hwdb⟩ : ∃ x, x = w5b.drew := ⟨_, rfl⟩
            have qdb : Q w5b wdb := by rw [hwdb]; exact Q.drew _
            obtain ⟨wab, hwab⟩ : ∃ x, x = wdb.alloc (.cells #[.int .i64 yk, .int .i64 yn, .string ys, .slice Y3 n5 y3, .slice Y4 n6 y4] 26) := ⟨_, rfl⟩
            have qab : Q wdb wab := by rw [hwab]; exact Q.box _ _
            have HMab := Lib.hid (H5.out.quiet (qdb.trans qab))
            rw [hwdb] at hwab
            have Qwb : Hid (Q w1 w5b.drew) := Lib.hid (by rw [← hwdb]; exact Q5b.out.trans qdb)
            have Qab : Hid (Q w1 (w5b.drew.alloc (.cells #[.int .i64 yk, .int .i64 yn, .string ys, .slice Y3 n5 y3, .slice Y4 n6 y4] 26))) := Lib.hid (by rw [← hwab]; exact Q5b.out.trans (qdb.trans qab))
            have sEb := H5.out.bk.at 3 _ rfl
            have sFb : (w5b.drew.alloc (.cells #[.int .i64 yk, .int .i64 yn, .string ys, .slice Y3 n5 y3, .slice Y4 n6 y4] 26)).cell? ⟨S, 3, none⟩ = some (.slice (some ⟨ha, 0, none⟩) (c + 1) cap6a) := by rw [← hwab]; exact HMab.out.bk.at 3 _ rfl
            have sFqb : (w5b.alloc (.cells #[.int .i64 yk, .int .i64 yn, .string ys, .slice Y3 n5 y3, .slice Y4 n6 y4] 26)).cell? ⟨S, 3, none⟩ = some (.slice (some ⟨ha, 0, none⟩) (c + 1) cap6a) := cell_stays (Q.box _ _) (H5.out.bk.at 3 _ rfl)
            obtain ⟨xs6, T6⟩ : ∃ xs6, Hid ((m ++ [(key, (⟨xk, xn, xs, xl, xks⟩ : V))]).length = (c + 1) ∧ Tw S 9 1 (.slice (some ⟨gb, 0, none⟩) ((c + 1) + 1) capb) ((c + 1) + 1) ((m ++ [(key, (⟨xk, xn, xs, xl, xks⟩ : V))]).map (fun b => .string b.1) ++ [.string kk]) 26 5 (.slice (some ⟨ha, 0, none⟩) (c + 1) cap6a) (c + 1) xs6 wf (w5b.drew.alloc (.cells #[.int .i64 yk, .int .i64 yn, .string ys, .slice Y3 n5 y3, .slice Y4 n6 y4] 26)) ∧ Rw (m ++ [(key, (⟨xk, xn, xs, xl, xks⟩ : V))]) xs6 (eo p w) ∧ Bk S #[.int .i64 5, .int .i64 0, .string ⟨#[]⟩, .slice (some ⟨ha, 0, none⟩) (c + 1) cap6a, .slice (some ⟨gb, 0, none⟩) ((c + 1) + 1) capb] 26 (w5b.drew.alloc (.cells #[.int .i64 yk, .int .i64 yn, .string ys, .slice Y3 n5 y3, .slice Y4 n6 y4] 26))) := by
              obtain ⟨hl6, ⟨xs6, tw6, rw6⟩, bk6⟩ := HMab.out
              rw [hwab] at tw6 bk6
              exact ⟨xs6, Lib.hid ⟨hl6, tw6, rw6, bk6⟩⟩
            have OXb := Lib.hid (And.intro T6.out.2.1.own2 T6.out.2.1.q.size)
            clear qdb HMab qab hwab hwdb wab wdb H5 Q5b
            go_wp2_with fail
            refine Go.wp_region_held_drew (S := fun w' => w'.cell? ⟨B, 3, none⟩ = some (.slice (some ⟨bi, oi, none⟩) n k3) ∧ w'.cell? ⟨bi, oi + k * 5, none⟩ = some (.int .i64 yk) ∧ w'.cell? ⟨bi, oi + k * 5 + 1, none⟩ = some (.int .i64 yn) ∧ w'.cell? ⟨bi, oi + k * 5 + 2, none⟩ = some (.string ys) ∧ w'.cell? ⟨bi, oi + k * 5 + 3, none⟩ = some (.slice Y3 n5 y3) ∧ w'.cell? ⟨bi, oi + k * 5 + 4, none⟩ = some (.slice Y4 n6 y4)) (by kernel_rfl) ((SEb.out _ Qwb.out).2) (fun hHeld => ?_)
            refine Go.wpAnyH_take (i := 0) (oi := _) (v := ?_) rfl (by kernel_rfl) (by kernel_rfl) (by kernel_rfl) (fun _ _ _ h => h) (Or.inl ⟨by rfl, ?_⟩) (by assumption) ?_
            rotate_left 1
            · intro wx hSw
              go_simp <;> with_reducible rfl
            simp only [Act.put, List.getElem_toArray, List.getElem_cons_zero, List.setIfInBounds_toArray, List.set_cons_zero, List.set_cons_succ]
            refine Go.wpAnyH_take (i := 2) (oi := _) (v := ?_) rfl (by kernel_rfl) (by kernel_rfl) (by kernel_rfl) (fun _ _ _ h => h) (Or.inl ⟨by rfl, ?_⟩) (by assumption) ?_
            rotate_left 1
            · intro wx hSw
              go_simp <;> with_reducible rfl
            simp only [Act.put, List.getElem_toArray, List.getElem_cons_zero, List.getElem_cons_succ, List.setIfInBounds_toArray, List.set_cons_zero, List.set_cons_succ]
            refine Go.wpAnyH_take (i := 3) (oi := _) (v := ?_) rfl (by kernel_rfl) (by kernel_rfl) (by kernel_rfl) (fun _ _ _ h => h) (Or.inl ⟨by rfl, ?_⟩) (by assumption) ?_
            rotate_left 1
            · intro wx hSw
              go_simp <;> with_reducible rfl
            simp only [Act.put, List.getElem_toArray, List.getElem_cons_zero, List.getElem_cons_succ, List.setIfInBounds_toArray, List.set_cons_zero, List.set_cons_succ]
            refine Go.wpAnyH_take (i := 4) (oi := _) (v := ?_) rfl (by kernel_rfl) (by kernel_rfl) (by kernel_rfl) (fun _ _ _ h => h) (Or.inl ⟨by rfl, ?_⟩) (by assumption) ?_
            rotate_left 1
            · intro wx hSw
              go_simp <;> with_reducible rfl
            simp only [Act.put, List.getElem_toArray, List.getElem_cons_zero, List.getElem_cons_succ, List.setIfInBounds_toArray, List.set_cons_zero, List.set_cons_succ]
            refine Go.wpAnyH_take (i := 5) (oi := _) (v := ?_) rfl (by kernel_rfl) (by kernel_rfl) (by kernel_rfl) (fun _ _ _ h => h) (Or.inl ⟨by rfl, ?_⟩) (by assumption) ?_
            rotate_left 1
            · intro wx hSw
              go_simp <;> with_reducible rfl
            simp only [Act.put, List.getElem_toArray, List.getElem_cons_zero, List.getElem_cons_succ, List.setIfInBounds_toArray, List.set_cons_zero, List.set_cons_succ]
            refine Go.wpAnyH_take (i := 6) (oi := _) (v := ?_) rfl (by kernel_rfl) (by kernel_rfl) (by kernel_rfl) (fun _ _ _ h => h) (Or.inl ⟨by rfl, ?_⟩) (by assumption) ?_
            rotate_left 1
            · intro wx hSw
              go_simp <;> with_reducible rfl
            simp only [Act.put, List.getElem_toArray, List.getElem_cons_zero, List.getElem_cons_succ, List.setIfInBounds_toArray, List.set_cons_zero, List.set_cons_succ]
            refine Go.wpAnyH_ready (rs := [1, 7]) (by kernel_rfl) (by simp) ?_
            refine Go.AllReadyH.cons rfl (fun K hK => ?_) (Go.AllReadyH.cons rfl (fun K hK => ?_) Go.AllReadyH.nil)
            · rw [if_pos (by rfl)]
              go_simp
              refine hK.out _ _ ((SEb.out _ Qwb.out).2) (fun hHeld => ?_)
              clear hK K
              refine Go.wpAnyH_ready (rs := [7]) (by kernel_rfl) (by simp) ?_
              refine Go.AllReadyH.cons rfl (fun K hK => ?_) Go.AllReadyH.nil
              rw [if_pos (by rfl)]
              go_simp
              refine hK.out _ _ ((SEb.out _ Qab.out).2) (fun hHeld => ?_)
              clear hK K
              refine Go.wpAnyH_ready (rs := [8]) (by kernel_rfl) (by simp) ?_
              refine Go.AllReadyH.cons rfl (fun K hK => ?_) Go.AllReadyH.nil
              refine step_val (by rfl) _ _ (by rfl) wf.heap.size (.slice (some ⟨ha, 0, none⟩) (c + 1) cap6a) (c + 1) xs6 rfl OXb.out.1 w5b.drew.heap.size rfl #[.int .i64 yk, .int .i64 yn, .string ys, .slice Y3 n5 y3, .slice Y4 n6 y4] rfl (heap_alloc_new _ _) (five_one _ _ _ _ _ _ _ _ _) (by omega) OXb.out.2 _ rfl ?_
              intro hb cap6b w6b O6 G6 hg6
              obtain ⟨HH, hb6⟩ := OH.push T6.out.1 T6.out.2.1 T6.out.2.2.1 T6.out.2.2.2 (⟨yk, yn, ys, yl, yks⟩ : V) HY.out.1 HY.out.2 O6 G6 hg6
              have q6b : Hid (Q w1 w6b) := Lib.hid (Q4.tw Q1F.out (Nat.le_of_eq HS.out.1) T6.out.2.1.swap G6)
              clear O6 G6 hg6
              refine hK.out _ _ ((SEb.out _ q6b.out).2) (fun hHeld => ?_)
              clear hK K
              refine Go.wpAnyH_take (i := 9) (oi := _) (v := ?_) rfl (by kernel_rfl) (by kernel_rfl) (by kernel_rfl) (fun _ _ _ h => h) (Or.inl ⟨by rfl, ?_⟩) (by assumption) ?_
              rotate_left 1
              · intro wx hSw
                go_simp <;> with_reducible rfl
              simp only [Act.put, List.getElem_toArray, List.getElem_cons_zero, List.getElem_cons_succ, List.setIfInBounds_toArray, List.set_cons_zero, List.set_cons_succ]
              have sGb := hb6.at 3 _ rfl
              have fGb := hb6.frozen 3
              have H7 := Lib.hid HH
              clear HH
              have Q7b : Hid (Q w1 (w6b.setCell ⟨S, 3, none⟩ (.slice (some ⟨hb, 0, none⟩) ((c + 1) + 1) cap6b))) := Lib.hid (H7.out.grown Q1F.out (Nat.le_of_eq HS.out.1))
              refine Go.wpAnyH_ready (rs := [10]) (by kernel_rfl) (by simp) ?_
              refine Go.AllReadyH.cons rfl (fun K hK => ?_) Go.AllReadyH.nil
              rw [if_pos (by rfl)]
              go_simp
              refine hK.out _ _ ((SEb.out _ Q7b.out).2) (fun hHeld => ?_)
              clear hK K
              refine Go.wpAnyH_done (by kernel_rfl) ?_ _
              obtain ⟨w7b, hw7b⟩ : ∃ x, w6b.setCell ⟨S, 3, none⟩ (.slice (some ⟨hb, 0, none⟩) ((c + 1) + 1) cap6b) = x := ⟨_, rfl⟩
              rw [hw7b] at H7 Q7b ⊢
              have H7b := H7
              clear hw7b sGb fGb hb6 q6b sEb sFb sFqb OXb T6 Qwb Qab hHeld SEb H7
              go_wp2_with fail
              go_roundw
              case rel => exact ⟨k + 1, true, ((m ++ [(key, (⟨xk, xn, xs, xl, xks⟩ : V))]) ++ [(kk, (⟨yk, yn, ys, yl, yks⟩ : V))]), ((c + 1) + 1), (some ⟨gb, 0, none⟩), capb, (some ⟨hb, 0, none⟩), cap6b, hkn.out, rfl, by go_num, H7b, Lib.hid (HR2.out)⟩
              case measure => have := hkn.out; simp [intOf]; omega
            · rw [if_pos (by rfl)]
              go_simp
              refine hK.out _ _ ((SEb.out _ Qab.out).2) (fun hHeld => ?_)
              clear hK K
              refine Go.wpAnyH_ready (rs := [1]) (by kernel_rfl) (by simp) ?_
              refine Go.AllReadyH.cons rfl (fun K hK => ?_) Go.AllReadyH.nil
              rw [if_pos (by rfl)]
              go_simp
              refine hK.out _ _ ((SEb.out _ Qab.out).2) (fun hHeld => ?_)
              clear hK K
              refine Go.wpAnyH_ready (rs := [8]) (by kernel_rfl) (by simp) ?_
              refine Go.AllReadyH.cons rfl (fun K hK => ?_) Go.AllReadyH.nil
              refine step_val (by rfl) _ _ (by rfl) wf.heap.size (.slice (some ⟨ha, 0, none⟩) (c + 1) cap6a) (c + 1) xs6 rfl OXb.out.1 w5b.drew.heap.size rfl #[.int .i64 yk, .int .i64 yn, .string ys, .slice Y3 n5 y3, .slice Y4 n6 y4] rfl (heap_alloc_new _ _) (five_one _ _ _ _ _ _ _ _ _) (by omega) OXb.out.2 _ rfl ?_
              intro hb cap6b w6b O6 G6 hg6
              obtain ⟨HH, hb6⟩ := OH.push T6.out.1 T6.out.2.1 T6.out.2.2.1 T6.out.2.2.2 (⟨yk, yn, ys, yl, yks⟩ : V) HY.out.1 HY.out.2 O6 G6 hg6
              have q6b : Hid (Q w1 w6b) := Lib.hid (Q4.tw Q1F.out (Nat.le_of_eq HS.out.1) T6.out.2.1.swap G6)
              clear O6 G6 hg6
              refine hK.out _ _ ((SEb.out _ q6b.out).2) (fun hHeld => ?_)
              clear hK K
              refine Go.wpAnyH_take (i := 9) (oi := _) (v := ?_) rfl (by kernel_rfl) (by kernel_rfl) (by kernel_rfl) (fun _ _ _ h => h) (Or.inl ⟨by rfl, ?_⟩) (by assumption) ?_
              rotate_left 1
              · intro wx hSw
                go_simp <;> with_reducible rfl
              simp only [Act.put, List.getElem_toArray, List.getElem_cons_zero, List.getElem_cons_succ, List.setIfInBounds_toArray, List.set_cons_zero, List.set_cons_succ]
              have sGb := hb6.at 3 _ rfl
              have fGb := hb6.frozen 3
              have H7 := Lib.hid HH
              clear HH
              have Q7b : Hid (Q w1 (w6b.setCell ⟨S, 3, none⟩ (.slice (some ⟨hb, 0, none⟩) ((c + 1) + 1) cap6b))) := Lib.hid (H7.out.grown Q1F.out (Nat.le_of_eq HS.out.1))
              refine Go.wpAnyH_ready (rs := [10]) (by kernel_rfl) (by simp) ?_
              refine Go.AllReadyH.cons rfl (fun K hK => ?_) Go.AllReadyH.nil
              rw [if_pos (by rfl)]
              go_simp
              refine hK.out _ _ ((SEb.out _ Q7b.out).2) (fun hHeld => ?_)
              clear hK K
              refine Go.wpAnyH_done (by kernel_rfl) ?_ _
              obtain ⟨w7b, hw7b⟩ : ∃ x, w6b.setCell ⟨S, 3, none⟩ (.slice (some ⟨hb, 0, none⟩) ((c + 1) + 1) cap6b) = x := ⟨_, rfl⟩
              rw [hw7b] at H7 Q7b ⊢
              have H7b := H7
              clear hw7b sGb fGb hb6 q6b sEb sFb sFqb OXb T6 Qwb Qab hHeld SEb H7
              go_wp2_with fail
              go_roundw
              case rel => exact ⟨k + 1, true, ((m ++ [(key, (⟨xk, xn, xs, xl, xks⟩ : V))]) ++ [(kk, (⟨yk, yn, ys, yl, yks⟩ : V))]), ((c + 1) + 1), (some ⟨gb, 0, none⟩), capb, (some ⟨hb, 0, none⟩), cap6b, hkn.out, rfl, by go_num, H7b, Lib.hid (HR2.out)⟩
              case measure => have := hkn.out; simp [intOf]; omega

end Go.Proofs.YtjmchjphdfbhiaaGreatDoor.val
