/- The statements' functions few and Same. -/
import Derived.Test.YthekabflbpfjoaaGreatDoorAvbm
namespace Go.Proofs.YthekabflbpfjoaaGreatDoor.adr
open Go.RowKit
open Go.Proofs.YthekabflbpfjoaaGreatDoor

/-- What few asks. -/
def FewOk (ms : List St) (r : Rs) : Prop := ms.length ≤ 40 ∧ r.type.size ≤ 5000 ∧ r.name.size ≤ 5000 ∧ r.key.str.size ≤ 5000 ∧ ∀ (i : Nat) (h : i < ms.length), ms[i].name.size ≤ 5000 ∧ ms[i].key.str.size ≤ 5000
/-- The strings of an address that came in are no longer than any may be. -/
structure Am (ms : List St) (r : Rs) : Prop where
  len : ms.length ≤ maxLen
  type : r.type.size ≤ maxLen
  name : r.name.size ≤ maxLen
  str : r.key.str.size ≤ maxLen
  kind : -9223372036854775808 ≤ r.key.kind ∧ r.key.kind ≤ 9223372036854775807
  num : -9223372036854775808 ≤ r.key.num ∧ r.key.num ≤ 9223372036854775807
  steps : ∀ (i : Nat) (h : i < ms.length), ms[i].name.size ≤ maxLen ∧ ms[i].key.str.size ≤ maxLen ∧ (-9223372036854775808 ≤ ms[i].key.kind ∧ ms[i].key.kind ≤ 9223372036854775807) ∧ (-9223372036854775808 ≤ ms[i].key.num ∧ ms[i].key.num ≤ 9223372036854775807)
theorem Am.ab {ms : List St} {r : Rs} (h : Am ms r) (f : FewOk ms r) : Ab ms r := by
  obtain ⟨f1, f2, f3, f4, f5⟩ := f
  refine ⟨fun s hs => ?_, by omega, by omega, ⟨h.kind, h.num, by omega⟩⟩
  obtain ⟨i, hi, rfl⟩ := List.getElem_of_mem hs
  obtain ⟨_, _, k1, k2⟩ := h.steps i hi
  have := f5 i hi
  exact ⟨by omega, ⟨k1, k2, by omega⟩⟩

def FewEnds (ms : List St) (r : Rs) (w : World) (e : Ending) (w' : World) : Prop := ∃ B, e = .returned (.bool B) ∧ Hid (B = true → FewOk ms r) ∧ Q w w'
theorem FewEnds.no {ms : List St} {r : Rs} {w w' : World} (q : Q w w') : FewEnds ms r w (.returned (.bool false)) w' := ⟨false, rfl, Lib.hid (fun h => by cases h), q⟩
theorem FewEnds.yes {ms : List St} {r : Rs} {w w' : World} (h : Hid (FewOk ms r)) (q : Q w w') : FewEnds ms r w (.returned (.bool true)) w' := ⟨true, rfl, Lib.hid (fun _ => h.out), q⟩
set_option maxHeartbeats 8000000 in
theorem few_any (A : Option Addr) (n c : Nat) (ms : List St) (r : Rs) (w : World) (hn : n = ms.length) (hI : In A ms w) (hm : Am ms r) :
    Calls Tryz.prog 7 #[rv (.slice A n c) r] w (FewEnds ms r w) := by
  have hnl := hm.len
  have h1 := hm.type
  have h2 := hm.name
  have h3 := hm.str
  have hst : Hid (∀ (i : Nat) (h : i < ms.length), ms[i].name.size ≤ maxLen ∧ ms[i].key.str.size ≤ maxLen) := Lib.hid fun i h => ⟨(hm.steps i h).1, (hm.steps i h).2.1⟩
  rw [← hn] at hnl
  clear hm
  obtain ⟨d, ty, nm, ⟨kd, m, t⟩⟩ := r
  simp only at h1 h2 h3
  have HN := Lib.hid hn
  have HI := Lib.hid hI
  clear hn hI
  unfold rv maxLen at *
  simp only
  by_cases a0 : (40 : Int) < (n : Int)
  · clear HI
    go_enter Tryz.func7, Tryz.ntmps7
    go_wp2_with fail
    go_ret
    exact FewEnds.no (Q.alloc _ _)
  by_cases a1 : (5000 : Int) < (ty.size : Int)
  · clear HI
    go_enter Tryz.func7, Tryz.ntmps7
    go_wp2_with fail
    go_ret
    exact FewEnds.no (Q.alloc _ _)
  by_cases a2 : (5000 : Int) < (nm.size : Int)
  · clear HI
    go_enter Tryz.func7, Tryz.ntmps7
    go_wp2_with fail
    go_ret
    exact FewEnds.no (Q.alloc _ _)
  by_cases a3 : (5000 : Int) < (t.size : Int)
  · clear HI
    go_enter Tryz.func7, Tryz.ntmps7
    go_wp2_with fail
    go_ret
    exact FewEnds.no (Q.alloc _ _)
  have H0 : Hid (n ≤ 40 ∧ ty.size ≤ 5000 ∧ nm.size ≤ 5000 ∧ t.size ≤ 5000) := Lib.hid (by omega)
  go_enter Tryz.func7, Tryz.ntmps7
  go_wp2_with fail
  go_loop [3] (fun i => ∃ k : Nat, k ≤ n ∧ i = .int .i64 k ∧ Hid (∀ (j : Nat) (h : j < ms.length), j < k → ms[j].name.size ≤ 5000 ∧ ms[j].key.str.size ≤ 5000)) (fun i => n - (intOf i).toNat)
  case atStart => exact ⟨0, Nat.zero_le _, rfl, Lib.hid (fun j _ h => absurd h (Nat.not_lt_zero _))⟩
  case round =>
    obtain ⟨k, hk, rfl, HS⟩ := hrel
    by_cases hlt : k < n
    · have hlt2 : k < ms.length := by rw [← HN.out]; exact hlt
      have hne : ms ≠ [] := by intro e; rw [e] at hlt2; cases hlt2
      have hc2 := HI.out.stays (Q.alloc w (.cells #[.slice A n c, .bool d, .string ty, .string nm, .int .i64 kd, .int .i64 m, .string t] 27))
      obtain ⟨b, o, rfl, hbb, hcc⟩ := hc2 hne
      obtain ⟨g0, g1, g2, g3⟩ := hcc k hlt2
      have hsz := hst.out k hlt2
      have hlt' : (k : Int) < (n : Int) := by omega
      have k40 : (k : Int) ≤ 40 := by omega
      clear hbb hcc hne
      have hstep : Hid (ms[k].name.size ≤ 5000 → ms[k].key.str.size ≤ 5000 → ∀ (j : Nat) (h : j < ms.length), j < k + 1 → ms[j].name.size ≤ 5000 ∧ ms[j].key.str.size ≤ 5000) := Lib.hid fun x y j hj hjk => by
        by_cases e : j = k
        · subst e; exact ⟨x, y⟩
        · exact HS.out j hj (by omega)
      generalize ms[k].name = sn at *
      generalize ms[k].key.str = st at *
      clear hst HS
      by_cases b0 : (5000 : Int) < (sn.size : Int)
      · go_wp2_with fail
        go_ret
        exact FewEnds.no (Q.alloc _ _)
      by_cases b1 : (5000 : Int) < (st.size : Int)
      · go_wp2_with fail
        go_ret
        exact FewEnds.no (Q.alloc _ _)
      have hs' := Lib.hid (hstep.out (by omega) (by omega))
      clear hstep
      go_wp2_with fail
      go_round
      case rel => exact ⟨k + 1, by omega, by go_num, hs'⟩
      case measure => simp [intOf]; omega
    · obtain rfl : n = k := by omega
      have hlt' : ¬ (n : Int) < (n : Int) := by omega
      have HF : Hid (FewOk ms ⟨d, ty, nm, ⟨kd, m, t⟩⟩) := Lib.hid ⟨by have := HN.out; have := H0.out.1; omega, H0.out.2.1, H0.out.2.2.1, H0.out.2.2.2, fun i hi => HS.out i hi (by have := HN.out; omega)⟩
      clear HS HI hst
      go_wp2_with fail
      go_ret
      exact FewEnds.yes HF (Q.alloc _ _)

theorem tl_iff (a b : ByteArray) : (a.toList == b.toList) = true ↔ a = b := by
  rw [Lib.toList_data, Lib.toList_data, beq_iff_eq]
  exact ⟨ba_ext, fun h => by rw [h]⟩
def SameEnds (ms ms' : List St) (r r' : Rs) (w : World) (e : Ending) (w' : World) : Prop := ∃ B, e = .returned (.bool B) ∧ Hid (B = true ↔ ms = ms' ∧ r = r') ∧ Q w w'
theorem SameEnds.no {ms ms' : List St} {r r' : Rs} {w w' : World} (h : Hid (¬ (ms = ms' ∧ r = r'))) (q : Q w w') : SameEnds ms ms' r r' w (.returned (.bool false)) w' := ⟨false, rfl, Lib.hid ⟨(fun h => by cases h), fun x => absurd x h.out⟩, q⟩
theorem SameEnds.yes {ms ms' : List St} {r r' : Rs} {w w' : World} (h : Hid (ms = ms' ∧ r = r')) (q : Q w w') : SameEnds ms ms' r r' w (.returned (.bool true)) w' := ⟨true, rfl, Lib.hid ⟨fun _ => h.out, fun _ => rfl⟩, q⟩
theorem two_alloc (w : World) (o o' : Obj) : Q w ((w.alloc o).alloc o') := (Q.alloc w o).trans (Q.alloc _ o')

set_option maxHeartbeats 16000000 in
theorem same_any (A A' : Option Addr) (n c n' c' : Nat) (ms ms' : List St) (r r' : Rs) (w : World) (hn : n = ms.length) (hn' : n' = ms'.length) (hI : In A ms w) (hI' : In A' ms' w) (hl : n ≤ maxLen) (hl' : n' ≤ maxLen) :
    Calls Tryz.prog 19 #[rv (.slice A n c) r, rv (.slice A' n' c') r'] w (SameEnds ms ms' r r' w) := by
  unfold maxLen at hl hl'
  obtain ⟨d, ty, nm, ⟨kd, m, t⟩⟩ := r
  obtain ⟨d', ty', nm', ⟨kd', m', t'⟩⟩ := r'
  have HN := Lib.hid hn
  have HN' := Lib.hid hn'
  have HI := Lib.hid hI
  have HI' := Lib.hid hI'
  clear hn hn' hI hI'
  unfold rv
  simp only
  by_cases a0 : n = n'
  rotate_left 1
  · have hno : Hid (¬ (ms = ms' ∧ (⟨d, ty, nm, ⟨kd, m, t⟩⟩ : Rs) = ⟨d', ty', nm', ⟨kd', m', t'⟩⟩)) := Lib.hid fun h => a0 (by rw [HN.out, HN'.out, h.1])
    have b0 : ((n : Int) != (n' : Int)) = true := by rw [bne_iff_ne]; omega
    clear a0 HN HN' HI HI'
    go_enter Tryz.func19, Tryz.ntmps19
    go_wp2_with fail
    go_ret
    exact SameEnds.no hno (two_alloc _ _ _)
  have b0 : ((n : Int) != (n' : Int)) = false := by rw [bne_eq_false_iff_eq]; omega
  cases a1 : (d != d') with
  | true =>
    have hno : Hid (¬ (ms = ms' ∧ (⟨d, ty, nm, ⟨kd, m, t⟩⟩ : Rs) = ⟨d', ty', nm', ⟨kd', m', t'⟩⟩)) := Lib.hid fun h => by
      have := congrArg Rs.data h.2
      simp only at this
      rw [this] at a1
      simp at a1
    clear a0 HN HN' HI HI'
    cases d <;> cases d' <;> first | (cases a1; done) | skip
    all_goals
      go_enter Tryz.func19, Tryz.ntmps19
      go_wp2_with fail
      go_ret
      exact SameEnds.no hno (two_alloc _ _ _)
  | false =>
  have hd : d = d' := by simpa using a1
  subst hd
  cases a2 : (ty.toList == ty'.toList) with
  | false =>
    have hno : Hid (¬ (ms = ms' ∧ (⟨d, ty, nm, ⟨kd, m, t⟩⟩ : Rs) = ⟨d, ty', nm', ⟨kd', m', t'⟩⟩)) := Lib.hid fun h => by
      have := (tl_iff ty ty').2 (congrArg Rs.type h.2)
      rw [a2] at this
      cases this
    clear a0 a1 HN HN' HI HI'
    go_enter Tryz.func19, Tryz.ntmps19
    go_wp2_with fail
    go_ret
    exact SameEnds.no hno (two_alloc _ _ _)
  | true =>
  cases a3 : (nm.toList == nm'.toList) with
  | false =>
    have hno : Hid (¬ (ms = ms' ∧ (⟨d, ty, nm, ⟨kd, m, t⟩⟩ : Rs) = ⟨d, ty', nm', ⟨kd', m', t'⟩⟩)) := Lib.hid fun h => by
      have := (tl_iff nm nm').2 (congrArg Rs.name h.2)
      rw [a3] at this
      cases this
    clear a0 a1 HN HN' HI HI'
    go_enter Tryz.func19, Tryz.ntmps19
    go_wp2_with fail
    go_ret
    exact SameEnds.no hno (two_alloc _ _ _)
  | true =>
  cases a4 : (kd == kd') with
  | false =>
    have hno : Hid (¬ (ms = ms' ∧ (⟨d, ty, nm, ⟨kd, m, t⟩⟩ : Rs) = ⟨d, ty', nm', ⟨kd', m', t'⟩⟩)) := Lib.hid fun h => by
      have := congrArg (fun x => x.key.kind) h.2
      simp only at this
      rw [this] at a4
      simp at a4
    clear a0 a1 HN HN' HI HI'
    go_enter Tryz.func19, Tryz.ntmps19
    go_wp2_with fail
    go_ret
    exact SameEnds.no hno (two_alloc _ _ _)
  | true =>
  cases a5 : (m == m') with
  | false =>
    have hno : Hid (¬ (ms = ms' ∧ (⟨d, ty, nm, ⟨kd, m, t⟩⟩ : Rs) = ⟨d, ty', nm', ⟨kd', m', t'⟩⟩)) := Lib.hid fun h => by
      have := congrArg (fun x => x.key.num) h.2
      simp only at this
      rw [this] at a5
      simp at a5
    clear a0 a1 HN HN' HI HI'
    go_enter Tryz.func19, Tryz.ntmps19
    go_wp2_with fail
    go_ret
    exact SameEnds.no hno (two_alloc _ _ _)
  | true =>
  cases a6 : (t.toList == t'.toList) with
  | false =>
    have hno : Hid (¬ (ms = ms' ∧ (⟨d, ty, nm, ⟨kd, m, t⟩⟩ : Rs) = ⟨d, ty', nm', ⟨kd', m', t'⟩⟩)) := Lib.hid fun h => by
      have := (tl_iff t t').2 (congrArg (fun x => x.key.str) h.2)
      rw [a6] at this
      cases this
    clear a0 a1 HN HN' HI HI'
    go_enter Tryz.func19, Tryz.ntmps19
    go_wp2_with fail
    go_ret
    exact SameEnds.no hno (two_alloc _ _ _)
  | true =>
  have HR : Hid ((⟨d, ty, nm, ⟨kd, m, t⟩⟩ : Rs) = ⟨d, ty', nm', ⟨kd', m', t'⟩⟩) := Lib.hid (by
    rw [(tl_iff ty ty').1 a2, (tl_iff nm nm').1 a3, beq_iff_eq.1 a4, beq_iff_eq.1 a5, (tl_iff t t').1 a6])
  subst a0
  go_enter Tryz.func19, Tryz.ntmps19
  go_wp2_with fail
  have Q0 := Lib.hid (two_alloc w (.cells #[.slice A n c, .bool d, .string ty, .string nm, .int .i64 kd, .int .i64 m, .string t] 27) (.cells #[.slice A' n c', .bool d, .string ty', .string nm', .int .i64 kd', .int .i64 m', .string t'] 27))
  have B2 := Lib.hid ((Bk.new #[.slice A n c, .bool d, .string ty, .string nm, .int .i64 kd, .int .i64 m, .string t] 27 w).stays (Q.alloc _ (.cells #[.slice A' n c', .bool d, .string ty', .string nm', .int .i64 kd', .int .i64 m', .string t'] 27)))
  have B3 := Lib.hid (Bk.new #[.slice A' n c', .bool d, .string ty', .string nm', .int .i64 kd', .int .i64 m', .string t'] 27 (w.alloc (.cells #[.slice A n c, .bool d, .string ty, .string nm, .int .i64 kd, .int .i64 m, .string t] 27)))
  have e3 : (w.alloc (.cells #[.slice A n c, .bool d, .string ty, .string nm, .int .i64 kd, .int .i64 m, .string t] 27)).heap.size = w.heap.size + 1 := by simp
  rw [e3] at B3
  clear e3 a1 a2 a3 a4 a5 a6 b0
  generalize (w.alloc (.cells #[.slice A n c, .bool d, .string ty, .string nm, .int .i64 kd, .int .i64 m, .string t] 27)).alloc (.cells #[.slice A' n c', .bool d, .string ty', .string nm', .int .i64 kd', .int .i64 m', .string t'] 27) = w2 at *
  go_loopw [5] (fun i wr => ∃ k : Nat, k ≤ n ∧ i = .int .i64 k ∧ Hid (Q w wr) ∧ Hid (Bk w.heap.size #[.slice A n c, .bool d, .string ty, .string nm, .int .i64 kd, .int .i64 m, .string t] 27 wr) ∧ Hid (Bk (w.heap.size + 1) #[.slice A' n c', .bool d, .string ty', .string nm', .int .i64 kd', .int .i64 m', .string t'] 27 wr) ∧ Hid (∀ (j : Nat) (h : j < ms.length) (h' : j < ms'.length), j < k → ms[j] = ms'[j])) (fun i _ => n - (intOf i).toNat)
  case atStart => exact ⟨0, Nat.zero_le _, rfl, Q0, B2, B3, Lib.hid (fun j _ _ h => absurd h (Nat.not_lt_zero _))⟩
  case round =>
    clear Q0 B2 B3
    obtain ⟨k, hk, rfl, QQ, B2, B3, HH⟩ := hrel
    have u0 := B2.out.at 0 _ rfl
    have v0 := B3.out.at 0 _ rfl
    by_cases hlt : k < n
    · have hlt1 : k < ms.length := by rw [← HN.out]; exact hlt
      have hlt2 : k < ms'.length := by rw [← HN'.out]; exact hlt
      obtain ⟨b, o, rfl, _, hcc⟩ := (HI.out.stays QQ.out) (by intro e; rw [e] at hlt1; cases hlt1)
      obtain ⟨g0, g1, g2, g3⟩ := hcc k hlt1
      obtain ⟨b', o', rfl, _, hcc'⟩ := (HI'.out.stays QQ.out) (by intro e; rw [e] at hlt2; cases hlt2)
      obtain ⟨g0', g1', g2', g3'⟩ := hcc' k hlt2
      have hdiff : Hid ((ms[k] = ms'[k] → False) → ms = ms' → False) := Lib.hid (fun h e => h (by subst e; rfl))
      have hnext : Hid (ms[k] = ms'[k] → ∀ (j : Nat) (h : j < ms.length) (h' : j < ms'.length), j < k + 1 → ms[j] = ms'[j]) := Lib.hid (fun e j h h' hj => by
        by_cases ej : j = k
        · subst ej; exact e
        · exact HH.out j h h' (by omega))
      have f0 : (0 : Int) ≤ (k : Int) := by omega
      have f1 : (k : Int) < (n : Int) := by omega
      clear hcc hcc'
      generalize ms[k] = x at *
      generalize ms'[k] = y at *
      obtain ⟨xn, xk, xm, xt⟩ := x
      obtain ⟨yn, yk, ym, yt⟩ := y
      simp only at g0 g1 g2 g3 g0' g1' g2' g3'
      clear hlt1 hlt2 HI HI' hk
      cases s0 : (xn.toList == yn.toList) with
      | false =>
        have hno : Hid (¬ (ms = ms' ∧ (⟨d, ty, nm, ⟨kd, m, t⟩⟩ : Rs) = ⟨d, ty', nm', ⟨kd', m', t'⟩⟩)) := Lib.hid fun h => hdiff.out (fun e => by injection e with e1 e2; rw [e1] at s0; simp at s0) h.1
        clear hdiff HH hnext
        go_wp2_with fail
        go_quiet (fail)
        go_wp2_with fail
        go_ret
        exact SameEnds.no hno (QQ.out.trans (Q.drewN _ _))
      | true =>
      cases s1 : (xk == yk) with
      | false =>
        have hno : Hid (¬ (ms = ms' ∧ (⟨d, ty, nm, ⟨kd, m, t⟩⟩ : Rs) = ⟨d, ty', nm', ⟨kd', m', t'⟩⟩)) := Lib.hid fun h => hdiff.out (fun e => by injection e with e1 e2; injection e2 with e3 e4 e5; rw [e3] at s1; simp at s1) h.1
        clear hdiff HH hnext
        go_wp2_with fail
        go_quiet (fail)
        go_wp2_with fail
        go_ret
        exact SameEnds.no hno (QQ.out.trans (Q.drewN _ _))
      | true =>
      cases s2 : (xm == ym) with
      | false =>
        have hno : Hid (¬ (ms = ms' ∧ (⟨d, ty, nm, ⟨kd, m, t⟩⟩ : Rs) = ⟨d, ty', nm', ⟨kd', m', t'⟩⟩)) := Lib.hid fun h => hdiff.out (fun e => by injection e with e1 e2; injection e2 with e3 e4 e5; rw [e4] at s2; simp at s2) h.1
        clear hdiff HH hnext
        go_wp2_with fail
        go_quiet (fail)
        go_wp2_with fail
        go_ret
        exact SameEnds.no hno (QQ.out.trans (Q.drewN _ _))
      | true =>
      cases s3 : (xt.toList == yt.toList) with
      | false =>
        have hno : Hid (¬ (ms = ms' ∧ (⟨d, ty, nm, ⟨kd, m, t⟩⟩ : Rs) = ⟨d, ty', nm', ⟨kd', m', t'⟩⟩)) := Lib.hid fun h => hdiff.out (fun e => by injection e with e1 e2; injection e2 with e3 e4 e5; rw [e5] at s3; simp at s3) h.1
        clear hdiff HH hnext
        go_wp2_with fail
        go_quiet (fail)
        go_wp2_with fail
        go_ret
        exact SameEnds.no hno (QQ.out.trans (Q.drewN _ _))
      | true =>
        have hnx := Lib.hid (hnext.out (by rw [(tl_iff xn yn).1 s0, beq_iff_eq.1 s1, beq_iff_eq.1 s2, (tl_iff xt yt).1 s3]))
        clear hnext hdiff HH
        go_wp2_with fail
        go_quiet (fail)
        replace QQ := Lib.hid (QQ.out.trans (Q.drewN _ nq))
        replace B2 := Lib.hid (B2.out.drewN nq)
        replace B3 := Lib.hid (B3.out.drewN nq)
        go_wp2_with fail
        go_roundw
        case rel => exact ⟨k + 1, hlt, by go_num, QQ, B2, B3, hnx⟩
        case measure => simp [intOf]; omega
    · obtain rfl : n = k := by omega
      have hy : Hid (ms = ms' ∧ (⟨d, ty, nm, ⟨kd, m, t⟩⟩ : Rs) = ⟨d, ty', nm', ⟨kd', m', t'⟩⟩) := Lib.hid ⟨List.ext_getElem (HN.out.symm.trans HN'.out) (fun j h h' => HH.out j h h' (by have := HN.out; omega)), HR.out⟩
      clear HH HR HI HI' HN HN'
      go_wp2_with fail
      go_ret
      exact SameEnds.yes hy QQ.out

end Go.Proofs.YthekabflbpfjoaaGreatDoor.adr
