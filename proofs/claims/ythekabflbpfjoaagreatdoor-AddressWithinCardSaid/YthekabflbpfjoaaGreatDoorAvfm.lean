/- Within: whether an address belongs to a place. -/
import Derived.Test.YthekabflbpfjoaaGreatDoorAvdm
import Derived.Test.YthekabflbpfjoaaGreatDoorAvem
namespace Go.Proofs.YthekabflbpfjoaaGreatDoor.adr
open Go.RowKit
open Go.Proofs.YthekabflbpfjoaaGreatDoor

/-- A name with its key matches one of a place. -/
def Mt (x p : St) : Prop := x.name = p.name ∧ (p.key = K.zero ∨ x.key = p.key)
def MtEnds (x p : St) (w : World) (e : Ending) (w' : World) : Prop := ∃ B, e = .returned (.bool B) ∧ Hid (B = true ↔ Mt x p) ∧ Q w w'
theorem MtEnds.no {x p : St} {w w' : World} (h : Hid (¬ Mt x p)) (q : Q w w') : MtEnds x p w (.returned (.bool false)) w' := ⟨false, rfl, Lib.hid ⟨(fun h => by cases h), fun y => absurd y h.out⟩, q⟩
theorem MtEnds.yes {x p : St} {w w' : World} (h : Hid (Mt x p)) (q : Q w w') : MtEnds x p w (.returned (.bool true)) w' := ⟨true, rfl, Lib.hid ⟨fun _ => h.out, fun _ => rfl⟩, q⟩
theorem zero_of {k m : Int} {t : ByteArray} (h0 : (k == 0) = true) (h1 : (m == 0) = true) (h2 : t.toList.isEmpty = true) : (⟨k, m, t⟩ : K) = K.zero := by
  rw [beq_iff_eq.1 h0, beq_iff_eq.1 h1, ba_empty (s := t) (by rw [Lib.size_eq, (isEmpty_nil t).1 h2]; rfl)]
  rfl
set_option maxHeartbeats 16000000 in
theorem matches_any (x p : St) (w : World) :
    Calls Tryz.prog 76 #[sv x, sv p] w (MtEnds x p w) := by
  obtain ⟨xn, xk, xm, xt⟩ := x
  obtain ⟨pn, pk, pm, pt⟩ := p
  unfold sv
  simp only
  cases s0 : (xn.toList == pn.toList) with
  | false =>
    have hno : Hid (¬ Mt ⟨xn, xk, xm, xt⟩ ⟨pn, pk, pm, pt⟩) := Lib.hid fun h => by
      have := (tl_iff xn pn).2 h.1
      rw [s0] at this
      cases this
    go_enter Tryz.func76, Tryz.ntmps76
    go_wp2_with fail
    go_ret
    exact MtEnds.no hno (two_alloc _ _ _)
  | true =>
  have hnm := Lib.hid ((tl_iff xn pn).1 s0)
  cases z0 : (pk == 0) with
  | false =>
    have hz : Hid (¬ (⟨pk, pm, pt⟩ : K) = K.zero) := Lib.hid fun h => by
      have e1 := congrArg K.kind h
      simp only at e1
      rw [e1] at z0
      exact absurd z0 (by decide)
    cases b0 : (xk == pk) with
    | false =>
      have hno : Hid (¬ Mt ⟨xn, xk, xm, xt⟩ ⟨pn, pk, pm, pt⟩) := Lib.hid fun h => by
        rcases h.2 with h | h
        · exact hz.out h
        · have e1 := congrArg K.kind h
          simp only at e1
          rw [e1] at b0; simp at b0
      go_enter Tryz.func76, Tryz.ntmps76
      go_wp2_with fail
      go_ret
      exact MtEnds.no hno (two_alloc _ _ _)
    | true =>
    cases b1 : (xm == pm) with
    | false =>
      have hno : Hid (¬ Mt ⟨xn, xk, xm, xt⟩ ⟨pn, pk, pm, pt⟩) := Lib.hid fun h => by
        rcases h.2 with h | h
        · exact hz.out h
        · have e1 := congrArg K.num h
          simp only at e1
          rw [e1] at b1; simp at b1
      go_enter Tryz.func76, Tryz.ntmps76
      go_wp2_with fail
      go_ret
      exact MtEnds.no hno (two_alloc _ _ _)
    | true =>
    cases b2 : (xt.toList == pt.toList) with
    | false =>
      have hno : Hid (¬ Mt ⟨xn, xk, xm, xt⟩ ⟨pn, pk, pm, pt⟩) := Lib.hid fun h => by
        rcases h.2 with h | h
        · exact hz.out h
        · have e1 := congrArg K.str h
          simp only at e1
          rw [e1] at b2; simp at b2
      go_enter Tryz.func76, Tryz.ntmps76
      go_wp2_with fail
      go_ret
      exact MtEnds.no hno (two_alloc _ _ _)
    | true =>
    have hy : Hid (Mt ⟨xn, xk, xm, xt⟩ ⟨pn, pk, pm, pt⟩) := Lib.hid ⟨hnm.out, .inr (by show (⟨xk, xm, xt⟩ : K) = ⟨pk, pm, pt⟩; rw [beq_iff_eq.1 b0, beq_iff_eq.1 b1, (tl_iff xt pt).1 b2])⟩
    go_enter Tryz.func76, Tryz.ntmps76
    go_wp2_with fail
    go_ret
    exact MtEnds.yes hy (two_alloc _ _ _)
  | true =>
  cases z1 : (pm == 0) with
  | false =>
    have hz : Hid (¬ (⟨pk, pm, pt⟩ : K) = K.zero) := Lib.hid fun h => by
      have e1 := congrArg K.num h
      simp only at e1
      rw [e1] at z1
      exact absurd z1 (by decide)
    cases b0 : (xk == pk) with
    | false =>
      have hno : Hid (¬ Mt ⟨xn, xk, xm, xt⟩ ⟨pn, pk, pm, pt⟩) := Lib.hid fun h => by
        rcases h.2 with h | h
        · exact hz.out h
        · have e1 := congrArg K.kind h
          simp only at e1
          rw [e1] at b0; simp at b0
      go_enter Tryz.func76, Tryz.ntmps76
      go_wp2_with fail
      go_ret
      exact MtEnds.no hno (two_alloc _ _ _)
    | true =>
    cases b1 : (xm == pm) with
    | false =>
      have hno : Hid (¬ Mt ⟨xn, xk, xm, xt⟩ ⟨pn, pk, pm, pt⟩) := Lib.hid fun h => by
        rcases h.2 with h | h
        · exact hz.out h
        · have e1 := congrArg K.num h
          simp only at e1
          rw [e1] at b1; simp at b1
      go_enter Tryz.func76, Tryz.ntmps76
      go_wp2_with fail
      go_ret
      exact MtEnds.no hno (two_alloc _ _ _)
    | true =>
    cases b2 : (xt.toList == pt.toList) with
    | false =>
      have hno : Hid (¬ Mt ⟨xn, xk, xm, xt⟩ ⟨pn, pk, pm, pt⟩) := Lib.hid fun h => by
        rcases h.2 with h | h
        · exact hz.out h
        · have e1 := congrArg K.str h
          simp only at e1
          rw [e1] at b2; simp at b2
      go_enter Tryz.func76, Tryz.ntmps76
      go_wp2_with fail
      go_ret
      exact MtEnds.no hno (two_alloc _ _ _)
    | true =>
    have hy : Hid (Mt ⟨xn, xk, xm, xt⟩ ⟨pn, pk, pm, pt⟩) := Lib.hid ⟨hnm.out, .inr (by show (⟨xk, xm, xt⟩ : K) = ⟨pk, pm, pt⟩; rw [beq_iff_eq.1 b0, beq_iff_eq.1 b1, (tl_iff xt pt).1 b2])⟩
    go_enter Tryz.func76, Tryz.ntmps76
    go_wp2_with fail
    go_ret
    exact MtEnds.yes hy (two_alloc _ _ _)
  | true =>
  cases z2 : pt.toList.isEmpty with
  | false =>
    have hz : Hid (¬ (⟨pk, pm, pt⟩ : K) = K.zero) := Lib.hid fun h => by
      have e1 := congrArg K.str h
      simp only at e1
      rw [e1] at z2
      rw [(isEmpty_nil K.zero.str).2 rfl] at z2
      cases z2
    cases b0 : (xk == pk) with
    | false =>
      have hno : Hid (¬ Mt ⟨xn, xk, xm, xt⟩ ⟨pn, pk, pm, pt⟩) := Lib.hid fun h => by
        rcases h.2 with h | h
        · exact hz.out h
        · have e1 := congrArg K.kind h
          simp only at e1
          rw [e1] at b0; simp at b0
      go_enter Tryz.func76, Tryz.ntmps76
      go_wp2_with fail
      go_ret
      exact MtEnds.no hno (two_alloc _ _ _)
    | true =>
    cases b1 : (xm == pm) with
    | false =>
      have hno : Hid (¬ Mt ⟨xn, xk, xm, xt⟩ ⟨pn, pk, pm, pt⟩) := Lib.hid fun h => by
        rcases h.2 with h | h
        · exact hz.out h
        · have e1 := congrArg K.num h
          simp only at e1
          rw [e1] at b1; simp at b1
      go_enter Tryz.func76, Tryz.ntmps76
      go_wp2_with fail
      go_ret
      exact MtEnds.no hno (two_alloc _ _ _)
    | true =>
    cases b2 : (xt.toList == pt.toList) with
    | false =>
      have hno : Hid (¬ Mt ⟨xn, xk, xm, xt⟩ ⟨pn, pk, pm, pt⟩) := Lib.hid fun h => by
        rcases h.2 with h | h
        · exact hz.out h
        · have e1 := congrArg K.str h
          simp only at e1
          rw [e1] at b2; simp at b2
      go_enter Tryz.func76, Tryz.ntmps76
      go_wp2_with fail
      go_ret
      exact MtEnds.no hno (two_alloc _ _ _)
    | true =>
    have hy : Hid (Mt ⟨xn, xk, xm, xt⟩ ⟨pn, pk, pm, pt⟩) := Lib.hid ⟨hnm.out, .inr (by show (⟨xk, xm, xt⟩ : K) = ⟨pk, pm, pt⟩; rw [beq_iff_eq.1 b0, beq_iff_eq.1 b1, (tl_iff xt pt).1 b2])⟩
    go_enter Tryz.func76, Tryz.ntmps76
    go_wp2_with fail
    go_ret
    exact MtEnds.yes hy (two_alloc _ _ _)
  | true =>
  have hy : Hid (Mt ⟨xn, xk, xm, xt⟩ ⟨pn, pk, pm, pt⟩) := Lib.hid ⟨hnm.out, .inl (zero_of z0 z1 z2)⟩
  go_enter Tryz.func76, Tryz.ntmps76
  go_wp2_with fail
  go_ret
  exact MtEnds.yes hy (two_alloc _ _ _)


/-- The steps of a place match those of an address. -/
def Mts (xs ps : List St) : Prop := ∀ (i : Nat) (h : i < xs.length) (h' : i < ps.length), Mt xs[i] ps[i]
def EqEnds (xs ps : List St) (w : World) (e : Ending) (w' : World) : Prop := ∃ B, e = .returned (.bool B) ∧ Hid (B = true ↔ Mts xs ps) ∧ Q w w'
theorem EqEnds.no {xs ps : List St} {w w' : World} (h : Hid (¬ Mts xs ps)) (q : Q w w') : EqEnds xs ps w (.returned (.bool false)) w' := ⟨false, rfl, Lib.hid ⟨(fun h => by cases h), fun y => absurd y h.out⟩, q⟩
theorem EqEnds.yes {xs ps : List St} {w w' : World} (h : Hid (Mts xs ps)) (q : Q w w') : EqEnds xs ps w (.returned (.bool true)) w' := ⟨true, rfl, Lib.hid ⟨fun _ => h.out, fun _ => rfl⟩, q⟩
set_option maxHeartbeats 16000000 in
theorem equalFunc_any (A A' : Option Addr) (n c c' : Nat) (xs ps : List St) (w : World) (hn : n = xs.length) (hn' : n = ps.length) (hI : In A xs w) (hI' : In A' ps w) (hl : n ≤ 1000) :
    Calls Tryz.prog 75 #[.slice A n c, .slice A' n c', .func (.func 76) #[] #[]] w (EqEnds xs ps w) := by
  have HN := Lib.hid hn
  have HN' := Lib.hid hn'
  have HI := Lib.hid hI
  have HI' := Lib.hid hI'
  have cM : Hid (∀ x p w', Calls Tryz.prog 76 #[.agg #[.string x.name, .int .i64 x.key.kind, .int .i64 x.key.num, .string x.key.str], .agg #[.string p.name, .int .i64 p.key.kind, .int .i64 p.key.num, .string p.key.str]] w' (MtEnds x p w')) := Lib.hid (fun x p w' => matches_any x p w')
  clear hn hn' hI hI'
  go_enter Tryz.func75, Tryz.ntmps75
  go_wp2_with fail
  go_loopw [17] (fun i wr => ∃ k : Nat, k ≤ n ∧ i = .int .i64 k ∧ Hid (Q w wr) ∧ Hid (∀ (j : Nat) (h : j < xs.length) (h' : j < ps.length), j < k → Mt xs[j] ps[j])) (fun i _ => n - (intOf i).toNat)
  case atStart => exact ⟨0, Nat.zero_le _, rfl, Lib.hid (Q.refl _), Lib.hid (fun j _ _ h => absurd h (Nat.not_lt_zero _))⟩
  case round =>
    obtain ⟨k, hk, rfl, QQ, HH⟩ := hrel
    by_cases hlt : k < n
    · have hlt1 : k < xs.length := by rw [← HN.out]; exact hlt
      have hlt2 : k < ps.length := by rw [← HN'.out]; exact hlt
      obtain ⟨b, o, rfl, hb, hcc⟩ := (HI.out.stays QQ.out) (by intro e; rw [e] at hlt1; cases hlt1)
      obtain ⟨g0, g1, g2, g3⟩ := hcc k hlt1
      have hcc2 := (HI'.out.stays (QQ.out.trans (Q.alloc wr (.cells #[.string xs[k].name, .int .i64 xs[k].key.kind, .int .i64 xs[k].key.num, .string xs[k].key.str] 44)))) (by intro e; rw [e] at hlt2; cases hlt2)
      obtain ⟨b', o', rfl, hb', hcc'⟩ := hcc2
      obtain ⟨g0', g1', g2', g3'⟩ := hcc' k hlt2
      have hnext : Hid (Mt xs[k] ps[k] → ∀ (j : Nat) (h : j < xs.length) (h' : j < ps.length), j < k + 1 → Mt xs[j] ps[j]) := Lib.hid (fun e j h h' hj => by
        by_cases ej : j = k
        · subst ej; exact e
        · exact HH.out j h h' (by omega))
      have hdiff : Hid (¬ Mt xs[k] ps[k] → ¬ Mts xs ps) := Lib.hid (fun h e => h (e k hlt1 hlt2))
      have f0 : (0 : Int) ≤ (k : Int) := by omega
      have f1 : (k : Int) < (n : Int) := by omega
      have cK := Lib.hid (cM.out xs[k] ps[k])
      clear hcc hcc' hb hb' HH HI HI' hk
      generalize xs[k] = x at *
      generalize ps[k] = y at *
      obtain ⟨xn, xk, xm, xt⟩ := x
      obtain ⟨yn, yk, ym, yt⟩ := y
      simp only at g0 g1 g2 g3 g0' g1' g2' g3' cK
      go_wp2_with fail
      refine (cK.out _).mono ?_; rintro e w4 ⟨B, rfl, hB, q4⟩
      replace QQ := Lib.hid (((QQ.out.trans (Q.alloc wr (.cells #[.string xn, .int .i64 xk, .int .i64 xm, .string xt] 44))).trans (Q.alloc _ (.cells #[.string yn, .int .i64 yk, .int .i64 ym, .string yt] 44))).trans q4)
      clear q4 cK cM
      cases B with
      | true =>
        have hnx := Lib.hid (hnext.out (hB.out.1 rfl))
        clear hnext hdiff hB
        go_wp2_with fail
        go_roundw
        case rel => exact ⟨k + 1, hlt, by go_num, QQ, hnx⟩
        case measure => simp [intOf]; omega
      | false =>
        have hno : Hid (¬ Mts xs ps) := Lib.hid (hdiff.out (fun h => by have := hB.out.2 h; cases this))
        clear hnext hdiff hB
        go_wp2_with fail
        go_ret
        exact EqEnds.no hno QQ.out
    · obtain rfl : n = k := by omega
      have hy : Hid (Mts xs ps) := Lib.hid (fun j h h' => HH.out j h h' (by have := HN.out; omega))
      clear HH HI HI' cM
      go_wp2_with fail
      go_ret
      exact EqEnds.yes hy QQ.out

/-- An address belongs to a place: its steps, and (unless that is a path) its resource. -/
def Bl (ms : List St) (r : Rs) (ps : List St) (q : Rs) : Prop :=
  (ps.length ≤ ms.length ∧ Mts (ms.take ps.length) ps) ∧ (q.type.data.toList = [] ∨ (ms.length = ps.length ∧ r.data = q.data ∧ r.type = q.type ∧ Mt ⟨r.name, r.key⟩ ⟨q.name, q.key⟩))
def BlEnds (ms : List St) (r : Rs) (ps : List St) (q : Rs) (w : World) (e : Ending) (w' : World) : Prop := ∃ B, e = .returned (.bool B) ∧ Hid (B = true ↔ Bl ms r ps q) ∧ Q w w'
theorem BlEnds.no {ms ps : List St} {r q : Rs} {w w' : World} (h : Hid (¬ Bl ms r ps q)) (k : Q w w') : BlEnds ms r ps q w (.returned (.bool false)) w' := ⟨false, rfl, Lib.hid ⟨(fun h => by cases h), fun y => absurd y h.out⟩, k⟩
theorem BlEnds.yes {ms ps : List St} {r q : Rs} {w w' : World} (h : Hid (Bl ms r ps q)) (k : Q w w') : BlEnds ms r ps q w (.returned (.bool true)) w' := ⟨true, rfl, Lib.hid ⟨fun _ => h.out, fun _ => rfl⟩, k⟩
theorem In.take {A : Option Addr} {ms : List St} {w : World} (h : In A ms w) (k : Nat) : In A (ms.take k) w := fun hne => by
  obtain ⟨b, o, e, hb, hc⟩ := h (by intro e; rw [e] at hne; simp at hne)
  refine ⟨b, o, e, hb, fun i hi => ?_⟩
  have hi2 : i < ms.length := by rw [List.length_take] at hi; omega
  have := hc i hi2
  simpa using this

set_option maxHeartbeats 16000000 in
theorem belongs_less (A A' : Option Addr) (n c n' c' : Nat) (ms ps : List St) (r q : Rs) (w : World) (hn : n = ms.length) (hn' : n' = ps.length) (hlt : n < n') :
    Calls Tryz.prog 52 #[rv (.slice A n c) r, rv (.slice A' n' c') q] w (BlEnds ms r ps q w) := by
  have hno : Hid (¬ Bl ms r ps q) := Lib.hid (fun h => by have := h.1.1; omega)
  obtain ⟨d, ty, nm, ⟨kd, m, t⟩⟩ := r
  obtain ⟨d', ty', nm', ⟨kd', m', t'⟩⟩ := q
  unfold rv
  simp only
  have f1 : (n : Int) < (n' : Int) := by omega
  clear hn hn'
  go_enter Tryz.func52, Tryz.ntmps52
  go_wp2_with fail
  go_quiet (fail)
  go_wp2_with fail
  go_ret
  exact BlEnds.no hno ((two_alloc w _ _).trans (Q.drewN _ _))

theorem isPath_at (v : Value) (hv : ∃ A n c, v = .slice A n c) (d : Bool) (ty nm : ByteArray) (kd m : Int) (t : ByteArray) (w : World) :
    Calls Tryz.prog 40 #[.agg #[v, .bool d, .string ty, .string nm, .int .i64 kd, .int .i64 m, .string t]] w fun e w' => e = .returned (.bool ty.toList.isEmpty) ∧ Q w w' := by
  obtain ⟨A, n, c, rfl⟩ := hv
  exact isPath_any A n c ⟨d, ty, nm, ⟨kd, m, t⟩⟩ w
set_option maxHeartbeats 32000000 in
theorem belongs_some (b o n c : Nat) (A' : Option Addr) (n' c' : Nat) (ms ps : List St) (d : Bool) (ty nm : ByteArray) (kd m : Int) (t : ByteArray) (d' : Bool) (ty' nm' : ByteArray) (kd' m' : Int) (t' : ByteArray) (w : World) (hn : n = ms.length) (hn' : n' = ps.length) (hI : In (some ⟨b, o, none⟩) ms w) (hI' : In A' ps w) (hl' : n' ≤ 1000) (hle : n' ≤ n) (hc : n ≤ c) :
    Calls Tryz.prog 52 #[.agg #[.slice (some ⟨b, o, none⟩) n c, .bool d, .string ty, .string nm, .int .i64 kd, .int .i64 m, .string t], .agg #[.slice A' n' c', .bool d', .string ty', .string nm', .int .i64 kd', .int .i64 m', .string t']] w (BlEnds ms (⟨d, ty, nm, ⟨kd, m, t⟩⟩ : Rs) ps (⟨d', ty', nm', ⟨kd', m', t'⟩⟩ : Rs) w) := by
  have HN := Lib.hid hn
  have HN' := Lib.hid hn'
  have f1 : (n' : Int) ≤ (n : Int) := by omega
  have f2 : (0 : Int) ≤ (n' : Int) := by omega
  have f3 : (n' : Int) ≤ (c : Int) := by omega
  have cE : Hid (∀ w', Q w w' → Calls Tryz.prog 75 #[.slice (some ⟨b, o, none⟩) n' c, .slice A' n' c', .func (.func 76) #[] #[]] w' (EqEnds (ms.take ps.length) ps w')) := Lib.hid (fun w' q => by
    have h := equalFunc_any (some ⟨b, o, none⟩) A' n' c c' (ms.take ps.length) ps w' (by rw [List.length_take]; omega) hn' ((hI.stays q).take _) (hI'.stays q) hl'
    exact h)
  have cI := Lib.hid (fun w' => isPath_at (.slice A' n' c') ⟨_, _, _, rfl⟩ d' ty' nm' kd' m' t' w')
  have cM : Hid (∀ w', Calls Tryz.prog 76 #[.agg #[.string nm, .int .i64 kd, .int .i64 m, .string t], .agg #[.string nm', .int .i64 kd', .int .i64 m', .string t']] w' (MtEnds ⟨nm, ⟨kd, m, t⟩⟩ ⟨nm', ⟨kd', m', t'⟩⟩ w')) := Lib.hid (fun w' => matches_any ⟨nm, ⟨kd, m, t⟩⟩ ⟨nm', ⟨kd', m', t'⟩⟩ w')
  clear hn hn' hI hI'
  go_enter Tryz.func52, Tryz.ntmps52
  go_wp2_with fail
  have Q0 := Lib.hid (two_alloc w (.cells #[.slice (some ⟨b, o, none⟩) n c, .bool d, .string ty, .string nm, .int .i64 kd, .int .i64 m, .string t] 27) (.cells #[.slice A' n' c', .bool d', .string ty', .string nm', .int .i64 kd', .int .i64 m', .string t'] 27))
  have B2 := Lib.hid ((Bk.new #[.slice (some ⟨b, o, none⟩) n c, .bool d, .string ty, .string nm, .int .i64 kd, .int .i64 m, .string t] 27 w).stays (Q.alloc _ (.cells #[.slice A' n' c', .bool d', .string ty', .string nm', .int .i64 kd', .int .i64 m', .string t'] 27)))
  have B3 := Lib.hid (Bk.new #[.slice A' n' c', .bool d', .string ty', .string nm', .int .i64 kd', .int .i64 m', .string t'] 27 (w.alloc (.cells #[.slice (some ⟨b, o, none⟩) n c, .bool d, .string ty, .string nm, .int .i64 kd, .int .i64 m, .string t] 27)))
  have e3 : (w.alloc (.cells #[.slice (some ⟨b, o, none⟩) n c, .bool d, .string ty, .string nm, .int .i64 kd, .int .i64 m, .string t] 27)).heap.size = w.heap.size + 1 := by simp
  rw [e3] at B3
  clear e3
  generalize (w.alloc (.cells #[.slice (some ⟨b, o, none⟩) n c, .bool d, .string ty, .string nm, .int .i64 kd, .int .i64 m, .string t] 27)).alloc (.cells #[.slice A' n' c', .bool d', .string ty', .string nm', .int .i64 kd', .int .i64 m', .string t'] 27) = w2 at *
  have hS : Hid (Bk w.heap.size #[.slice (some ⟨b, o, none⟩) n c, .bool d, .string ty, .string nm, .int .i64 kd, .int .i64 m, .string t] 27 w2.drew ∧ Bk (w.heap.size + 1) #[.slice A' n' c', .bool d', .string ty', .string nm', .int .i64 kd', .int .i64 m', .string t'] 27 w2.drew ∧ Q w w2.drew) := Lib.hid ⟨B2.out, B3.out, Q0.out.trans (Q.drewN _ 1)⟩
  clear B2 B3 Q0
  have f4 : ((n : Int) < (n' : Int)) = False := by simp; omega
  have f5 : ¬ (n : Int) < (n' : Int) := by omega
  go_region_held3 (fun w' => w'.cell? ⟨w.heap.size, 0, none⟩ = some (.slice (some ⟨b, o, none⟩) n c) ∧ w'.cell? ⟨w.heap.size + 1, 0, none⟩ = some (.slice A' n' c'))
    (first | exact ⟨hS.out.1.at 0 _ rfl, hS.out.2.1.at 0 _ rfl⟩ | exact ⟨(hS.out.1.stays q4).at 0 _ rfl, (hS.out.2.1.stays q4).at 0 _ rfl⟩)
    ((go_at_call 75; refine (cE.out _ hS.out.2.2).mono ?_; rintro e w4 ⟨B, rfl, hB, q4⟩))
  have B2 := Lib.hid (hS.out.1.stays q4)
  have B3 := Lib.hid (hS.out.2.1.stays q4)
  have QQ := Lib.hid (hS.out.2.2.trans q4)
  clear hS q4 cE
  cases B with
  | false =>
    have hno : Hid (¬ Bl ms (⟨d, ty, nm, ⟨kd, m, t⟩⟩ : Rs) ps (⟨d', ty', nm', ⟨kd', m', t'⟩⟩ : Rs)) := Lib.hid (fun h => by have := hB.out.2 h.1.2; cases this)
    clear hB cI cM
    go_wp2_with fail
    go_ret
    exact BlEnds.no hno QQ.out
  | true =>
    have HP : Hid (ps.length ≤ ms.length ∧ Mts (ms.take ps.length) ps) := Lib.hid ⟨by have h1 := HN.out; have h2 := HN'.out; omega, hB.out.1 rfl⟩
    clear hB
    have u0 := B2.out.at 0 (.slice (some ⟨b, o, none⟩) n c) rfl
    have u1 := B2.out.at 1 (.bool d) rfl
    have u2 := B2.out.at 2 (.string ty) rfl
    have u3 := B2.out.at 3 (.string nm) rfl
    have u4 := B2.out.at 4 (.int .i64 kd) rfl
    have u5 := B2.out.at 5 (.int .i64 m) rfl
    have u6 := B2.out.at 6 (.string t) rfl
    have v0 := B3.out.at 0 (.slice A' n' c') rfl
    have v1 := B3.out.at 1 (.bool d') rfl
    have v2 := B3.out.at 2 (.string ty') rfl
    have v3 := B3.out.at 3 (.string nm') rfl
    have v4 := B3.out.at 4 (.int .i64 kd') rfl
    have v5 := B3.out.at 5 (.int .i64 m') rfl
    have v6 := B3.out.at 6 (.string t') rfl
    cases hp : ty'.toList.isEmpty with
    | true =>
      have hy : Hid (Bl ms (⟨d, ty, nm, ⟨kd, m, t⟩⟩ : Rs) ps (⟨d', ty', nm', ⟨kd', m', t'⟩⟩ : Rs)) := Lib.hid ⟨HP.out, .inl ((isEmpty_nil ty').1 hp)⟩
      rw [hp] at cI
      clear HP
      go_wp2_with fail
      refine (cI.out _).mono ?_; rintro e w6 ⟨rfl, q6⟩
      go_wp2_with fail
      go_ret
      exact BlEnds.yes hy (QQ.out.trans q6)
    | false =>
    have hty : Hid (¬ ty'.data.toList = []) := Lib.hid (fun h => by rw [(isEmpty_nil ty').2 h] at hp; cases hp)
    rw [hp] at cI
    clear hp
    cases x0 : ((n : Int) == (n' : Int)) with
    | false =>
      have hno : Hid (¬ Bl ms (⟨d, ty, nm, ⟨kd, m, t⟩⟩ : Rs) ps (⟨d', ty', nm', ⟨kd', m', t'⟩⟩ : Rs)) := Lib.hid fun h => by
        rcases h.2 with h | h
        · exact hty.out h
        · have e1 : n = n' := by rw [HN.out, HN'.out]; exact h.1
          rw [e1] at x0; simp at x0
      go_wp2_with fail
      refine (cI.out _).mono ?_; rintro e w6 ⟨rfl, q6⟩
      have Q6 := Lib.hid (QQ.out.trans q6)
      have B2' := Lib.hid (B2.out.stays q6)
      have B3' := Lib.hid (B3.out.stays q6)
      clear q6
      have u0' := B2'.out.at 0 (.slice (some ⟨b, o, none⟩) n c) rfl
      have u1' := B2'.out.at 1 (.bool d) rfl
      have u2' := B2'.out.at 2 (.string ty) rfl
      have u3' := B2'.out.at 3 (.string nm) rfl
      have u4' := B2'.out.at 4 (.int .i64 kd) rfl
      have u5' := B2'.out.at 5 (.int .i64 m) rfl
      have u6' := B2'.out.at 6 (.string t) rfl
      have v0' := B3'.out.at 0 (.slice A' n' c') rfl
      have v1' := B3'.out.at 1 (.bool d') rfl
      have v2' := B3'.out.at 2 (.string ty') rfl
      have v3' := B3'.out.at 3 (.string nm') rfl
      have v4' := B3'.out.at 4 (.int .i64 kd') rfl
      have v5' := B3'.out.at 5 (.int .i64 m') rfl
      have v6' := B3'.out.at 6 (.string t') rfl
      clear B2' B3'
      go_wp2_with fail
      go_ret
      exact BlEnds.no hno Q6.out
    | true =>
    cases x1 : (d == d') with
    | false =>
      have hno : Hid (¬ Bl ms (⟨d, ty, nm, ⟨kd, m, t⟩⟩ : Rs) ps (⟨d', ty', nm', ⟨kd', m', t'⟩⟩ : Rs)) := Lib.hid fun h => by
        rcases h.2 with h | h
        · exact hty.out h
        · have e1 : d = d' := h.2.1
          rw [e1] at x1; simp at x1
      go_wp2_with fail
      refine (cI.out _).mono ?_; rintro e w6 ⟨rfl, q6⟩
      have Q6 := Lib.hid (QQ.out.trans q6)
      have B2' := Lib.hid (B2.out.stays q6)
      have B3' := Lib.hid (B3.out.stays q6)
      clear q6
      have u0' := B2'.out.at 0 (.slice (some ⟨b, o, none⟩) n c) rfl
      have u1' := B2'.out.at 1 (.bool d) rfl
      have u2' := B2'.out.at 2 (.string ty) rfl
      have u3' := B2'.out.at 3 (.string nm) rfl
      have u4' := B2'.out.at 4 (.int .i64 kd) rfl
      have u5' := B2'.out.at 5 (.int .i64 m) rfl
      have u6' := B2'.out.at 6 (.string t) rfl
      have v0' := B3'.out.at 0 (.slice A' n' c') rfl
      have v1' := B3'.out.at 1 (.bool d') rfl
      have v2' := B3'.out.at 2 (.string ty') rfl
      have v3' := B3'.out.at 3 (.string nm') rfl
      have v4' := B3'.out.at 4 (.int .i64 kd') rfl
      have v5' := B3'.out.at 5 (.int .i64 m') rfl
      have v6' := B3'.out.at 6 (.string t') rfl
      clear B2' B3'
      go_wp2_with fail
      go_ret
      exact BlEnds.no hno Q6.out
    | true =>
    cases x2 : (ty.toList == ty'.toList) with
    | false =>
      have hno : Hid (¬ Bl ms (⟨d, ty, nm, ⟨kd, m, t⟩⟩ : Rs) ps (⟨d', ty', nm', ⟨kd', m', t'⟩⟩ : Rs)) := Lib.hid fun h => by
        rcases h.2 with h | h
        · exact hty.out h
        · have e1 : ty = ty' := h.2.2.1
          rw [e1] at x2; simp at x2
      go_wp2_with fail
      refine (cI.out _).mono ?_; rintro e w6 ⟨rfl, q6⟩
      have Q6 := Lib.hid (QQ.out.trans q6)
      have B2' := Lib.hid (B2.out.stays q6)
      have B3' := Lib.hid (B3.out.stays q6)
      clear q6
      have u0' := B2'.out.at 0 (.slice (some ⟨b, o, none⟩) n c) rfl
      have u1' := B2'.out.at 1 (.bool d) rfl
      have u2' := B2'.out.at 2 (.string ty) rfl
      have u3' := B2'.out.at 3 (.string nm) rfl
      have u4' := B2'.out.at 4 (.int .i64 kd) rfl
      have u5' := B2'.out.at 5 (.int .i64 m) rfl
      have u6' := B2'.out.at 6 (.string t) rfl
      have v0' := B3'.out.at 0 (.slice A' n' c') rfl
      have v1' := B3'.out.at 1 (.bool d') rfl
      have v2' := B3'.out.at 2 (.string ty') rfl
      have v3' := B3'.out.at 3 (.string nm') rfl
      have v4' := B3'.out.at 4 (.int .i64 kd') rfl
      have v5' := B3'.out.at 5 (.int .i64 m') rfl
      have v6' := B3'.out.at 6 (.string t') rfl
      clear B2' B3'
      go_wp2_with fail
      go_ret
      exact BlEnds.no hno Q6.out
    | true =>
      have hall : Hid (ms.length = ps.length ∧ d = d' ∧ ty = ty') := Lib.hid ⟨by have h1 := HN.out; have h2 := HN'.out; rw [beq_iff_eq] at x0; omega, beq_iff_eq.1 x1, (tl_iff ty ty').1 x2⟩
      go_wp2_with fail
      refine (cI.out _).mono ?_; rintro e w6 ⟨rfl, q6⟩
      have Q6 := Lib.hid (QQ.out.trans q6)
      have B2' := Lib.hid (B2.out.stays q6)
      have B3' := Lib.hid (B3.out.stays q6)
      clear q6
      have u0' := B2'.out.at 0 (.slice (some ⟨b, o, none⟩) n c) rfl
      have u1' := B2'.out.at 1 (.bool d) rfl
      have u2' := B2'.out.at 2 (.string ty) rfl
      have u3' := B2'.out.at 3 (.string nm) rfl
      have u4' := B2'.out.at 4 (.int .i64 kd) rfl
      have u5' := B2'.out.at 5 (.int .i64 m) rfl
      have u6' := B2'.out.at 6 (.string t) rfl
      have v0' := B3'.out.at 0 (.slice A' n' c') rfl
      have v1' := B3'.out.at 1 (.bool d') rfl
      have v2' := B3'.out.at 2 (.string ty') rfl
      have v3' := B3'.out.at 3 (.string nm') rfl
      have v4' := B3'.out.at 4 (.int .i64 kd') rfl
      have v5' := B3'.out.at 5 (.int .i64 m') rfl
      have v6' := B3'.out.at 6 (.string t') rfl
      clear B2' B3'
      go_wp2_with fail
      refine (cM.out _).mono ?_; rintro e w7 ⟨B, rfl, hB, q7⟩
      have Q7 := Lib.hid (Q6.out.trans q7)
      clear q7
      go_wp2_with fail
      go_ret
      cases B with
      | true => exact BlEnds.yes (Lib.hid ⟨HP.out, .inr ⟨hall.out.1, hall.out.2.1, hall.out.2.2, hB.out.1 rfl⟩⟩) Q7.out
      | false =>
        refine BlEnds.no (Lib.hid fun h => ?_) Q7.out
        rcases h.2 with h | h
        · exact hty.out h
        · have := hB.out.2 h.2.2.2; cases this

set_option maxHeartbeats 32000000 in
theorem belongs_none (A' : Option Addr) (c' : Nat) (ms ps : List St) (d : Bool) (ty nm : ByteArray) (kd m : Int) (t : ByteArray) (d' : Bool) (ty' nm' : ByteArray) (kd' m' : Int) (t' : ByteArray) (w : World) (hn : 0 = ms.length) (hn' : 0 = ps.length) (hI : In none ms w) (hI' : In A' ps w) :
    Calls Tryz.prog 52 #[.agg #[.slice none 0 0, .bool d, .string ty, .string nm, .int .i64 kd, .int .i64 m, .string t], .agg #[.slice A' 0 c', .bool d', .string ty', .string nm', .int .i64 kd', .int .i64 m', .string t']] w (BlEnds ms (⟨d, ty, nm, ⟨kd, m, t⟩⟩ : Rs) ps (⟨d', ty', nm', ⟨kd', m', t'⟩⟩ : Rs) w) := by
  have HN := Lib.hid hn
  have HN' := Lib.hid hn'
  have cE : Hid (∀ w', Q w w' → Calls Tryz.prog 75 #[.slice none 0 0, .slice A' 0 c', .func (.func 76) #[] #[]] w' (EqEnds (ms.take ps.length) ps w')) := Lib.hid (fun w' q => by
    have h := equalFunc_any none A' 0 0 c' (ms.take ps.length) ps w' (by rw [List.length_take]; omega) hn' ((hI.stays q).take _) (hI'.stays q) (by omega)
    exact h)
  have cI := Lib.hid (fun w' => isPath_at (.slice A' 0 c') ⟨_, _, _, rfl⟩ d' ty' nm' kd' m' t' w')
  have cM : Hid (∀ w', Calls Tryz.prog 76 #[.agg #[.string nm, .int .i64 kd, .int .i64 m, .string t], .agg #[.string nm', .int .i64 kd', .int .i64 m', .string t']] w' (MtEnds ⟨nm, ⟨kd, m, t⟩⟩ ⟨nm', ⟨kd', m', t'⟩⟩ w')) := Lib.hid (fun w' => matches_any ⟨nm, ⟨kd, m, t⟩⟩ ⟨nm', ⟨kd', m', t'⟩⟩ w')
  clear hn hn' hI hI'
  go_enter Tryz.func52, Tryz.ntmps52
  go_wp2_with fail
  have Q0 := Lib.hid (two_alloc w (.cells #[.slice none 0 0, .bool d, .string ty, .string nm, .int .i64 kd, .int .i64 m, .string t] 27) (.cells #[.slice A' 0 c', .bool d', .string ty', .string nm', .int .i64 kd', .int .i64 m', .string t'] 27))
  have B2 := Lib.hid ((Bk.new #[.slice none 0 0, .bool d, .string ty, .string nm, .int .i64 kd, .int .i64 m, .string t] 27 w).stays (Q.alloc _ (.cells #[.slice A' 0 c', .bool d', .string ty', .string nm', .int .i64 kd', .int .i64 m', .string t'] 27)))
  have B3 := Lib.hid (Bk.new #[.slice A' 0 c', .bool d', .string ty', .string nm', .int .i64 kd', .int .i64 m', .string t'] 27 (w.alloc (.cells #[.slice none 0 0, .bool d, .string ty, .string nm, .int .i64 kd, .int .i64 m, .string t] 27)))
  have e3 : (w.alloc (.cells #[.slice none 0 0, .bool d, .string ty, .string nm, .int .i64 kd, .int .i64 m, .string t] 27)).heap.size = w.heap.size + 1 := by simp
  rw [e3] at B3
  clear e3
  generalize (w.alloc (.cells #[.slice none 0 0, .bool d, .string ty, .string nm, .int .i64 kd, .int .i64 m, .string t] 27)).alloc (.cells #[.slice A' 0 c', .bool d', .string ty', .string nm', .int .i64 kd', .int .i64 m', .string t'] 27) = w2 at *
  have hS : Hid (Bk w.heap.size #[.slice none 0 0, .bool d, .string ty, .string nm, .int .i64 kd, .int .i64 m, .string t] 27 w2.drew ∧ Bk (w.heap.size + 1) #[.slice A' 0 c', .bool d', .string ty', .string nm', .int .i64 kd', .int .i64 m', .string t'] 27 w2.drew ∧ Q w w2.drew) := Lib.hid ⟨B2.out, B3.out, Q0.out.trans (Q.drewN _ 1)⟩
  clear B2 B3 Q0
  go_region_held3 (fun w' => w'.cell? ⟨w.heap.size, 0, none⟩ = some (.slice none 0 0) ∧ w'.cell? ⟨w.heap.size + 1, 0, none⟩ = some (.slice A' 0 c'))
    (first | exact ⟨hS.out.1.at 0 _ rfl, hS.out.2.1.at 0 _ rfl⟩ | exact ⟨(hS.out.1.stays q4).at 0 _ rfl, (hS.out.2.1.stays q4).at 0 _ rfl⟩)
    ((go_at_call 75; refine (cE.out _ hS.out.2.2).mono ?_; rintro e w4 ⟨B, rfl, hB, q4⟩))
  have B2 := Lib.hid (hS.out.1.stays q4)
  have B3 := Lib.hid (hS.out.2.1.stays q4)
  have QQ := Lib.hid (hS.out.2.2.trans q4)
  clear hS q4 cE
  cases B with
  | false =>
    have hno : Hid (¬ Bl ms (⟨d, ty, nm, ⟨kd, m, t⟩⟩ : Rs) ps (⟨d', ty', nm', ⟨kd', m', t'⟩⟩ : Rs)) := Lib.hid (fun h => by have := hB.out.2 h.1.2; cases this)
    clear hB cI cM
    go_wp2_with fail
    go_ret
    exact BlEnds.no hno QQ.out
  | true =>
    have HP : Hid (ps.length ≤ ms.length ∧ Mts (ms.take ps.length) ps) := Lib.hid ⟨by have h1 := HN.out; have h2 := HN'.out; omega, hB.out.1 rfl⟩
    clear hB
    have u0 := B2.out.at 0 (.slice none 0 0) rfl
    have u1 := B2.out.at 1 (.bool d) rfl
    have u2 := B2.out.at 2 (.string ty) rfl
    have u3 := B2.out.at 3 (.string nm) rfl
    have u4 := B2.out.at 4 (.int .i64 kd) rfl
    have u5 := B2.out.at 5 (.int .i64 m) rfl
    have u6 := B2.out.at 6 (.string t) rfl
    have v0 := B3.out.at 0 (.slice A' 0 c') rfl
    have v1 := B3.out.at 1 (.bool d') rfl
    have v2 := B3.out.at 2 (.string ty') rfl
    have v3 := B3.out.at 3 (.string nm') rfl
    have v4 := B3.out.at 4 (.int .i64 kd') rfl
    have v5 := B3.out.at 5 (.int .i64 m') rfl
    have v6 := B3.out.at 6 (.string t') rfl
    cases hp : ty'.toList.isEmpty with
    | true =>
      have hy : Hid (Bl ms (⟨d, ty, nm, ⟨kd, m, t⟩⟩ : Rs) ps (⟨d', ty', nm', ⟨kd', m', t'⟩⟩ : Rs)) := Lib.hid ⟨HP.out, .inl ((isEmpty_nil ty').1 hp)⟩
      rw [hp] at cI
      clear HP
      go_wp2_with fail
      refine (cI.out _).mono ?_; rintro e w6 ⟨rfl, q6⟩
      go_wp2_with fail
      go_ret
      exact BlEnds.yes hy (QQ.out.trans q6)
    | false =>
    have hty : Hid (¬ ty'.data.toList = []) := Lib.hid (fun h => by rw [(isEmpty_nil ty').2 h] at hp; cases hp)
    rw [hp] at cI
    clear hp
    cases x1 : (d == d') with
    | false =>
      have hno : Hid (¬ Bl ms (⟨d, ty, nm, ⟨kd, m, t⟩⟩ : Rs) ps (⟨d', ty', nm', ⟨kd', m', t'⟩⟩ : Rs)) := Lib.hid fun h => by
        rcases h.2 with h | h
        · exact hty.out h
        · have e1 : d = d' := h.2.1
          rw [e1] at x1; simp at x1
      go_wp2_with fail
      refine (cI.out _).mono ?_; rintro e w6 ⟨rfl, q6⟩
      have Q6 := Lib.hid (QQ.out.trans q6)
      have B2' := Lib.hid (B2.out.stays q6)
      have B3' := Lib.hid (B3.out.stays q6)
      clear q6
      have u0' := B2'.out.at 0 (.slice none 0 0) rfl
      have u1' := B2'.out.at 1 (.bool d) rfl
      have u2' := B2'.out.at 2 (.string ty) rfl
      have u3' := B2'.out.at 3 (.string nm) rfl
      have u4' := B2'.out.at 4 (.int .i64 kd) rfl
      have u5' := B2'.out.at 5 (.int .i64 m) rfl
      have u6' := B2'.out.at 6 (.string t) rfl
      have v0' := B3'.out.at 0 (.slice A' 0 c') rfl
      have v1' := B3'.out.at 1 (.bool d') rfl
      have v2' := B3'.out.at 2 (.string ty') rfl
      have v3' := B3'.out.at 3 (.string nm') rfl
      have v4' := B3'.out.at 4 (.int .i64 kd') rfl
      have v5' := B3'.out.at 5 (.int .i64 m') rfl
      have v6' := B3'.out.at 6 (.string t') rfl
      clear B2' B3'
      go_wp2_with fail
      go_ret
      exact BlEnds.no hno Q6.out
    | true =>
    cases x2 : (ty.toList == ty'.toList) with
    | false =>
      have hno : Hid (¬ Bl ms (⟨d, ty, nm, ⟨kd, m, t⟩⟩ : Rs) ps (⟨d', ty', nm', ⟨kd', m', t'⟩⟩ : Rs)) := Lib.hid fun h => by
        rcases h.2 with h | h
        · exact hty.out h
        · have e1 : ty = ty' := h.2.2.1
          rw [e1] at x2; simp at x2
      go_wp2_with fail
      refine (cI.out _).mono ?_; rintro e w6 ⟨rfl, q6⟩
      have Q6 := Lib.hid (QQ.out.trans q6)
      have B2' := Lib.hid (B2.out.stays q6)
      have B3' := Lib.hid (B3.out.stays q6)
      clear q6
      have u0' := B2'.out.at 0 (.slice none 0 0) rfl
      have u1' := B2'.out.at 1 (.bool d) rfl
      have u2' := B2'.out.at 2 (.string ty) rfl
      have u3' := B2'.out.at 3 (.string nm) rfl
      have u4' := B2'.out.at 4 (.int .i64 kd) rfl
      have u5' := B2'.out.at 5 (.int .i64 m) rfl
      have u6' := B2'.out.at 6 (.string t) rfl
      have v0' := B3'.out.at 0 (.slice A' 0 c') rfl
      have v1' := B3'.out.at 1 (.bool d') rfl
      have v2' := B3'.out.at 2 (.string ty') rfl
      have v3' := B3'.out.at 3 (.string nm') rfl
      have v4' := B3'.out.at 4 (.int .i64 kd') rfl
      have v5' := B3'.out.at 5 (.int .i64 m') rfl
      have v6' := B3'.out.at 6 (.string t') rfl
      clear B2' B3'
      go_wp2_with fail
      go_ret
      exact BlEnds.no hno Q6.out
    | true =>
      have hall : Hid (ms.length = ps.length ∧ d = d' ∧ ty = ty') := Lib.hid ⟨by have h1 := HN.out; have h2 := HN'.out; omega, beq_iff_eq.1 x1, (tl_iff ty ty').1 x2⟩
      go_wp2_with fail
      refine (cI.out _).mono ?_; rintro e w6 ⟨rfl, q6⟩
      have Q6 := Lib.hid (QQ.out.trans q6)
      have B2' := Lib.hid (B2.out.stays q6)
      have B3' := Lib.hid (B3.out.stays q6)
      clear q6
      have u0' := B2'.out.at 0 (.slice none 0 0) rfl
      have u1' := B2'.out.at 1 (.bool d) rfl
      have u2' := B2'.out.at 2 (.string ty) rfl
      have u3' := B2'.out.at 3 (.string nm) rfl
      have u4' := B2'.out.at 4 (.int .i64 kd) rfl
      have u5' := B2'.out.at 5 (.int .i64 m) rfl
      have u6' := B2'.out.at 6 (.string t) rfl
      have v0' := B3'.out.at 0 (.slice A' 0 c') rfl
      have v1' := B3'.out.at 1 (.bool d') rfl
      have v2' := B3'.out.at 2 (.string ty') rfl
      have v3' := B3'.out.at 3 (.string nm') rfl
      have v4' := B3'.out.at 4 (.int .i64 kd') rfl
      have v5' := B3'.out.at 5 (.int .i64 m') rfl
      have v6' := B3'.out.at 6 (.string t') rfl
      clear B2' B3'
      go_wp2_with fail
      refine (cM.out _).mono ?_; rintro e w7 ⟨B, rfl, hB, q7⟩
      have Q7 := Lib.hid (Q6.out.trans q7)
      clear q7
      go_wp2_with fail
      go_ret
      cases B with
      | true => exact BlEnds.yes (Lib.hid ⟨HP.out, .inr ⟨hall.out.1, hall.out.2.1, hall.out.2.2, hB.out.1 rfl⟩⟩) Q7.out
      | false =>
        refine BlEnds.no (Lib.hid fun h => ?_) Q7.out
        rcases h.2 with h | h
        · exact hty.out h
        · have := hB.out.2 h.2.2.2; cases this

theorem belongs_any (A A' : Option Addr) (n c n' c' : Nat) (ms ps : List St) (r q : Rs) (w : World) (hn : n = ms.length) (hn' : n' = ps.length) (hI : In A ms w) (hI' : In A' ps w) (hl : n ≤ 1000) (hA : (A = none ∧ n = 0 ∧ c = 0) ∨ ((∃ b o, A = some ⟨b, o, none⟩) ∧ n ≤ c)) :
    Calls Tryz.prog 52 #[rv (.slice A n c) r, rv (.slice A' n' c') q] w (BlEnds ms r ps q w) := by
  by_cases hlt : n < n'
  · exact belongs_less A A' n c n' c' ms ps r q w hn hn' hlt
  · obtain ⟨d, ty, nm, ⟨kd, m, t⟩⟩ := r
    obtain ⟨d', ty', nm', ⟨kd', m', t'⟩⟩ := q
    rcases hA with ⟨rfl, rfl, rfl⟩ | ⟨⟨b, o, rfl⟩, hc⟩
    · obtain rfl : n' = 0 := by omega
      exact belongs_none A' c' ms ps d ty nm kd m t d' ty' nm' kd' m' t' w hn hn' hI hI'
    · exact belongs_some b o n c A' n' c' ms ps d ty nm kd m t d' ty' nm' kd' m' t' w hn hn' hI hI' (by omega) (by omega) hc

end Go.Proofs.YthekabflbpfjoaaGreatDoor.adr
