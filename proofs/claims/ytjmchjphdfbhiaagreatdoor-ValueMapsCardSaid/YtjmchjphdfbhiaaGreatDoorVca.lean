/- checkNode; Check, Known and Nodes. -/
import Derived.Test.YtjmchjphdfbhiaaGreatDoorVfi
import Derived.Test.YtjmchjphdfbhiaaGreatDoorVno
namespace Go.Proofs.YtjmchjphdfbhiaaGreatDoor.val
open Go.RowKit
open Go.Proofs.YtjmchjphdfbhiaaGreatDoor.lit (Fx okL)
set_option maxRecDepth 100000 in
set_option maxHeartbeats 4000000 in
theorem checkNode_any (v : V) (c3 c4 : Value) (w w0 : World) (q : Q w0 w) (f : Fx w) (h3 : Is c3 v.items w0) (h4 : Ks c4 v.keys w0) (hw : Wf v) :
    Calls Tryz.prog 47 #[.agg #[.int .i64 v.kind, .int .i64 v.num, .string v.str, c3, c4]] w fun e w' => e = .returned (.int .i64 (nodeE v.kind v.num v.str v.items v.keys)) ∧ Q w w' := by
  rw [nodeE_cases]
  have cF := Lib.hid (fun w' => fields_any v c3 c4 w' w0 h3 h4)
  have hkl := ((Wf_iff v).1 hw).2.2.2.2.1
  have cK := Lib.hid (fun w' (q' : Q w w') => checkKeys_any c4 v.keys w' (q'.fx f) (h4.stays (q.trans q')) hkl)
  have cS := Lib.hid (fun w' (q' : Q w w') => checkString_any v.str w' (q'.fx f))
  obtain ⟨A3, k3, rfl, -⟩ := h3.shape
  obtain ⟨A4, k4, rfl, -⟩ := h4.shape
  generalize shB v.kind v.num v.str v.items v.keys = SH at *
  generalize keysE none v.keys = KE at *
  generalize textE v.str = TE at *
  generalize v.items.length = n3 at *
  generalize v.keys.length = n4 at *
  generalize v.kind = k at *
  generalize v.num = n at *
  generalize v.str = s at *
  clear h3 h4 hw hkl q f
  cases SH with
  | false =>
    rw [if_pos rfl]
    go_enter Tryz.func47, Tryz.ntmps47
    go_wp2_with fail
    refine (cF.out _).mono ?_; rintro e w1 ⟨rfl, q1⟩
    go_wp2_with fail
    go_ret
    exact ⟨rfl, (Q.box _ _).trans q1⟩
  | true =>
    rw [if_neg (by decide)]
    by_cases h2 : k = 2
    · subst h2
      by_cases hg : -9007199254740992 ≤ n ∧ n ≤ 9007199254740992
      · rw [if_neg (fun h => h.2 hg), if_neg (by decide)]
        have cN := Lib.hid (fun w => num.valid_yes n w hg.1 hg.2)
        clear hg cS
        go_enter Tryz.func47, Tryz.ntmps47
        go_wp2_with fail
        refine (cF.out _).mono ?_; rintro e w1 ⟨rfl, q1⟩
        have q2 := Lib.hid ((Q.box w (.cells #[.int .i64 2, .int .i64 n, .string s, .slice A3 n3 k3, .slice A4 n4 k4] 26)).trans q1)
        have x0 := (C5.made w w.heap.size (.int .i64 2) (.int .i64 n) (.string s) (.slice A3 n3 k3) (.slice A4 n4 k4) 26 rfl).stays q1
        have y0 := x0.a
        have y1 := x0.b
        have y2 := x0.c
        have y4 := x0.e
        clear x0 q1
        go_wp2_with fail
        refine (cN.out _).mono ?_; rintro e w2 ⟨rfl, rfl⟩
        go_wp2_with fail
        refine (cK.out _ q2.out).mono ?_; rintro e w3 ⟨rfl, q3⟩
        go_wp2_with fail
        go_ret
        exact ⟨rfl, q2.out.trans q3⟩
      · rw [if_pos ⟨rfl, hg⟩]
        have cN := Lib.hid (fun w => num.valid_no n w (by unfold num.bad; omega))
        clear hg cS cK
        go_enter Tryz.func47, Tryz.ntmps47
        go_wp2_with fail
        refine (cF.out _).mono ?_; rintro e w1 ⟨rfl, q1⟩
        have q2 := Lib.hid ((Q.box w (.cells #[.int .i64 2, .int .i64 n, .string s, .slice A3 n3 k3, .slice A4 n4 k4] 26)).trans q1)
        have x0 := (C5.made w w.heap.size (.int .i64 2) (.int .i64 n) (.string s) (.slice A3 n3 k3) (.slice A4 n4 k4) 26 rfl).stays q1
        have y0 := x0.a
        have y1 := x0.b
        have y2 := x0.c
        have y4 := x0.e
        clear x0 q1
        go_wp2_with fail
        refine (cN.out _).mono ?_; rintro e w2 ⟨rfl, rfl⟩
        go_wp2_with fail
        go_ret
        exact ⟨rfl, q2.out⟩
    · rw [if_neg (fun h => h2 h.1)]
      have hk2 : (k == 2) = false := by simpa using h2
      by_cases h3 : k = 3
      · subst h3
        rw [if_pos rfl]
        clear h2 cK
        go_enter Tryz.func47, Tryz.ntmps47
        go_wp2_with fail
        refine (cF.out _).mono ?_; rintro e w1 ⟨rfl, q1⟩
        have q2 := Lib.hid ((Q.box w (.cells #[.int .i64 3, .int .i64 n, .string s, .slice A3 n3 k3, .slice A4 n4 k4] 26)).trans q1)
        have x0 := (C5.made w w.heap.size (.int .i64 3) (.int .i64 n) (.string s) (.slice A3 n3 k3) (.slice A4 n4 k4) 26 rfl).stays q1
        have y0 := x0.a
        have y1 := x0.b
        have y2 := x0.c
        have y4 := x0.e
        clear x0 q1
        go_wp2_with fail
        refine (cS.out _ q2.out).mono ?_; rintro e w3 ⟨rfl, q3⟩
        go_wp2_with fail
        go_ret
        exact ⟨rfl, q2.out.trans q3⟩
      · rw [if_neg h3]
        have hk3 : (k == 3) = false := by simpa using h3
        clear h2 h3 cS
        go_enter Tryz.func47, Tryz.ntmps47
        go_wp2_with fail
        refine (cF.out _).mono ?_; rintro e w1 ⟨rfl, q1⟩
        have q2 := Lib.hid ((Q.box w (.cells #[.int .i64 k, .int .i64 n, .string s, .slice A3 n3 k3, .slice A4 n4 k4] 26)).trans q1)
        have x0 := (C5.made w w.heap.size (.int .i64 k) (.int .i64 n) (.string s) (.slice A3 n3 k3) (.slice A4 n4 k4) 26 rfl).stays q1
        have y0 := x0.a
        have y1 := x0.b
        have y2 := x0.c
        have y4 := x0.e
        clear x0 q1
        go_wp2_with fail
        refine (cK.out _ q2.out).mono ?_; rintro e w3 ⟨rfl, q3⟩
        go_wp2_with fail
        go_ret
        exact ⟨rfl, q2.out.trans q3⟩

end Go.Proofs.YtjmchjphdfbhiaaGreatDoor.val

namespace Go.Proofs.YtjmchjphdfbhiaaGreatDoor.val
open Go.RowKit
open Go.Proofs.YtjmchjphdfbhiaaGreatDoor.lit (Fx okL)
/-- A block of one cell. -/
def B1 (p : Nat) (x : Value) (t : TypeId) (w : World) : Prop := w.heap[p]? = some (.cells #[x] t (0, 0))
theorem B1.at {p : Nat} {x : Value} {t : TypeId} {w : World} (h : B1 p x t w) : w.cell? ⟨p, 0, none⟩ = some x := by
  rw [cell_of_row w p 0 #[x] t (0, 0) h]
  rfl
theorem B1.frozen {p : Nat} {x : Value} {t : TypeId} {w : World} (h : B1 p x t w) : w.frozen? ⟨p, 0, none⟩ = false := frozen_of_row w p 0 #[x] t h
theorem B1.set {p : Nat} {x : Value} {t : TypeId} {w : World} (h : B1 p x t w) (y : Value) : B1 p y t (w.setCell ⟨p, 0, none⟩ y) := heap_setCell_same w p 0 #[x] t y h
theorem B1.kept {p : Nat} {x : Value} {t : TypeId} {w w' : World} (h : B1 p x t w) (e : w'.heap[p]? = w.heap[p]?) : B1 p x t w' := e.trans h
theorem heap_lt {w : World} {p : Nat} {o : Obj} (h : w.heap[p]? = some o) : p < w.heap.size := (Array.getElem?_eq_some_iff.1 h).1
theorem B1.lt {p : Nat} {x : Value} {t : TypeId} {w : World} (h : B1 p x t w) : p < w.heap.size := heap_lt h
theorem B1.stays {p : Nat} {x : Value} {t : TypeId} {w w' : World} (h : B1 p x t w) (q : Q w w') : B1 p x t w' := h.kept (q.block p h.lt)
theorem B1.made (w : World) (n : Nat) (x : Value) (t : TypeId) (hn : n = w.heap.size) : B1 n x t (w.alloc (.cells #[x] t)) := by
  subst hn
  exact heap_alloc_new w _
theorem B1.other {p q : Nat} {x y : Value} {t : TypeId} {w : World} (h : B1 p x t w) (hne : p ≠ q) (j : Nat) : B1 p x t (w.setCell ⟨q, j, none⟩ y) := h.kept (Below.heap_setCell _ _ _ _ hne)
theorem Mid.set {a B : Nat} {w w' : World} (h : Mid a B w w') {p : Nat} (h1 : a ≤ p) (h2 : p < B) (y : Value) : Mid a B w (w'.setCell ⟨p, 0, none⟩ y) :=
  ⟨h.os, h.tape, h.output, by simpa [World.setCell] using h.size, fun k hk hb => (Below.heap_setCell w' ⟨p, 0, none⟩ y k (by show k ≠ p; omega)).trans (h.block k hk hb)⟩
theorem Mid.fin {B : Nat} {w wb w2 : World} (m2 : Mid w.heap.size B wb w2) (qb : Q w wb) : Q w w2 :=
  ⟨m2.os.trans qb.os, m2.tape.trans qb.tape, m2.output.trans qb.output, Nat.le_trans qb.size m2.size, fun j hj => (m2.block j (Nat.lt_of_lt_of_le hj qb.size) (.inl hj)).trans (qb.block j hj)⟩
/-! ### Nodes -/
def HasN (p : Nat) (B : Nat) (k : Nat) (n : Nat) (w : World) : Prop := B1 p (.int .i64 n) 3 w ∧ n ≤ k ∧ p < B
set_option maxRecDepth 100000 in
theorem nodesVisits (w0 : World) (a p B : Nat) (hp : a ≤ p) : Visits stepN (HasN p B) w0 a B 67 #[.pointer (some ⟨p, 0, none⟩)] := by
  intro k s x c3 c4 lv w hk q ⟨h1, h2, h3⟩ hB h4 h5 hx hl
  obtain ⟨A3, k3, rfl, -⟩ := h4.shape
  obtain ⟨A4, k4, rfl, -⟩ := h5.shape
  generalize x.kind = xk at *
  generalize x.num = xn at *
  generalize x.str = xs at *
  generalize x.items.length = n3 at *
  generalize x.keys.length = n4 at *
  have hs : (s : Int) < 1000000 := by omega
  have hs' : Hid (s + 1 ≤ k + 1) := by show _ ≤ _; omega
  obtain ⟨wb, hwb⟩ : ∃ wb, w.alloc (.cells #[.int .i64 xk, .int .i64 xn, .string xs, .slice A3 n3 k3, .slice A4 n4 k4] 26) = wb := ⟨_, rfl⟩
  have qb : Q w wb := by rw [← hwb]; exact Q.box _ _
  have b1 := h1.stays qb
  have y0 := b1.at
  have y1 := b1.frozen
  have F : Hid (B1 p (.int .i64 ((s + 1 : Nat) : Int)) 3 ((wb.setCell ⟨p, 0, none⟩ (.int .i64 ((s : Int) + 1)))) ∧ Mid a B w (wb.setCell ⟨p, 0, none⟩ (.int .i64 ((s : Int) + 1)))) := ⟨b1.set _, (Mid.of qb).set hp h3 _⟩
  have h3' := Lib.hid h3
  clear h1 h2 hB h4 h5 hx hl hp h3 hk q b1 qb
  show Calls _ _ #[_, _, _] _ _
  go_enter Tryz.func67, Tryz.ntmps67
  go_wp2_with fail
  go_ret
  exact ⟨rfl, ⟨F.out.1, hs'.out, h3'.out⟩, F.out.2⟩
/-- Known. -/
def HasK (p : Nat) (B : Nat) (_ : Nat) (b : Bool) (w : World) : Prop := B1 p (.bool b) 4 w ∧ p < B
set_option maxRecDepth 100000 in
theorem knownVisits (w0 : World) (a p B : Nat) (hp : a ≤ p) : Visits stepK (HasK p B) w0 a B 63 #[.pointer (some ⟨p, 0, none⟩)] := by
  intro k s x c3 c4 lv w hk q ⟨h1, h3⟩ hB h4 h5 hx hl
  obtain ⟨A3, k3, rfl, -⟩ := h4.shape
  obtain ⟨A4, k4, rfl, -⟩ := h5.shape
  have e : stepK s x lv = (decide (x.kind ≠ 6), decide (x.kind ≠ 6)) := rfl
  rw [e]
  generalize x.kind = xk at *
  generalize x.num = xn at *
  generalize x.str = xs at *
  generalize x.items.length = n3 at *
  generalize x.keys.length = n4 at *
  obtain ⟨R, hR⟩ : ∃ R, decide (xk ≠ 6) = R := ⟨_, rfl⟩
  rw [hR]
  have hR' : (xk != 6) = R := by
    rw [← hR]
    by_cases g : xk = 6
    · simp [g]
    · simp [g]
  obtain ⟨wb, hwb⟩ : ∃ wb, w.alloc (.cells #[.int .i64 xk, .int .i64 xn, .string xs, .slice A3 n3 k3, .slice A4 n4 k4] 26) = wb := ⟨_, rfl⟩
  have qb : Q w wb := by rw [← hwb]; exact Q.box _ _
  have b1 := h1.stays qb
  have y0 := b1.at
  have y1 := b1.frozen
  have z0 : wb.cell? ⟨w.heap.size, 0, none⟩ = some (.int .i64 xk) := by rw [← hwb]; exact World.cell?_alloc_at (w := w) _ _ _ _ rfl
  have F : Hid (B1 p (.bool R) 4 ((wb.setCell ⟨p, 0, none⟩ (.bool R))) ∧ Mid a B w (wb.setCell ⟨p, 0, none⟩ (.bool R))) := ⟨b1.set _, (Mid.of qb).set hp h3 _⟩
  have y2 := F.out.1.at
  have h3' := Lib.hid h3
  clear h1 hB h4 h5 hx hl hp h3 hk q b1 qb e hR
  show Calls _ _ #[_, _, _] _ _
  go_enter Tryz.func63, Tryz.ntmps63
  go_wp2_with fail
  go_ret
  exact ⟨rfl, ⟨F.out.1, h3'.out⟩, F.out.2⟩
set_option maxRecDepth 100000 in
theorem nodes_any (v : V) (c3 c4 : Value) (w w0 : World) (q : Q w0 w) (h3 : Is c3 v.items w0) (h4 : Ks c4 v.keys w0) (hw : Wf v) (hn : nodes v ≤ 100000) :
    Calls Tryz.prog 41 #[.agg #[.int .i64 v.kind, .int .i64 v.num, .string v.str, c3, c4]] w fun e w' => e = .returned (.int .i64 (nodes v)) ∧ Q w w' := by
  have hsz := q.size
  have cV := fun (w' : World) (q' : Q w0 w') (hs : HasN (w.heap.size + 1) w'.heap.size 0 0 w') => visitNodes_any stepN (HasN (w.heap.size + 1) w'.heap.size) w0 w.heap.size q.size 67 #[.pointer (some ⟨w.heap.size + 1, 0, none⟩)] 0 v c3 c4 w' (enters_of Tryz.func67 (by kernel_rfl) rfl) (nodesVisits w0 _ _ _ (by omega)) (fun k s w1 w2 hb h => ⟨h.1.kept (hb.block _ h.2.2), h.2⟩) (fun k s w1 h => ⟨h.1, by have := h.2.1; omega, h.2.2⟩) q' h3 h4 hw hs
  rw [vis_all stepN v 0 262144 (by omega), nodes_both.1 v 0 1, Nat.zero_add] at cV
  obtain ⟨A3, k3, rfl, -⟩ := h3.shape
  obtain ⟨A4, k4, rfl, -⟩ := h4.shape
  have CV := Lib.hid cV
  have q0 := Lib.hid q
  clear cV hsz h3 h4 hw hn q
  generalize v.kind = xk at *
  generalize v.num = xn at *
  generalize v.str = xs at *
  generalize v.items.length = n3 at *
  generalize v.keys.length = n4 at *
  go_enter Tryz.func41, Tryz.ntmps41
  go_wp2_with fail
  have bb := B1.made (w.alloc (.cells #[.int .i64 xk, .int .i64 xn, .string xs, .slice A3 n3 k3, .slice A4 n4 k4] 26)) (w.heap.size + 1) (.int .i64 0) 3 (by rw [size_alloc])
  have qb := (Q.box w (.cells #[.int .i64 xk, .int .i64 xn, .string xs, .slice A3 n3 k3, .slice A4 n4 k4] 26)).trans (Q.box _ (.cells #[.int .i64 0] 3))
  refine (CV.out _ (q0.out.trans qb) ⟨bb, Nat.le_refl _, bb.lt⟩).mono ?_
  rintro e w2 ⟨rfl, ⟨k, hk⟩, m2⟩
  have y0 := hk.1.at
  have qf : Hid (Q w w2) := m2.fin qb
  clear bb qb hk m2
  go_wp2_with fail
  go_ret
  exact ⟨rfl, qf.out⟩

set_option maxRecDepth 100000 in
theorem known_any (v : V) (c3 c4 : Value) (w w0 : World) (q : Q w0 w) (h3 : Is c3 v.items w0) (h4 : Ks c4 v.keys w0) (hw : Wf v) (hn : nodes v ≤ 100000) :
    Calls Tryz.prog 37 #[.agg #[.int .i64 v.kind, .int .i64 v.num, .string v.str, c3, c4]] w fun e w' => e = .returned (.bool (known v)) ∧ Q w w' := by
  have hsz := q.size
  have cV := fun (w' : World) (q' : Q w0 w') (hs : HasK (w.heap.size + 1) w'.heap.size 0 true w') => visitNodes_any stepK (HasK (w.heap.size + 1) w'.heap.size) w0 w.heap.size q.size 63 #[.pointer (some ⟨w.heap.size + 1, 0, none⟩)] true v c3 c4 w' (enters_of Tryz.func63 (by kernel_rfl) rfl) (knownVisits w0 _ _ _ (by omega)) (fun k s w1 w2 hb h => ⟨h.1.kept (hb.block _ h.2), h.2⟩) (fun k s w1 h => h) q' h3 h4 hw hs
  rw [vis_all stepK v true 262144 (by omega), known_both.1 v true 1] at cV
  obtain ⟨A3, k3, rfl, -⟩ := h3.shape
  obtain ⟨A4, k4, rfl, -⟩ := h4.shape
  have CV := Lib.hid cV
  have q0 := Lib.hid q
  clear cV hsz h3 h4 hw hn q
  generalize v.kind = xk at *
  generalize v.num = xn at *
  generalize v.str = xs at *
  generalize v.items.length = n3 at *
  generalize v.keys.length = n4 at *
  go_enter Tryz.func37, Tryz.ntmps37
  go_wp2_with fail
  have bb := B1.made (w.alloc (.cells #[.int .i64 xk, .int .i64 xn, .string xs, .slice A3 n3 k3, .slice A4 n4 k4] 26)) (w.heap.size + 1) (.bool true) 4 (by rw [size_alloc])
  have qb := (Q.box w (.cells #[.int .i64 xk, .int .i64 xn, .string xs, .slice A3 n3 k3, .slice A4 n4 k4] 26)).trans (Q.box _ (.cells #[.bool true] 4))
  refine (CV.out _ (q0.out.trans qb) ⟨bb, bb.lt⟩).mono ?_
  rintro e w2 ⟨rfl, ⟨k, hk⟩, m2⟩
  have y0 := hk.1.at
  have qf : Hid (Q w w2) := m2.fin qb
  clear bb qb hk m2
  go_wp2_with fail
  go_ret
  exact ⟨rfl, qf.out⟩
/-! ### Check -/
def HasC (p B : Nat) (k : Nat) (s : Int × Nat) (w : World) : Prop := B1 p (.int .i64 s.1) 29 w ∧ B1 (p + 1) (.int .i64 s.2) 3 w ∧ s.2 ≤ k ∧ p + 1 < B
set_option maxRecDepth 100000 in
set_option maxHeartbeats 4000000 in
theorem checkVisits (w0 : World) (a p B : Nat) (hp : a ≤ p) (f0 : Fx w0) : Visits stepC (HasC p B) w0 a B 46 #[.pointer (some ⟨p, 0, none⟩), .pointer (some ⟨p + 1, 0, none⟩)] := by
  intro k s x c3 c4 lv w hk q ⟨h1, h2, h3, h4⟩ hB h5 h6 hx hl
  obtain ⟨fst, bf⟩ := s
  have cN := fun (w' : World) (q' : Q w0 w') => checkNode_any x c3 c4 w' w0 q' (q'.fx f0) h5 h6 hx
  obtain ⟨A3, k3, rfl, -⟩ := h5.shape
  obtain ⟨A4, k4, rfl, -⟩ := h6.shape
  obtain ⟨E, hE⟩ : ∃ E, nodeE x.kind x.num x.str x.items x.keys = E := ⟨_, rfl⟩
  have e : stepC (fst, bf) x lv = ((if 32 < lv then 4 else if bf = 4096 then 14 else E, bf + 1), decide ((if 32 < lv then 4 else if bf = 4096 then 14 else E) = 0)) := by rw [← hE]; rfl
  rw [e]
  rw [hE] at cN
  clear hE e hx h5 h6
  generalize x.kind = xk at *
  generalize x.num = xn at *
  generalize x.str = xs at *
  generalize x.items.length = n3 at *
  generalize x.keys.length = n4 at *
  obtain ⟨wb, hwb⟩ : ∃ wb, w.alloc (.cells #[.int .i64 xk, .int .i64 xn, .string xs, .slice A3 n3 k3, .slice A4 n4 k4] 26) = wb := ⟨_, rfl⟩
  have qb : Q w wb := by rw [← hwb]; exact Q.box _ _
  have x5 : C5 w.heap.size 0 (.int .i64 xk) (.int .i64 xn) (.string xs) (.slice A3 n3 k3) (.slice A4 n4 k4) wb := by rw [← hwb]; exact C5.made _ _ _ _ _ _ _ _ rfl
  have b1 := h1.stays qb
  have b2 := h2.stays qb
  simp only at b1 b2 h3
  have y1 := b1.at
  have f1 := b1.frozen
  have y2 := b2.at
  have f2 := b2.frozen
  have hs : (bf : Int) < 1000000 := by omega
  -- what the closure leaves
  have fin : ∀ (w1 : World) (F : Int), Q wb w1 → Hid (∀ w2, w2 = ((w1.setCell ⟨p, 0, none⟩ (.int .i64 F)).setCell ⟨p + 1, 0, none⟩ (.int .i64 ((bf : Int) + 1))) → HasC p B (k + 1) (F, bf + 1) w2 ∧ Mid a B w w2) := by
    intro w1 F q1 w2 hw2
    have g1 := b1.stays q1
    have g2 := b2.stays q1
    rw [hw2]
    refine ⟨⟨(g1.set _).other (by omega) _, ?_, by simp only; omega, h4⟩, ?_⟩
    · have := (g2.other (q := p) (by omega) (y := .int .i64 F) 0).set (.int .i64 ((bf : Int) + 1))
      simpa using this
    · exact ((Mid.of (qb.trans q1)).set hp (by omega) _).set (by omega) h4 _
  have FIN := Lib.hid fin
  have q0 := Lib.hid (q.trans qb)
  have CN := Lib.hid cN
  have x5' := Lib.hid x5
  by_cases hlv : 32 < lv
  · simp only [if_pos hlv]
    have hz : (32 : Int) < (lv : Int) := by omega
    have g1 := b1.set (.int .i64 4)
    have y3 := g1.at
    have y4 := (b2.other (q := p) (by omega) (y := .int .i64 4) 0).at
    have f4 := (b2.other (q := p) (by omega) (y := .int .i64 4) 0).frozen
    have F := FIN.out wb 4 (Q.refl _)
    clear fin cN b1 b2 g1 h1 h2 h3 h4 hB hl q qb hp f0 hlv hk x5
    show Calls _ _ #[_, _, _, _] _ _
    go_enter Tryz.func46, Tryz.ntmps46
    go_wp2_with fail
    go_ret
    exact ⟨rfl, F.out _ rfl⟩
  · simp only [if_neg hlv]
    have hz : decide ((32 : Int) < (lv : Int)) = false := decide_eq_false (by omega)
    by_cases hbf : bf = 4096
    · simp only [if_pos hbf]
      have hb : ((bf : Int) == 4096) = true := by rw [beq_iff_eq]; omega
      have g1 := b1.set (.int .i64 14)
      have y3 := g1.at
      have y4 := (b2.other (q := p) (by omega) (y := .int .i64 14) 0).at
      have f4 := (b2.other (q := p) (by omega) (y := .int .i64 14) 0).frozen
      have F := FIN.out wb 14 (Q.refl _)
      clear fin cN b1 b2 g1 h1 h2 h3 h4 hB hl q qb hp f0 hlv hk x5 hbf
      show Calls _ _ #[_, _, _, _] _ _
      go_enter Tryz.func46, Tryz.ntmps46
      go_wp2_with fail
      go_ret
      exact ⟨rfl, F.out _ rfl⟩
    · simp only [if_neg hbf]
      have hb : ((bf : Int) == 4096) = false := by rw [beq_eq_false_iff_ne]; omega
      obtain ⟨R, hR⟩ : ∃ R, decide (E = 0) = R := ⟨_, rfl⟩
      have hR' : (E == 0) = R := by rw [int_beq, hR]
      rw [hR]
      have z0 := x5.a
      have z1 := x5.b
      have z2 := x5.c
      have z3 := x5.d
      have z4 := x5.e
      have B1' := Lib.hid b1
      have B2' := Lib.hid b2
      have hne : p + 1 ≠ p := by omega
      clear fin cN b1 b2 h1 h2 h3 h4 hB hl q qb hp f0 hlv hk x5 hbf hR
      show Calls _ _ #[_, _, _, _] _ _
      go_enter Tryz.func46, Tryz.ntmps46
      go_wp2_with fail
      refine (CN.out _ q0.out).mono ?_
      rintro e w1 ⟨rfl, q1⟩
      have F := FIN.out w1 E q1
      have g1 := B1'.out.stays q1
      have g2 := B2'.out.stays q1
      clear z0 z1 z2 z3 z4 y1 f1 y2 f2
      have y1 := g1.at
      have f1 := g1.frozen
      have y3 := (g1.set (.int .i64 E)).at
      have y4 := (g2.other (q := p) hne (y := .int .i64 E) 0).at
      have f4 := (g2.other (q := p) hne (y := .int .i64 E) 0).frozen
      have y5 := ((g1.set (.int .i64 E)).other (q := p + 1) hne.symm (y := .int .i64 ((bf : Int) + 1)) 0).at
      clear g1 g2 q1 hne
      go_wp2_with fail
      go_ret
      exact ⟨rfl, F.out _ rfl⟩
set_option maxRecDepth 100000 in
theorem check_any (v : V) (c3 c4 : Value) (w w0 : World) (q : Q w0 w) (f : Fx w0) (h3 : Is c3 v.items w0) (h4 : Ks c4 v.keys w0) (hw : Wf v) (hn : nodes v ≤ 100000) :
    Calls Tryz.prog 12 #[.agg #[.int .i64 v.kind, .int .i64 v.num, .string v.str, c3, c4]] w fun e w' => e = .returned (.int .i64 (chkE v)) ∧ Q w w' := by
  have hsz := q.size
  have cV := fun (w' : World) (q' : Q w0 w') (hs : HasC (w.heap.size + 1) w'.heap.size 0 (0, 0) w') => visitNodes_any stepC (HasC (w.heap.size + 1) w'.heap.size) w0 w.heap.size q.size 46 #[.pointer (some ⟨w.heap.size + 1, 0, none⟩), .pointer (some ⟨w.heap.size + 1 + 1, 0, none⟩)] (0, 0) v c3 c4 w' (enters_of Tryz.func46 (by kernel_rfl) rfl) (checkVisits w0 _ _ _ (by omega) f) (fun k s w1 w2 hb h => ⟨h.1.kept (hb.block _ (by have := h.2.2.2; omega)), h.2.1.kept (hb.block _ h.2.2.2), h.2.2⟩) (fun k s w1 h => ⟨h.1, h.2.1, by have := h.2.2.1; omega, h.2.2.2⟩) q' h3 h4 hw hs
  rw [vis_all stepC v (0, 0) 262144 (by omega)] at cV
  have hE := check_fold v
  obtain ⟨A3, k3, rfl, -⟩ := h3.shape
  obtain ⟨A4, k4, rfl, -⟩ := h4.shape
  have CV := Lib.hid cV
  have q0 := Lib.hid q
  generalize (foldV stepC v (0, 0) 1).1 = ANS at *
  obtain ⟨R, n⟩ := ANS
  simp only at hE
  subst hE
  clear cV hsz h3 h4 hw hn q f
  generalize v.kind = xk at *
  generalize v.num = xn at *
  generalize v.str = xs at *
  generalize v.items.length = n3 at *
  generalize v.keys.length = n4 at *
  generalize chkE v = R at *
  go_enter Tryz.func12, Tryz.ntmps12
  go_wp2_with fail
  have bb := B1.made (w.alloc (.cells #[.int .i64 xk, .int .i64 xn, .string xs, .slice A3 n3 k3, .slice A4 n4 k4] 26)) (w.heap.size + 1) (.int .i64 0) 29 (by rw [size_alloc])
  have bc := B1.made ((w.alloc (.cells #[.int .i64 xk, .int .i64 xn, .string xs, .slice A3 n3 k3, .slice A4 n4 k4] 26)).alloc (.cells #[.int .i64 0] 29)) (w.heap.size + 1 + 1) (.int .i64 0) 3 (by rw [size_alloc, size_alloc])
  have qb := ((Q.box w (.cells #[.int .i64 xk, .int .i64 xn, .string xs, .slice A3 n3 k3, .slice A4 n4 k4] 26)).trans (Q.box _ (.cells #[.int .i64 0] 29))).trans (Q.box _ (.cells #[.int .i64 0] 3))
  refine (CV.out _ (q0.out.trans qb) ⟨bb.stays (Q.box _ _), bc, Nat.le_refl _, bc.lt⟩).mono ?_
  rintro e w2 ⟨rfl, ⟨k, hk⟩, m2⟩
  have y0 := hk.1.at
  have qf : Hid (Q w w2) := m2.fin qb
  clear bb bc qb hk m2
  go_wp2_with fail
  go_ret
  exact ⟨rfl, qf.out⟩

end Go.Proofs.YtjmchjphdfbhiaaGreatDoor.val
