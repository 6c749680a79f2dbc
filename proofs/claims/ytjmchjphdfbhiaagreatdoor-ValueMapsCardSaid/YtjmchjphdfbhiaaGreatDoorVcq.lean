/- compareNodes, slices.CompareFunc over nodes, slices.Compare over keys, compareFirst. -/
import Derived.Test.YtjmchjphdfbhiaaGreatDoorVcp
import Derived.Test.YtjmchjphdfbhiaaGreatDoorVfi
import Derived.Test.YtjmchjphdfbhiaaGreatDoorShelf
import Derived.Deep.RegionHeld3
namespace Go.Proofs.YtjmchjphdfbhiaaGreatDoor.val
open Go.RowKit
open Go.Proofs.YtjmchjphdfbhiaaGreatDoor
/-- A block that a call has made. -/
def Bk (p : Nat) (cs : Array Value) (t : TypeId) (w : World) : Prop := w.heap[p]? = some (.cells cs t)
section
variable {p : Nat} {cs : Array Value} {t : TypeId} {w w' : World}
theorem Bk.new (cs : Array Value) (t : TypeId) (w : World) : Bk w.heap.size cs t (w.alloc (.cells cs t)) := heap_alloc_new _ _
theorem Bk.c (h : Bk p cs t w) (j : Nat) : w.cell? ⟨p, j, none⟩ = cs[j]? := by
  unfold World.cell?
  simp only [show w.heap[p]? = _ from h]
  rfl
theorem Bk.frozen (h : Bk p cs t w) (j : Nat) : w.frozen? ⟨p, j, none⟩ = false := by
  unfold World.frozen?
  simp only [show w.heap[p]? = _ from h]
  rw [Bool.and_eq_false_iff]
  right
  exact decide_eq_false (by simp)
theorem Bk.set (h : Bk p cs t w) (j : Nat) (u : Value) : Bk p (cs.setIfInBounds j u) t (w.setCell ⟨p, j, none⟩ u) := by
  unfold Bk
  simp only [World.setCell, Array.getElem?_modify, if_pos, show w.heap[p]? = _ from h]
  rfl
theorem Bk.other (h : Bk p cs t w) {q : Nat} (hq : p ≠ q) (j : Nat) (u : Value) : Bk p cs t (w.setCell ⟨q, j, none⟩ u) := (Below.heap_setCell w ⟨q, j, none⟩ u p hq).trans h
theorem Bk.lt (h : Bk p cs t w) : p < w.heap.size := ((Array.getElem?_eq_some_iff.1 h).1)
theorem Bk.stays (h : Bk p cs t w) (q : Q w w') : Bk p cs t w' := (q.block p h.lt).trans h
theorem Bk.at (h : Bk p cs t w) (j : Nat) (v : Value) (hv : cs[j]? = some v) : w.cell? ⟨p, j, none⟩ = some v := (h.c j).trans hv
theorem Bk.drewN (h : Bk p cs t w) (n : Nat) : Bk p cs t (w.drewN n) := h
end
theorem Q.put {a b : World} (h : Q a b) {p : Nat} (hp : a.heap.size ≤ p) (j : Nat) (u : Value) : Q a (b.setCell ⟨p, j, none⟩ u) := Below.setCell h (p := ⟨p, j, none⟩) hp u

theorem two_box (w : World) (o o' : Obj) : Q w ((w.alloc o).alloc o') := (Q.box w o).trans (Q.box _ o')
theorem Q.al {a b : World} {o : Obj} (h : Hid (Q a b)) : Hid (Q a (b.alloc o)) := Lib.hid (h.out.trans (Q.box _ _))
set_option maxHeartbeats 4000000 in
theorem compareNodes_any (ak an : Int) (at' : ByteArray) (A3 A4 : Option Addr) (n3 k3 n4 k4 : Nat) (bk bn : Int) (bt : ByteArray) (B3 B4 : Option Addr) (m3 l3 m4 l4 : Nat) (w : World) :
    Calls Tryz.prog 90 #[.agg #[.int .i64 ak, .int .i64 an, .string at', .slice A3 n3 k3, .slice A4 n4 k4], .agg #[.int .i64 bk, .int .i64 bn, .string bt, .slice B3 m3 l3, .slice B4 m4 l4]] w fun e w' => e = .returned (.int .i64 (orL [cI ak bk, cI an bn, cT at' bt])) ∧ Q w w' := by
  have c1 := Lib.hid (fun w' => cmpKind_any ak bk w')
  have c2 := Lib.hid (fun w' => cmpInt_any an bn w')
  have c3 := Lib.hid (fun w' => Tryz.strings_Compare at' bt w')
  unfold cT
  generalize Lib.compareBytes at'.data.toList bt.data.toList = R3 at *
  generalize cI ak bk = R1 at *
  generalize cI an bn = R2 at *
  go_enter Tryz.func90, Tryz.ntmps90
  go_wp2_with fail
  have qa := Lib.hid (two_box w (.cells #[.int .i64 ak, .int .i64 an, .string at', .slice A3 n3 k3, .slice A4 n4 k4] 26) (.cells #[.int .i64 bk, .int .i64 bn, .string bt, .slice B3 m3 l3, .slice B4 m4 l4] 26))
  have e1 : (w.alloc (.cells #[.int .i64 ak, .int .i64 an, .string at', .slice A3 n3 k3, .slice A4 n4 k4] 26)).heap.size = w.heap.size + 1 := by simp
  have b1 := Lib.hid ((Bk.new #[.int .i64 ak, .int .i64 an, .string at', .slice A3 n3 k3, .slice A4 n4 k4] 26 w).stays (Q.box _ (.cells #[.int .i64 bk, .int .i64 bn, .string bt, .slice B3 m3 l3, .slice B4 m4 l4] 26)))
  have b2 := Bk.new #[.int .i64 bk, .int .i64 bn, .string bt, .slice B3 m3 l3, .slice B4 m4 l4] 26 (w.alloc (.cells #[.int .i64 ak, .int .i64 an, .string at', .slice A3 n3 k3, .slice A4 n4 k4] 26))
  rw [e1] at b2
  have B2 := Lib.hid b2
  clear b2 e1
  generalize (w.alloc (.cells #[.int .i64 ak, .int .i64 an, .string at', .slice A3 n3 k3, .slice A4 n4 k4] 26)).alloc (.cells #[.int .i64 bk, .int .i64 bn, .string bt, .slice B3 m3 l3, .slice B4 m4 l4] 26) = w1 at *
  have sees : Hid (∀ w', Hid (Q w1 w') → Hid (Q w1 w') ∧ w'.cell? ⟨w.heap.size, 0, none⟩ = some (.int .i64 ak) ∧ w'.cell? ⟨w.heap.size, 1, none⟩ = some (.int .i64 an) ∧ w'.cell? ⟨w.heap.size, 2, none⟩ = some (.string at') ∧ w'.cell? ⟨w.heap.size + 1, 0, none⟩ = some (.int .i64 bk) ∧ w'.cell? ⟨w.heap.size + 1, 1, none⟩ = some (.int .i64 bn) ∧ w'.cell? ⟨w.heap.size + 1, 2, none⟩ = some (.string bt)) := Lib.hid (fun w' q => by
    have x := b1.out.stays q.out
    have y := B2.out.stays q.out
    exact ⟨q, x.at 0 _ rfl, x.at 1 _ rfl, x.at 2 _ rfl, y.at 0 _ rfl, y.at 1 _ rfl, y.at 2 _ rfl⟩)
  have h0 : Hid (Q w1 w1.drew) := Lib.hid (Q.drewN _ 1)
  have ha : Hid (Q w1 (w1.drew.alloc (.cells #[.int .i64 R1, .int .i64 R2, .int .i64 R3] 3))) := Lib.hid ((Q.drewN _ 1).trans (Q.box _ _))
  have cO : Hid (∀ w', Bk w1.heap.size #[.int .i64 R1, .int .i64 R2, .int .i64 R3] 3 w' → Calls Tryz.prog 87 #[.slice (some ⟨w1.heap.size, 0, none⟩) 3 3] w' fun e w'' => e = .returned (.int .i64 (orL [R1, R2, R3])) ∧ Q w' w'') := Lib.hid (fun w' h => or_any _ 3 3 [R1, R2, R3] w' rfl (by decide) (fun i hi => h.at i _ (by
    match i, hi with
    | 0, _ => rfl
    | 1, _ => rfl
    | 2, _ => rfl
    | i + 3, hi => exact absurd hi (by simp))))
  have bo : Hid (Bk w1.heap.size #[.int .i64 R1, .int .i64 R2, .int .i64 R3] 3 (w1.drew.alloc (.cells #[.int .i64 R1, .int .i64 R2, .int .i64 R3] 3))) := Lib.hid (Bk.new _ _ _)
  clear b1 B2
  go_region_held3 (fun w' => Hid (Q w1 w') ∧ w'.cell? ⟨w.heap.size, 0, none⟩ = some (.int .i64 ak) ∧ w'.cell? ⟨w.heap.size, 1, none⟩ = some (.int .i64 an) ∧ w'.cell? ⟨w.heap.size, 2, none⟩ = some (.string at') ∧ w'.cell? ⟨w.heap.size + 1, 0, none⟩ = some (.int .i64 bk) ∧ w'.cell? ⟨w.heap.size + 1, 1, none⟩ = some (.int .i64 bn) ∧ w'.cell? ⟨w.heap.size + 1, 2, none⟩ = some (.string bt))
    (exact sees.out _ (by first | assumption | exact h0 | exact ha))
    (first
      | (go_at_call 102; refine (c1.out _).mono ?_; rintro e v1 ⟨rfl, rfl⟩)
      | (go_at_call 103; refine (c2.out _).mono ?_; rintro e v1 ⟨rfl, rfl⟩)
      | (go_at_call 77; refine (c3.out _).mono ?_; rintro e v1 ⟨rfl, rfl⟩)
      | (go_at_call 87; refine (cO.out _ bo.out).mono ?_; rintro e v1 ⟨rfl, q1⟩; have h1 := Lib.hid (ha.out.trans q1)))
  all_goals
    go_wp2_with fail
    go_ret
    exact ⟨rfl, qa.out.trans h1.out⟩

theorem cL_drop {α : Type} (f : α → α → Int) (a b : List α) (k : Nat) (h : k < a.length) (h' : k < b.length) : cL f (a.drop k) (b.drop k) = if f a[k] b[k] = 0 then cL f (a.drop (k + 1)) (b.drop (k + 1)) else f a[k] b[k] := by
  rw [List.drop_eq_getElem_cons h, List.drop_eq_getElem_cons h']
  rfl
theorem cL_end {α : Type} (f : α → α → Int) (a b : List α) (k : Nat) (h : k ≤ a.length) (h' : k ≤ b.length) (he : k = a.length ∨ k = b.length) : cL f (a.drop k) (b.drop k) = cI a.length b.length := by
  unfold cI
  by_cases ha : k = a.length
  · rw [List.drop_of_length_le (by omega)]
    by_cases hb : k = b.length
    · rw [List.drop_of_length_le (by omega), if_neg (by omega), if_neg (by omega)]
      rfl
    · rw [List.drop_eq_getElem_cons (show k < b.length by omega), if_pos (by omega)]
      rfl
  · have hb : k = b.length := by omega
    rw [List.drop_eq_getElem_cons (show k < a.length by omega), List.drop_of_length_le (l := b) (by omega), if_neg (by omega), if_pos (by omega)]
    rfl
/-- Where the nodes of a row lie. -/
def Ia (A : Option Addr) (l : List V) (w : World) : Prop := l ≠ [] → ∃ b o, A = some ⟨b, o, none⟩ ∧ ∀ (i : Nat) (h : i < l.length), ∃ A3 n3 k3 A4 n4 k4, C5 b (o + i * 5) (.int .i64 l[i].kind) (.int .i64 l[i].num) (.string l[i].str) (.slice A3 n3 k3) (.slice A4 n4 k4) w
theorem Ia.stays {A : Option Addr} {l : List V} {w w' : World} (h : Ia A l w) (q : Q w w') : Ia A l w' := by
  intro hn
  obtain ⟨b, o, e, g⟩ := h hn
  refine ⟨b, o, e, fun i hi => ?_⟩
  obtain ⟨A3, n3, k3, A4, n4, k4, g⟩ := g i hi
  exact ⟨A3, n3, k3, A4, n4, k4, g.stays q⟩
set_option maxHeartbeats 16000000 in
theorem compareFunc_any (A A' : Option Addr) (n n' c c' : Nat) (xs ys : List V) (w : World) (hn : n = xs.length) (hn' : n' = ys.length) (hI : Ia A xs w) (hI' : Ia A' ys w) (hl : n ≤ 1000) :
    Calls Tryz.prog 89 #[.slice A n c, .slice A' n' c', .func (.func 90) #[] #[]] w fun e w' => e = .returned (.int .i64 (cL cN xs ys)) ∧ Q w w' := by
  have HN := Lib.hid hn
  have HN' := Lib.hid hn'
  have HI := Lib.hid hI
  have HI' := Lib.hid hI'
  have cM : Hid (∀ (x y : V) A3 n3 k3 A4 n4 k4 B3 m3 l3 B4 m4 l4 w', Calls Tryz.prog 90 #[.agg #[.int .i64 x.kind, .int .i64 x.num, .string x.str, .slice A3 n3 k3, .slice A4 n4 k4], .agg #[.int .i64 y.kind, .int .i64 y.num, .string y.str, .slice B3 m3 l3, .slice B4 m4 l4]] w' fun e w'' => e = .returned (.int .i64 (cN x y)) ∧ Q w' w'') := Lib.hid (fun x y A3 n3 k3 A4 n4 k4 B3 m3 l3 B4 m4 l4 w' => compareNodes_any x.kind x.num x.str A3 A4 n3 k3 n4 k4 y.kind y.num y.str B3 B4 m3 l3 m4 l4 w')
  obtain ⟨ANS, hA⟩ : ∃ z, cL cN xs ys = z := ⟨_, rfl⟩
  rw [hA]
  have HA := Lib.hid hA
  clear hn hn' hI hI' hA
  go_enter Tryz.func89, Tryz.ntmps89
  go_wp2_with fail
  go_loopw [13] (fun i wr => ∃ k : Nat, k ≤ n ∧ k ≤ n' ∧ i = .int .i64 k ∧ Hid (Q w wr) ∧ Hid (cL cN (xs.drop k) (ys.drop k) = ANS)) (fun i _ => n - (intOf i).toNat)
  case atStart => exact ⟨0, Nat.zero_le _, Nat.zero_le _, rfl, Lib.hid (Q.refl _), HA⟩
  case round =>
    clear HA
    obtain ⟨k, hk, hk', rfl, QQ, HH⟩ := hrel
    by_cases hlt : k < n
    · have hlt1 : k < xs.length := by rw [← HN.out]; exact hlt
      have f0 : (0 : Int) ≤ (k : Int) := by omega
      have f1 : (k : Int) < (n : Int) := by omega
      by_cases hlt' : k < n'
      · have hlt2 : k < ys.length := by rw [← HN'.out]; exact hlt'
        obtain ⟨b, o, rfl, hcc⟩ := (HI.out.stays QQ.out) (by intro e; rw [e] at hlt1; cases hlt1)
        obtain ⟨A3, n3, k3, A4, n4, k4, ⟨g0, g1, g2, g3, g4⟩⟩ := hcc k hlt1
        have hcc2 := (HI'.out.stays (QQ.out.trans (Q.box wr (.cells #[.int .i64 xs[k].kind, .int .i64 xs[k].num, .string xs[k].str, .slice A3 n3 k3, .slice A4 n4 k4] 26)))) (by intro e; rw [e] at hlt2; cases hlt2)
        obtain ⟨b', o', rfl, hcc'⟩ := hcc2
        obtain ⟨B3, m3, l3, B4, m4, l4, ⟨g0', g1', g2', g3', g4'⟩⟩ := hcc' k hlt2
        have hz := HH.out
        rw [cL_drop cN xs ys k hlt1 hlt2] at hz
        have f2 : (k : Int) < (n' : Int) := by omega
        have f3 : ¬ (n' : Int) ≤ (k : Int) := by omega
        have cK := Lib.hid (cM.out xs[k] ys[k] A3 n3 k3 A4 n4 k4 B3 m3 l3 B4 m4 l4)
        clear hcc hcc' HH HI HI' hk hk'
        generalize xs[k] = x at *
        generalize ys[k] = y at *
        generalize cN x y = C at *
        generalize x.kind = xk at *
        generalize x.num = xm at *
        generalize x.str = xt at *
        generalize y.kind = yk at *
        generalize y.num = ym at *
        generalize y.str = yt at *
        have HZ := Lib.hid hz
        clear hz cM
        cases hC : (C != 0) with
        | true =>
          have : C = ANS := by rw [← HZ.out, if_neg (by simpa using hC)]
          subst this
          clear HZ
          go_wp2_with fail
          refine (cK.out _).mono ?_; rintro e w4 ⟨rfl, q4⟩
          replace QQ := Lib.hid (((QQ.out.trans (Q.box wr (.cells #[.int .i64 xk, .int .i64 xm, .string xt, .slice A3 n3 k3, .slice A4 n4 k4] 26))).trans (Q.box _ (.cells #[.int .i64 yk, .int .i64 ym, .string yt, .slice B3 m3 l3, .slice B4 m4 l4] 26))).trans q4)
          clear q4 cK
          go_wp2_with fail
          go_ret
          exact ⟨rfl, QQ.out⟩
        | false =>
          have hc0 : C = 0 := by simpa using hC
          have HY : Hid (cL cN (xs.drop (k + 1)) (ys.drop (k + 1)) = ANS) := Lib.hid (by rw [← HZ.out, if_pos hc0])
          clear HZ hc0
          go_wp2_with fail
          refine (cK.out _).mono ?_; rintro e w4 ⟨rfl, q4⟩
          replace QQ := Lib.hid (((QQ.out.trans (Q.box wr (.cells #[.int .i64 xk, .int .i64 xm, .string xt, .slice A3 n3 k3, .slice A4 n4 k4] 26))).trans (Q.box _ (.cells #[.int .i64 yk, .int .i64 ym, .string yt, .slice B3 m3 l3, .slice B4 m4 l4] 26))).trans q4)
          clear q4 cK
          go_wp2_with fail
          go_roundw
          case rel => exact ⟨k + 1, hlt, hlt', by go_num, QQ, HY⟩
          case measure => simp [intOf]; omega
      · obtain rfl : n' = k := by omega
        have hz := HH.out
        rw [cL_end cN xs ys n' (by omega) (by have := HN'.out; omega) (.inr HN'.out), cI, if_neg (by have := HN'.out; omega), if_pos (by have := HN'.out; omega)] at hz
        subst hz
        obtain ⟨b, o, rfl, hcc⟩ := (HI.out.stays QQ.out) (by intro e; rw [e] at hlt1; cases hlt1)
        obtain ⟨A3, n3, k3, A4, n4, k4, ⟨g0, g1, g2, g3, g4⟩⟩ := hcc n' hlt1
        have f3 : (n' : Int) ≤ (n' : Int) := by omega
        clear hcc HH HI HI' hk hk' cM hlt'
        generalize xs[n'] = x at *
        generalize x.kind = xk at *
        generalize x.num = xm at *
        generalize x.str = xt at *
        go_wp2_with fail
        go_ret
        exact ⟨rfl, QQ.out.trans (Q.box _ _)⟩
    · obtain rfl : n = k := by omega
      have hz := HH.out
      rw [cL_end cN xs ys n (by have := HN.out; omega) (by have := HN'.out; omega) (.inl HN.out), cI] at hz
      have h1 := HN.out
      have h2 := HN'.out
      clear HH HI HI' cM hlt
      by_cases h3 : n < n'
      · rw [if_pos (by omega)] at hz
        subst hz
        have f1 : (n : Int) < (n' : Int) := by omega
        clear h1 h2
        go_wp2_with fail
        go_ret
        exact ⟨rfl, QQ.out⟩
      · rw [if_neg (by omega), if_neg (by omega)] at hz
        subst hz
        have f1 : ¬ (n : Int) < (n' : Int) := by omega
        clear h1 h2
        go_wp2_with fail
        go_ret
        exact ⟨rfl, QQ.out⟩

/-- Where keys lie. -/
def Ka (A : Option Addr) (l : List ByteArray) (w : World) : Prop := l ≠ [] → ∃ b o, A = some ⟨b, o, none⟩ ∧ KL l b o w
theorem Ka.stays {A : Option Addr} {l : List ByteArray} {w w' : World} (h : Ka A l w) (q : Q w w') : Ka A l w' := by
  intro hn
  obtain ⟨b, o, e, g⟩ := h hn
  exact ⟨b, o, e, KL.stays q l b o g⟩
set_option maxHeartbeats 16000000 in
theorem compareKeys_any (A A' : Option Addr) (n n' c c' : Nat) (xs ys : List ByteArray) (w : World) (hn : n = xs.length) (hn' : n' = ys.length) (hI : Ka A xs w) (hI' : Ka A' ys w) (hl : n ≤ 1000) :
    Calls Tryz.prog 88 #[.slice A n c, .slice A' n' c'] w fun e w' => e = .returned (.int .i64 (cL cT xs ys)) ∧ Q w w' := by
  have HN := Lib.hid hn
  have HN' := Lib.hid hn'
  have HI := Lib.hid hI
  have HI' := Lib.hid hI'
  have cM := Lib.hid (fun x y w' => cmpStr_any x y w')
  obtain ⟨ANS, hA⟩ : ∃ z, cL cT xs ys = z := ⟨_, rfl⟩
  rw [hA]
  have HA := Lib.hid hA
  clear hn hn' hI hI' hA
  go_enter Tryz.func88, Tryz.ntmps88
  go_wp2_with fail
  go_loopw [11] (fun i wr => ∃ k : Nat, k ≤ n ∧ k ≤ n' ∧ i = .int .i64 k ∧ Hid (Q w wr) ∧ Hid (cL cT (xs.drop k) (ys.drop k) = ANS)) (fun i _ => n - (intOf i).toNat)
  case atStart => exact ⟨0, Nat.zero_le _, Nat.zero_le _, rfl, Lib.hid (Q.refl _), HA⟩
  case round =>
    clear HA
    obtain ⟨k, hk, hk', rfl, QQ, HH⟩ := hrel
    by_cases hlt : k < n
    · have hlt1 : k < xs.length := by rw [← HN.out]; exact hlt
      have f1 : (k : Int) < (n : Int) := by omega
      by_cases hlt' : k < n'
      · have hlt2 : k < ys.length := by rw [← HN'.out]; exact hlt'
        obtain ⟨b, o, rfl, hcc⟩ := (HI.out.stays QQ.out) (by intro e; rw [e] at hlt1; cases hlt1)
        have g0 := KL.at xs b o _ hcc k hlt1
        obtain ⟨b', o', rfl, hcc'⟩ := (HI'.out.stays QQ.out) (by intro e; rw [e] at hlt2; cases hlt2)
        have g1 := KL.at ys b' o' _ hcc' k hlt2
        have hz := HH.out
        rw [cL_drop cT xs ys k hlt1 hlt2] at hz
        have f2 : (k : Int) < (n' : Int) := by omega
        have f3 : ¬ (n' : Int) ≤ (k : Int) := by omega
        have cK := Lib.hid (cM.out xs[k] ys[k])
        clear hcc hcc' HH HI HI' hk hk'
        generalize xs[k] = x at *
        generalize ys[k] = y at *
        generalize cT x y = C at *
        have HZ := Lib.hid hz
        clear hz cM
        cases hC : (C != 0) with
        | true =>
          have : C = ANS := by rw [← HZ.out, if_neg (by simpa using hC)]
          subst this
          clear HZ
          go_wp2_with fail
          refine (cK.out _).mono ?_; rintro e w4 ⟨rfl, rfl⟩
          clear cK
          go_wp2_with fail
          go_ret
          exact ⟨rfl, QQ.out⟩
        | false =>
          have hc0 : C = 0 := by simpa using hC
          have HY : Hid (cL cT (xs.drop (k + 1)) (ys.drop (k + 1)) = ANS) := Lib.hid (by rw [← HZ.out, if_pos hc0])
          clear HZ hc0
          go_wp2_with fail
          refine (cK.out _).mono ?_; rintro e w4 ⟨rfl, rfl⟩
          clear cK
          go_wp2_with fail
          go_roundw
          case rel => exact ⟨k + 1, hlt, hlt', by go_num, QQ, HY⟩
          case measure => simp [intOf]; omega
      · obtain rfl : n' = k := by omega
        have hz := HH.out
        rw [cL_end cT xs ys n' (by omega) (by have := HN'.out; omega) (.inr HN'.out), cI, if_neg (by have := HN'.out; omega), if_pos (by have := HN'.out; omega)] at hz
        subst hz
        obtain ⟨b, o, rfl, hcc⟩ := (HI.out.stays QQ.out) (by intro e; rw [e] at hlt1; cases hlt1)
        have g0 := KL.at xs b o _ hcc n' hlt1
        have f3 : (n' : Int) ≤ (n' : Int) := by omega
        clear hcc HH HI HI' hk hk' cM hlt'
        generalize xs[n'] = x at *
        go_wp2_with fail
        go_ret
        exact ⟨rfl, QQ.out⟩
    · obtain rfl : n = k := by omega
      have hz := HH.out
      rw [cL_end cT xs ys n (by have := HN.out; omega) (by have := HN'.out; omega) (.inl HN.out), cI] at hz
      have h1 := HN.out
      have h2 := HN'.out
      clear HH HI HI' cM hlt
      by_cases h3 : n < n'
      · rw [if_pos (by omega)] at hz
        subst hz
        have f1 : (n : Int) < (n' : Int) := by omega
        clear h1 h2
        go_wp2_with fail
        go_ret
        exact ⟨rfl, QQ.out⟩
      · rw [if_neg (by omega), if_neg (by omega)] at hz
        subst hz
        have f1 : ¬ (n : Int) < (n' : Int) := by omega
        clear h1 h2
        go_wp2_with fail
        go_ret
        exact ⟨rfl, QQ.out⟩
set_option maxHeartbeats 4000000 in
/-- compareFirst over two entries. -/
theorem compareFirst_any (A A' B B' : Option Addr) (n n' m m' c c' d d' : Nat) (x y : En) (w : World) (hn : n = x.1.length) (hn' : n' = y.1.length) (hm : m = x.2.length) (hm' : m' = y.2.length)
    (hK : Ka A x.1 w) (hK' : Ka A' y.1 w) (hI : Ia B x.2 w) (hI' : Ia B' y.2 w) (hl : n ≤ 1) (hl2 : m ≤ 1) :
    Calls Tryz.prog 60 #[.agg #[.slice A n c, .slice B m d], .agg #[.slice A' n' c', .slice B' m' d']] w fun e w' => e = .returned (.int .i64 (cF x y)) ∧ Q w w' := by
  have c1 := fun w' (q : Q w w') => compareKeys_any A A' n n' c c' x.1 y.1 w' hn hn' (hK.stays q) (hK'.stays q) (by omega)
  have c2 := fun w' (q : Q w w') => compareFunc_any B B' m m' d d' x.2 y.2 w' hm hm' (hI.stays q) (hI'.stays q) (by omega)
  unfold cF
  generalize cL cT x.1 y.1 = R1 at *
  generalize cL cN x.2 y.2 = R2 at *
  clear hn hn' hm hm' hK hK' hI hI' hl hl2
  go_enter Tryz.func60, Tryz.ntmps60
  go_wp2_with fail
  have qa := Lib.hid (two_box w (.cells #[.slice A n c, .slice B m d] 70) (.cells #[.slice A' n' c', .slice B' m' d'] 70))
  have e1 : (w.alloc (.cells #[.slice A n c, .slice B m d] 70)).heap.size = w.heap.size + 1 := by simp
  have b1 := Lib.hid ((Bk.new #[.slice A n c, .slice B m d] 70 w).stays (Q.box _ (.cells #[.slice A' n' c', .slice B' m' d'] 70)))
  have b2 := Bk.new #[.slice A' n' c', .slice B' m' d'] 70 (w.alloc (.cells #[.slice A n c, .slice B m d] 70))
  rw [e1] at b2
  have B2 := Lib.hid b2
  clear b2 e1
  generalize (w.alloc (.cells #[.slice A n c, .slice B m d] 70)).alloc (.cells #[.slice A' n' c', .slice B' m' d'] 70) = w1 at *
  have sees : Hid (∀ w', Hid (Q w1 w') → Hid (Q w1 w') ∧ w'.cell? ⟨w.heap.size, 0, none⟩ = some (.slice A n c) ∧ w'.cell? ⟨w.heap.size, 1, none⟩ = some (.slice B m d) ∧ w'.cell? ⟨w.heap.size + 1, 0, none⟩ = some (.slice A' n' c') ∧ w'.cell? ⟨w.heap.size + 1, 1, none⟩ = some (.slice B' m' d')) := Lib.hid (fun w' q => by
    have x := b1.out.stays q.out
    have y := B2.out.stays q.out
    exact ⟨q, x.at 0 _ rfl, x.at 1 _ rfl, y.at 0 _ rfl, y.at 1 _ rfl⟩)
  have h0 : Hid (Q w1 w1.drew) := Lib.hid (Q.drewN _ 1)
  have c1' : Hid (∀ w', Hid (Q w1 w') → Calls Tryz.prog 88 #[.slice A n c, .slice A' n' c'] w' fun e w'' => e = .returned (.int .i64 R1) ∧ Hid (Q w1 w'')) := Lib.hid (fun w' q => (c1 w' (qa.out.trans q.out)).mono fun _ _ ⟨he, hq⟩ => ⟨he, Lib.hid (q.out.trans hq)⟩)
  have c2' : Hid (∀ w', Hid (Q w1 w') → Calls Tryz.prog 89 #[.slice B m d, .slice B' m' d', .func (.func 90) #[] #[]] w' fun e w'' => e = .returned (.int .i64 R2) ∧ Hid (Q w1 w'')) := Lib.hid (fun w' q => (c2 w' (qa.out.trans q.out)).mono fun _ _ ⟨he, hq⟩ => ⟨he, Lib.hid (q.out.trans hq)⟩)
  have cO : Hid (∀ W, Hid (Q w1 W) → Calls Tryz.prog 87 #[.slice (some ⟨W.heap.size, 0, none⟩) 2 2] (W.alloc (.cells #[.int .i64 R1, .int .i64 R2] 3)) fun e w'' => e = .returned (.int .i64 (orL [R1, R2])) ∧ Hid (Q w1 w'')) := Lib.hid (fun W q => (or_any _ 2 2 [R1, R2] _ rfl (by decide) (fun i hi => (Bk.new #[.int .i64 R1, .int .i64 R2] 3 W).at i _ (by
    match i, hi with
    | 0, _ => rfl
    | 1, _ => rfl
    | i + 2, hi => exact absurd hi (by simp)))).mono fun _ _ ⟨he, hq⟩ => ⟨he, Lib.hid ((q.out.trans (Q.box _ _)).trans hq)⟩)
  clear b1 B2 c1 c2
  go_region_held3 (fun w' => Hid (Q w1 w') ∧ w'.cell? ⟨w.heap.size, 0, none⟩ = some (.slice A n c) ∧ w'.cell? ⟨w.heap.size, 1, none⟩ = some (.slice B m d) ∧ w'.cell? ⟨w.heap.size + 1, 0, none⟩ = some (.slice A' n' c') ∧ w'.cell? ⟨w.heap.size + 1, 1, none⟩ = some (.slice B' m' d'))
    (first | exact sees.out _ (by assumption) | exact sees.out _ (Q.al (by assumption)))
    (first
      | (go_at_call 88; refine (c1'.out _ (And.left ‹_›)).mono ?_; rintro e v2 ⟨rfl, h2⟩)
      | (go_at_call 89; refine (c2'.out _ (And.left ‹_›)).mono ?_; rintro e v2 ⟨rfl, h2⟩)
      | (go_at_call 87; refine (cO.out _ (by assumption)).mono ?_; rintro e v3 ⟨rfl, h3⟩))
  all_goals
    go_wp2_with fail
    go_ret
    exact ⟨rfl, qa.out.trans h3.out⟩

end Go.Proofs.YtjmchjphdfbhiaaGreatDoor.val
