/- Blocks of one's own, and the library's calls of package address: Cut, CutPrefix, HasPrefix, Clone. -/
import Derived.Test.YthekabflbpfjoaaGreatDoorAwbm
import Derived.Deep.RegionHeld3
import Derived.Lib.IndexMore
import Derived.Lib.SmallJoins
namespace Go.Proofs.YthekabflbpfjoaaGreatDoor.adr
open Go.RowKit
open Go.Proofs.YthekabflbpfjoaaGreatDoor

theorem heap_lt {w : World} {p : Nat} {o : Obj} (h : w.heap[p]? = some o) : p < w.heap.size := by
  rcases Nat.lt_or_ge p w.heap.size with h' | h'
  · exact h'
  · rw [Array.getElem?_eq_none h'] at h
    cases h
/-- Block p holds these cells, and all of them may be written. -/
def Bk (p : Nat) (cs : Array Value) (t : TypeId) (w : World) : Prop := w.heap[p]? = some (.cells cs t)
section
variable {p : Nat} {cs : Array Value} {t : TypeId} {w w' : World}
theorem Bk.new (cs : Array Value) (t : TypeId) (w : World) : Bk w.heap.size cs t (w.alloc (.cells cs t)) := heap_alloc_new _ _
theorem Bk.c (h : Bk p cs t w) (j : Nat) : w.cell? ⟨p, j, none⟩ = cs[j]? := by
  unfold World.cell?
  simp only [show w.heap[p]? = _ from h]
  rfl
theorem Bk.frozen (h : Bk p cs t w) (j : Nat) : w.frozen? ⟨p, j, none⟩ = false := by
  unfold World.frozen?
  simp only [show w.heap[p]? = _ from h]
  rw [Bool.and_eq_false_iff]
  right
  exact decide_eq_false (by simp)
theorem Bk.set (h : Bk p cs t w) (j : Nat) (u : Value) : Bk p (cs.setIfInBounds j u) t (w.setCell ⟨p, j, none⟩ u) := by
  unfold Bk
  simp only [World.setCell, Array.getElem?_modify, if_pos, show w.heap[p]? = _ from h]
  rfl
theorem Bk.other (h : Bk p cs t w) {q : Nat} (hq : p ≠ q) (j : Nat) (u : Value) : Bk p cs t (w.setCell ⟨q, j, none⟩ u) := (Below.heap_setCell w ⟨q, j, none⟩ u p hq).trans h
theorem Bk.lt (h : Bk p cs t w) : p < w.heap.size := heap_lt h
theorem Bk.stays (h : Bk p cs t w) (q : Q w w') : Bk p cs t w' := (q.block p h.lt).trans h
theorem Bk.at (h : Bk p cs t w) (j : Nat) (v : Value) (hv : cs[j]? = some v) : w.cell? ⟨p, j, none⟩ = some v := (h.c j).trans hv
theorem Bk.drewN (h : Bk p cs t w) (n : Nat) : Bk p cs t (w.drewN n) := h
end
theorem Q.put {a b : World} (h : Q a b) {p : Nat} (hp : a.heap.size ≤ p) (j : Nat) (u : Value) : Q a (b.setCell ⟨p, j, none⟩ u) := Below.setCell h (p := ⟨p, j, none⟩) hp u

theorem index_one (c : UInt8) : ∀ l : List UInt8, (0 ≤ Lib.indexByte l c) ↔ c ∈ l
  | [] => by unfold Lib.indexByte; simp
  | b :: l => by
    have ih := index_one c l
    unfold Lib.indexByte
    split
    · rename_i h
      rw [beq_iff_eq] at h
      subst h
      simp
    · rename_i h
      rw [beq_iff_eq] at h
      rw [List.mem_cons, ← ih]
      split
      · rename_i h1
        rw [beq_iff_eq] at h1
        rw [h1]
        exact ⟨fun h => absurd h (by decide), fun h => by rcases h with rfl | h; exact absurd rfl h; exact absurd h (by decide)⟩
      · rename_i h1
        rw [beq_iff_eq] at h1
        have hge : ∀ l : List UInt8, -1 ≤ Lib.indexByte l c := fun l => by
          induction l with
          | nil => unfold Lib.indexByte; decide
          | cons d l ih =>
            unfold Lib.indexByte
            split
            · decide
            · split
              · decide
              · rename_i h; rw [beq_iff_eq] at h; omega
        have := hge l
        exact ⟨fun h => .inr (by omega), fun _ => by omega⟩
theorem index_sub_one (c : UInt8) : ∀ l : List UInt8, Lib.index l [c] = Lib.indexByte l c
  | [] => by unfold Lib.index Lib.indexByte; simp
  | b :: l => by
    have ih := index_sub_one c l
    unfold Lib.index Lib.indexByte
    rw [ih]
    have e : List.isPrefixOf [c] (b :: l) = (b == c) := by
      simp only [List.isPrefixOf, Bool.and_true]
      exact Bool.eq_iff_iff.2 (by rw [beq_iff_eq, beq_iff_eq]; exact eq_comm)
    rw [e]
theorem indexByte_split (c : UInt8) : ∀ l : List UInt8, c ∈ l → ∃ x t, l = x ++ c :: t ∧ (∀ d ∈ x, d ≠ c) ∧ Lib.indexByte l c = (x.length : Int)
  | [], h => by cases h
  | b :: l, h => by
    by_cases hb : b = c
    · subst hb
      exact ⟨[], l, rfl, (fun d hd => by cases hd), by unfold Lib.indexByte; simp⟩
    · have hl : c ∈ l := by
        rcases List.mem_cons.1 h with h | h
        · exact absurd h.symm hb
        · exact h
      obtain ⟨x, t, rfl, hx, hi⟩ := indexByte_split c l hl
      refine ⟨b :: x, t, rfl, fun d hd => ?_, ?_⟩
      · rcases List.mem_cons.1 hd with rfl | hd
        · exact hb
        · exact hx d hd
      · unfold Lib.indexByte
        rw [if_neg (by simpa using hb), hi, if_neg (by rw [beq_iff_eq]; omega)]
        simp
/-- What strings.Cut returns at one byte. -/
theorem cut_found (c : UInt8) (l : List UInt8) (h : c ∈ l) : ∃ x t, l = x ++ c :: t ∧ (∀ d ∈ x, d ≠ c) ∧ Lib.cut l [c] = (x, t, true) := by
  obtain ⟨x, t, e, hx, hi⟩ := indexByte_split c l h
  refine ⟨x, t, e, hx, ?_⟩
  unfold Lib.cut
  rw [index_sub_one, hi, if_pos (by omega), e, Int.toNat_natCast]
  simp
theorem cut_not (c : UInt8) (l : List UInt8) (h : c ∉ l) : Lib.cut l [c] = (l, [], false) := by
  unfold Lib.cut
  rw [index_sub_one, if_neg (by rw [index_one]; exact h)]


theorem mem_iff_cutD (c : UInt8) (l : List UInt8) : c ∈ l ↔ (cutD c l).length < l.length := by
  constructor
  · intro h
    rcases Nat.lt_or_ge (cutD c l).length l.length with hx | hx
    · exact hx
    · have h2 := takeWhile_split (p := fun x => x != c) l
      have h3 : (l.takeWhile fun x => x != c).length = (cutD c l).length := rfl
      rw [List.drop_of_length_le (by omega), List.append_nil] at h2
      have h4 := takeWhile_all (p := fun x => x != c) l
      rw [← h2, List.all_eq_true] at h4
      have := h4 c h
      simp at this
  · intro h
    rw [cutD_head l h]
    simp
theorem cut_one (c : UInt8) (l : List UInt8) : Lib.cut l [c] = if (cutD c l).length < l.length then (cutD c l, l.drop ((cutD c l).length + 1), true) else (l, [], false) := by
  split
  · rename_i h
    obtain ⟨x, t, e, hx, hc⟩ := cut_found c l ((mem_iff_cutD c l).2 h)
    have hd : cutD c l = x := by
      rw [e]
      exact cutD_app (by rw [List.all_eq_true]; intro y hy; simpa using hx y hy)
    rw [hc, hd]
    have : l.drop (x.length + 1) = t := by rw [e, ← List.drop_drop, List.drop_left]; rfl
    rw [this]
  · rename_i h
    exact cut_not c l (fun hc => h ((mem_iff_cutD c l).1 hc))
theorem cutD_none (c : UInt8) (l : List UInt8) (h : ¬ (cutD c l).length < l.length) : cutD c l = l := by
  have h2 := takeWhile_split (p := fun x => x != c) l
  have h3 : (l.takeWhile fun x => x != c).length = (cutD c l).length := rfl
  rw [List.drop_of_length_le (by omega), List.append_nil] at h2
  exact h2.symm

theorem clone_any (s : ByteArray) (w : World) (hs : s.size ≤ 1000000) :
    Calls Tryz.prog 87 #[.string s] w fun e w' => e = .returned (.string s) ∧ Q w w' := by
  have cC := Lib.hid (Tryz.stringslite_Clone s w (by omega))
  go_enter Tryz.func87, Tryz.ntmps87
  go_wp2_with fail
  refine cC.out.mono ?_; rintro e w1 ⟨rfl, q1⟩
  go_wp2_with fail
  go_ret
  exact ⟨rfl, q1⟩
theorem cut_any (s : ByteArray) (c : UInt8) (w : World) (f : Fa w) (hs : s.size ≤ 1000000) :
    Calls Tryz.prog 86 #[.string s, .string ⟨#[c]⟩] w fun e w' => e = .returned (.tuple #[.string ⟨(Lib.cut s.data.toList [c]).1.toArray⟩, .string ⟨(Lib.cut s.data.toList [c]).2.1.toArray⟩, .bool (Lib.cut s.data.toList [c]).2.2]) ∧ ∃ n, w' = w.drewN n := by
  obtain ⟨m, hm⟩ := f.fx.most
  exact Tryz.strings_Cut s ⟨#[c]⟩ m w (by omega) hm
theorem cutPrefix_any (s p : ByteArray) (w : World) :
    Calls Tryz.prog 65 #[.string s, .string p] w fun e w' => e = .returned (.tuple #[.string ⟨(Lib.trimPrefix s.data.toList p.data.toList).toArray⟩, .bool (Lib.hasPrefix s.data.toList p.data.toList)]) ∧ w = w' :=
  (Tryz.strings_CutPrefix s p w).mono fun _ _ ⟨he, hw⟩ => ⟨he, hw.symm⟩
theorem hasPrefix_any (s p : ByteArray) (w : World) :
    Calls Tryz.prog 101 #[.string s, .string p] w fun e w' => e = .returned (.bool (Lib.hasPrefix s.data.toList p.data.toList)) ∧ w = w' :=
  (Tryz.strings_HasPrefix s p w).mono fun _ _ ⟨he, hw⟩ => ⟨he, hw.symm⟩

/-- Three cells put into a block of three. -/
theorem Bk.put3 {p : Nat} {a b c : Value} {t : TypeId} {w : World} (h : Bk p #[a, b, c] t w) (x y z : Value) :
    Bk p #[x, y, z] t (((w.setCell ⟨p, 0, none⟩ x).setCell ⟨p, 1, none⟩ y).setCell ⟨p, 2, none⟩ z) := ((h.set 0 x).set 1 y).set 2 z
theorem Q.put3 {a b : World} (h : Q a b) {p : Nat} (hp : a.heap.size ≤ p) (x y z : Value) :
    Q a (((b.setCell ⟨p, 0, none⟩ x).setCell ⟨p, 1, none⟩ y).setCell ⟨p, 2, none⟩ z) := ((h.put hp 0 x).put hp 1 y).put hp 2 z

set_option maxHeartbeats 2000000 in
theorem readNumberKey_x (s D R : ByteArray) (n e0 : Int) (B : Bool) (w : World)
  (cC : Hid (∀ w', Q w w' → Calls Tryz.prog 86 #[.string s, .string ⟨#[93]⟩] w' fun e w'' => e = .returned (.tuple #[.string D, .string R, .bool B]) ∧ Q w' w''))
  (cP : Hid (∀ w', Calls Tryz.prog 114 #[.string D] w' fun e w'' => e = .returned (.tuple #[.int .i64 n, .int .i64 e0]) ∧ w' = w'')) :
    Calls Tryz.prog 103 #[.string s] w fun e w' => e = .returned (.tuple #[.agg #[.int .i64 1, .int .i64 n, .string ⟨#[]⟩], .string R, .bool ((e0 == 0) && B && decide (0 ≤ n))]) ∧ Q w w' := by
  rcases (show (e0 == 0) = false ∨ ((e0 == 0) = true ∧ B = false) ∨ ((e0 == 0) = true ∧ B = true) by cases (e0 == 0) <;> cases B <;> simp) with h1 | ⟨h1, rfl⟩ | ⟨h1, rfl⟩
  all_goals
    rw [h1]
    go_enter Tryz.func103, Tryz.ntmps103
    go_wp2_with fail
    refine (cC.out _ (Q.alloc _ _)).mono ?_; rintro e w1 ⟨rfl, q1⟩
    have b1 := Lib.hid ((Bk.new _ _ w).stays q1)
    have Q1 := Lib.hid ((Q.alloc w _).trans q1)
    clear q1
    go_wp2_with fail
    refine (cP.out _).mono ?_; rintro e w2 ⟨rfl, rfl⟩
    have z0 := b1.out.frozen 0
    have z1 := b1.out.frozen 1
    have z2 := b1.out.frozen 2
    have x0 := b1.out.at 0 _ rfl
    have x1 := b1.out.at 1 _ rfl
    have x2 := b1.out.at 2 _ rfl
    have bp := b1.out.put3 (.int .i64 1) (.int .i64 n) (.string ⟨#[]⟩)
    have y0 := bp.at 0 _ rfl
    have y1 := bp.at 1 _ rfl
    have y2 := bp.at 2 _ rfl
    have QP := Lib.hid (Q1.out.put3 (Nat.le_refl _) (.int .i64 1) (.int .i64 n) (.string ⟨#[]⟩))
    clear bp b1 Q1
    go_wp2_with fail
    refine bodyPost_ret (by simp [results, Tryz.results103, go_sem, y0, y1, y2]; try rfl) rfl ?_
    exact ⟨rfl, QP.out⟩

set_option maxHeartbeats 2000000 in
theorem readStringKey_no (s X T R : ByteArray) (n : Nat) (e0 : Int) (B : Bool) (w : World) (_hs : s.size ≤ 1000000) (hn : n ≤ s.size) (e1 : s.extract n s.size = T)
  (cU : Hid (∀ w', Q w w' → Calls Tryz.prog 113 #[.string s] w' fun e w'' => e = .returned (.tuple #[.string X, .int .i64 n, .int .i64 e0]) ∧ Q w' w''))
  (cP : Hid (∀ w', Calls Tryz.prog 65 #[.string T, .string ⟨#[93]⟩] w' fun e w'' => e = .returned (.tuple #[.string R, .bool B]) ∧ w' = w''))
  (hno : (e0 == 0) = false ∨ ((e0 == 0) = true ∧ B = false)) :
    Calls Tryz.prog 102 #[.string s] w fun e w' => e = .returned (.tuple #[.agg #[.int .i64 2, .int .i64 0, .string X], .string R, .bool false]) ∧ Q w w' := by
  rcases hno with h1 | ⟨h1, rfl⟩
  all_goals
    go_enter Tryz.func102, Tryz.ntmps102
    go_wp2_with fail
    refine (cU.out _ (Q.alloc _ _)).mono ?_; rintro e w1 ⟨rfl, q1⟩
    have b1 := Lib.hid ((Bk.new _ _ w).stays q1)
    have Q1 := Lib.hid ((Q.alloc w _).trans q1)
    clear q1
    go_wp2_with fail
    refine (cP.out _).mono ?_; rintro e w2 ⟨rfl, rfl⟩
    go_wp2_with fail
    go_quiet (fail)
    replace b1 := Lib.hid (b1.out.drewN nq)
    replace Q1 := Lib.hid (Q1.out.trans (Q.drewN _ nq))
    generalize w1.drewN nq = w2 at *
    have z0 := b1.out.frozen 0
    have z1 := b1.out.frozen 1
    have z2 := b1.out.frozen 2
    have x0 := b1.out.at 0 _ rfl
    have x1 := b1.out.at 1 _ rfl
    have x2 := b1.out.at 2 _ rfl
    have bp := b1.out.put3 (.int .i64 2) (.int .i64 0) (.string X)
    have y0 := bp.at 0 _ rfl
    have y1 := bp.at 1 _ rfl
    have y2 := bp.at 2 _ rfl
    have QP := Lib.hid (Q1.out.put3 (Nat.le_refl _) (.int .i64 2) (.int .i64 0) (.string X))
    clear bp b1 Q1
    go_wp2_with fail
    refine bodyPost_ret (by simp [results, Tryz.results102, go_sem, y0, y1, y2]; try rfl) rfl ?_
    exact ⟨rfl, QP.out⟩
set_option maxHeartbeats 4000000 in
theorem readStringKey_yes (s X T R HB QX : ByteArray) (n : Nat) (w : World) (_hs : s.size ≤ 1000000) (hn : n ≤ s.size) (e1 : s.extract n s.size = T) (e2 : s.extract 0 n = HB)
  (cU : Hid (∀ w', Q w w' → Calls Tryz.prog 113 #[.string s] w' fun e w'' => e = .returned (.tuple #[.string X, .int .i64 n, .int .i64 0]) ∧ Q w' w''))
  (cP : Hid (∀ w', Calls Tryz.prog 65 #[.string T, .string ⟨#[93]⟩] w' fun e w'' => e = .returned (.tuple #[.string R, .bool true]) ∧ w' = w''))
  (cQ : Hid (∀ w', Q w w' → Calls Tryz.prog 36 #[.string X] w' fun e w'' => e = .returned (.string QX) ∧ Q w' w'')) :
    Calls Tryz.prog 102 #[.string s] w fun e w' => e = .returned (.tuple #[.agg #[.int .i64 2, .int .i64 0, .string X], .string R, .bool (QX.toList == HB.toList)]) ∧ Q w w' := by
    go_enter Tryz.func102, Tryz.ntmps102
    go_wp2_with fail
    refine (cU.out _ (Q.alloc _ _)).mono ?_; rintro e w1 ⟨rfl, q1⟩
    have b1 := Lib.hid ((Bk.new _ _ w).stays q1)
    have Q1 := Lib.hid ((Q.alloc w _).trans q1)
    clear q1
    go_wp2_with fail
    refine (cP.out _).mono ?_; rintro e w2 ⟨rfl, rfl⟩
    go_wp2_with fail
    replace b1 := Lib.hid (b1.out.drewN 1)
    replace Q1 := Lib.hid (Q1.out.trans (Q.drewN _ 1))
    go_region_held3 (fun _ => True) (trivial) ((go_at_call 36; refine (cQ.out _ Q1.out).mono ?_; rintro e w3 ⟨rfl, q3⟩))
    replace b1 := Lib.hid (b1.out.stays q3)
    replace Q1 := Lib.hid (Q1.out.trans q3)
    clear q3
    have z0 := b1.out.frozen 0
    have z1 := b1.out.frozen 1
    have z2 := b1.out.frozen 2
    have x0 := b1.out.at 0 _ rfl
    have x1 := b1.out.at 1 _ rfl
    have x2 := b1.out.at 2 _ rfl
    have bp := b1.out.put3 (.int .i64 2) (.int .i64 0) (.string X)
    have y0 := bp.at 0 _ rfl
    have y1 := bp.at 1 _ rfl
    have y2 := bp.at 2 _ rfl
    have QP := Lib.hid (Q1.out.put3 (Nat.le_refl _) (.int .i64 2) (.int .i64 0) (.string X))
    clear bp b1 Q1
    go_wp2_with fail
    refine bodyPost_ret (by simp [results, Tryz.results102, go_sem, y0, y1, y2]; try rfl) rfl ?_
    exact ⟨rfl, QP.out⟩

theorem unqGo_zero : ∀ (n : Nat) (l : List UInt8) (p : Nat) (acc : List UInt8), l.length ≤ n → (lit.unqGo l p acc).2.2 ≠ 0 → (lit.unqGo l p acc).2.1 = 0 := by
  intro n
  induction n with
  | zero =>
    intro l p acc hl _
    obtain rfl : l = [] := List.eq_nil_of_length_eq_zero (by omega)
    rw [lit.unqGo_nil]
  | succ n ih =>
    intro l p acc hl he
    by_cases hne : l = []
    · subst hne
      rw [lit.unqGo_nil]
    have hpos : 0 < l.length := List.length_pos_iff.2 hne
    by_cases hq : lit.bt l 0 = 34
    · rw [lit.unqGo_quote l p acc hne hq] at he ⊢
      split at he
      · rename_i hx; rw [if_pos hx]
      · exact absurd rfl he
    · by_cases h0 : (lit.item l).e = 0
      · have hs := lit.item_size l hne h0
        rw [lit.unqGo_step l p acc hne hq h0] at he ⊢
        exact ih _ _ _ (by rw [List.length_drop]; omega) he
      · rw [lit.unqGo_bad l p acc hne hq h0]
theorem unq_zero (l : List UInt8) (h : (lit.unq l).2.2 ≠ 0) : (lit.unq l).2.1 = 0 := by
  unfold lit.unq at h ⊢
  split
  · rfl
  rename_i h1
  rw [if_neg h1] at h
  split
  · rfl
  rename_i h2
  rw [if_neg h2] at h
  exact unqGo_zero _ _ _ _ (Nat.le_refl _) h
theorem unq_at (l : List UInt8) : ∃ n : Nat, (lit.unq l).2.1 = (n : Int) ∧ n ≤ l.length := by
  by_cases h : (lit.unq l).2.2 = 0
  · obtain ⟨_, h1, h2⟩ := unq_ok l h
    exact ⟨(lit.unq l).2.1.toNat, by omega, by omega⟩
  · exact ⟨0, by rw [unq_zero l h]; rfl, Nat.zero_le _⟩
theorem pre_one (l : List UInt8) (c : UInt8) : Lib.hasPrefix l [c] = true ↔ l.head? = some c := by
  unfold Lib.hasPrefix
  cases l with
  | nil => simp
  | cons a b => simp [List.isPrefixOf]; exact eq_comm
theorem trim_one (l : List UInt8) (c : UInt8) (h : Lib.hasPrefix l [c] = true) : Lib.trimPrefix l [c] = l.drop 1 := by
  unfold Lib.trimPrefix
  rw [if_pos h]
  rfl
theorem ext_to (s : ByteArray) (n : Nat) : (s.extract n s.size).data.toList = s.data.toList.drop n := Lib.extract_to_end s n
theorem ext_of (s : ByteArray) (n : Nat) : (s.extract 0 n).data.toList = s.data.toList.take n := by simp

/-- What a reader of a key, or of what has one, hands back. -/
def KeyEnds (o : Option (K × List UInt8)) (k : K) (r : ByteArray) (ok : Bool) : Prop :=
  match o with
  | none => ok = false
  | some (k', r') => ok = true ∧ k = k' ∧ r.data.toList = r'
theorem readNumberKey_any (s : ByteArray) (w : World) (f : Fa w) (hs : s.size ≤ 1000000) :
    Calls Tryz.prog 103 #[.string s] w fun e w' => ∃ k r ok, e = .returned (.tuple #[kv k, .string r, .bool ok]) ∧ KeyEnds (rdN s.data.toList) k r ok ∧ Q w w' := by
  have hc := cut_one 93 s.data.toList
  have hlen : s.data.toList.length = s.size := by simp
  by_cases hlt : (cutD 93 s.data.toList).length < s.data.toList.length
  · rw [if_pos hlt] at hc
    have h := readNumberKey_x s ⟨(cutD 93 s.data.toList).toArray⟩ ⟨(s.data.toList.drop ((cutD 93 s.data.toList).length + 1)).toArray⟩ (num.pv (cutD 93 s.data.toList)) (num.pe (cutD 93 s.data.toList)) true w
      (fun w' q => by
        have h := cut_any s 93 w' (q.fa f) hs
        rw [hc] at h
        exact h.mono fun _ _ ⟨e, n, hw⟩ => ⟨e, hw ▸ Q.drewN _ n⟩)
      (fun w' => by
        have h := num.parse_any ⟨(cutD 93 s.data.toList).toArray⟩ w' (by rw [ba_size]; unfold maxLen; omega)
        rw [ba_list] at h
        exact h)
    refine h.mono ?_
    rintro e w' ⟨rfl, q⟩
    refine ⟨⟨1, num.pv (cutD 93 s.data.toList), ⟨#[]⟩⟩, _, _, rfl, ?_, q⟩
    unfold rdN KeyEnds
    by_cases hg : num.pe (cutD 93 s.data.toList) = 0 ∧ (cutD 93 s.data.toList).length < s.data.toList.length ∧ 0 ≤ num.pv (cutD 93 s.data.toList)
    · rw [if_pos hg]
      refine ⟨?_, rfl, ba_list _⟩
      rw [hg.1, decide_eq_true hg.2.2]
      rfl
    · rw [if_neg hg]
      simp only
      cases hx : (num.pe (cutD 93 s.data.toList) == 0) with
      | false => rfl
      | true =>
        rw [beq_iff_eq] at hx
        rw [decide_eq_false (fun h0 => hg ⟨hx, hlt, h0⟩)]
        rfl
  · rw [if_neg hlt] at hc
    have hcd := cutD_none 93 _ hlt
    have h := readNumberKey_x s s ⟨([] : List UInt8).toArray⟩ (num.pv s.data.toList) (num.pe s.data.toList) false w
      (fun w' q => by
        have h := cut_any s 93 w' (q.fa f) hs
        rw [hc] at h
        exact h.mono fun _ _ ⟨e, n, hw⟩ => ⟨e, hw ▸ Q.drewN _ n⟩)
      (fun w' => num.parse_any s w' (by unfold maxLen; omega))
    refine h.mono ?_
    rintro e w' ⟨rfl, q⟩
    refine ⟨⟨1, num.pv s.data.toList, ⟨#[]⟩⟩, _, _, rfl, ?_, q⟩
    unfold rdN KeyEnds
    rw [if_neg (fun h => hlt h.2.1)]
    simp only
    cases (num.pe s.data.toList == 0) <;> rfl
theorem readStringKey_any (s : ByteArray) (w : World) (f : Fa w) (hs : s.size ≤ 1000000) :
    Calls Tryz.prog 102 #[.string s] w fun e w' => ∃ k r ok, e = .returned (.tuple #[kv k, .string r, .bool ok]) ∧ KeyEnds (rdS s.data.toList) k r ok ∧ Q w w' := by
  have hlen : s.data.toList.length = s.size := by simp
  obtain ⟨n, hn, hle⟩ := unq_at s.data.toList
  have hT : (s.extract n s.size).data.toList = s.data.toList.drop n := ext_to s n
  have cU : Hid (∀ w', Q w w' → Calls Tryz.prog 113 #[.string s] w' fun e w'' => e = .returned (.tuple #[.string ⟨(lit.unq s.data.toList).1.toArray⟩, .int .i64 n, .int .i64 (lit.unq s.data.toList).2.2]) ∧ Q w' w'') := fun w' q => by
    have h := lit.unquote_any s w' (q.fa f).fx hs
    rw [hn] at h
    exact h
  have cP : Hid (∀ w', Calls Tryz.prog 65 #[.string (s.extract n s.size), .string ⟨#[93]⟩] w' fun e w'' => e = .returned (.tuple #[.string ⟨(Lib.trimPrefix (s.data.toList.drop n) [93]).toArray⟩, .bool (Lib.hasPrefix (s.data.toList.drop n) [93])]) ∧ w' = w'') := fun w' => by
    have h := cutPrefix_any (s.extract n s.size) ⟨#[93]⟩ w'
    rw [hT] at h
    exact h
  have hr : rdS s.data.toList = if (lit.unq s.data.toList).2.2 = 0 ∧ (s.data.toList.drop n).head? = some 93 ∧ lit.quoteL (lit.unq s.data.toList).1 = s.data.toList.take n then some (⟨2, 0, ⟨(lit.unq s.data.toList).1.toArray⟩⟩, s.data.toList.drop (n + 1)) else none := by
    unfold rdS
    rw [hn, Int.toNat_natCast]
  rw [hr]
  by_cases he : (lit.unq s.data.toList).2.2 = 0
  · cases hb : Lib.hasPrefix (s.data.toList.drop n) [93] with
    | true =>
      have hok := (unq_ok s.data.toList he).1
      have hl2 := ((okS_iff _).1 hok).1
      rw [he] at cU
      rw [hb] at cP
      have h := readStringKey_yes s _ _ _ _ _ n w hs (by omega) rfl rfl cU cP (fun w' q => lit.quote_any ⟨(lit.unq s.data.toList).1.toArray⟩ w' (q.fa f).fx (by rw [ba_size]; omega))
      refine h.mono ?_
      rintro e w' ⟨rfl, q⟩
      refine ⟨⟨2, 0, ⟨(lit.unq s.data.toList).1.toArray⟩⟩, _, _, rfl, ?_, q⟩
      have hh := (pre_one _ _).1 hb
      have e1 : ∀ l : List UInt8, (⟨l.toArray⟩ : ByteArray).toList = l := fun l => by rw [Lib.toList_data, ba_list]
      rw [e1, Lib.toList_data, ext_of, ba_list]
      unfold KeyEnds
      by_cases hq : lit.quoteL (lit.unq s.data.toList).1 = s.data.toList.take n
      · rw [if_pos ⟨he, hh, hq⟩]
        refine ⟨by rw [beq_iff_eq]; exact hq, rfl, ?_⟩
        rw [ba_list, trim_one _ _ hb, List.drop_drop]
      · rw [if_neg (fun x => hq x.2.2)]
        exact beq_eq_false_iff_ne.2 hq
    | false =>
      rw [hb] at cP
      have h := readStringKey_no s _ _ _ n _ false w hs (by omega) rfl cU cP (.inr ⟨by rw [he]; rfl, rfl⟩)
      refine h.mono ?_
      rintro e w' ⟨rfl, q⟩
      refine ⟨⟨2, 0, ⟨(lit.unq s.data.toList).1.toArray⟩⟩, _, _, rfl, ?_, q⟩
      rw [if_neg (fun x => by have := (pre_one _ _).2 x.2.1; rw [hb] at this; cases this)]
      rfl
  · have h := readStringKey_no s _ _ _ n _ _ w hs (by omega) rfl cU cP (.inl (by simpa using he))
    refine h.mono ?_
    rintro e w' ⟨rfl, q⟩
    refine ⟨⟨2, 0, ⟨(lit.unq s.data.toList).1.toArray⟩⟩, _, _, rfl, ?_, q⟩
    rw [if_neg (fun x => he x.1)]
    rfl

set_option maxHeartbeats 2000000 in
theorem readKey_none (s I : ByteArray) (w : World)
  (cP : Hid (∀ w', Calls Tryz.prog 65 #[.string s, .string ⟨#[91]⟩] w' fun e w'' => e = .returned (.tuple #[.string I, .bool false]) ∧ w' = w'')) :
    Calls Tryz.prog 88 #[.string s] w fun e w' => e = .returned (.tuple #[.agg #[.int .i64 0, .int .i64 0, .string ⟨#[]⟩], .string s, .bool true]) ∧ Q w w' := by
    go_enter Tryz.func88, Tryz.ntmps88
    go_wp2_with fail
    refine (cP.out _).mono ?_; rintro e w2 ⟨rfl, rfl⟩
    obtain ⟨w1, hw1, q1⟩ : ∃ W, w.alloc (.cells #[.int .i64 0, .int .i64 0, .string ⟨#[]⟩] 25) = W ∧ Q (w.alloc (.cells #[.int .i64 0, .int .i64 0, .string ⟨#[]⟩] 25)) W := ⟨_, rfl, Q.refl _⟩
    have b1 := Lib.hid ((Bk.new _ _ w).stays q1)
    have Q1 := Lib.hid ((Q.alloc w _).trans q1)
    clear q1
    rw [hw1]
    clear hw1
    have z0 := b1.out.frozen 0
    have z1 := b1.out.frozen 1
    have z2 := b1.out.frozen 2
    have x0 := b1.out.at 0 _ rfl
    have x1 := b1.out.at 1 _ rfl
    have x2 := b1.out.at 2 _ rfl
    have bp := b1.out.put3 (.int .i64 0) (.int .i64 0) (.string ⟨#[]⟩)
    have y0 := bp.at 0 _ rfl
    have y1 := bp.at 1 _ rfl
    have y2 := bp.at 2 _ rfl
    have QP := Lib.hid (Q1.out.put3 (Nat.le_refl _) (.int .i64 0) (.int .i64 0) (.string ⟨#[]⟩))
    clear bp b1 Q1
    go_wp2_with fail
    refine bodyPost_ret (by simp [results, Tryz.results88, go_sem, y0, y1, y2]; try rfl) rfl ?_
    exact ⟨rfl, QP.out⟩

set_option maxHeartbeats 2000000 in
theorem readKey_str (s I : ByteArray) (w : World)
  (cP : Hid (∀ w', Calls Tryz.prog 65 #[.string s, .string ⟨#[91]⟩] w' fun e w'' => e = .returned (.tuple #[.string I, .bool true]) ∧ w' = w''))
  (cH : Hid (∀ w', Calls Tryz.prog 101 #[.string I, .string ⟨#[34]⟩] w' fun e w'' => e = .returned (.bool true) ∧ w' = w''))
  (cS : Hid (∀ w', Q w w' → Calls Tryz.prog 102 #[.string I] w' fun e w'' => ∃ k r ok, e = .returned (.tuple #[kv k, .string r, .bool ok]) ∧ KeyEnds (rdS I.data.toList) k r ok ∧ Q w' w'')) :
    Calls Tryz.prog 88 #[.string s] w fun e w' => ∃ k r ok, e = .returned (.tuple #[kv k, .string r, .bool ok]) ∧ KeyEnds (rdS I.data.toList) k r ok ∧ Q w w' := by
    generalize rdS I.data.toList = RD at *
    go_enter Tryz.func88, Tryz.ntmps88
    go_wp2_with fail
    refine (cP.out _).mono ?_; rintro e w2 ⟨rfl, rfl⟩
    go_wp2_with fail
    refine (cH.out _).mono ?_; rintro e w2 ⟨rfl, rfl⟩
    go_wp2_with fail
    refine (cS.out _ (Q.alloc _ _)).mono ?_; rintro e w1 ⟨⟨kd, n, t⟩, r, ok, rfl, hk, q1⟩
    have HK := Lib.hid hk
    clear hk cS
    have b1 := Lib.hid ((Bk.new _ _ w).stays q1)
    have Q1 := Lib.hid ((Q.alloc w _).trans q1)
    clear q1
    unfold kv
    simp only
    have z0 := b1.out.frozen 0
    have z1 := b1.out.frozen 1
    have z2 := b1.out.frozen 2
    have x0 := b1.out.at 0 _ rfl
    have x1 := b1.out.at 1 _ rfl
    have x2 := b1.out.at 2 _ rfl
    have bp := b1.out.put3 (.int .i64 kd) (.int .i64 n) (.string t)
    have y0 := bp.at 0 _ rfl
    have y1 := bp.at 1 _ rfl
    have y2 := bp.at 2 _ rfl
    have QP := Lib.hid (Q1.out.put3 (Nat.le_refl _) (.int .i64 kd) (.int .i64 n) (.string t))
    clear bp b1 Q1
    go_wp2_with fail
    refine bodyPost_ret (by simp [results, Tryz.results88, go_sem, y0, y1, y2]; try rfl) rfl ?_
    exact ⟨⟨kd, n, t⟩, r, ok, rfl, HK.out, QP.out⟩

set_option maxHeartbeats 2000000 in
theorem readKey_num (s I : ByteArray) (w : World)
  (cP : Hid (∀ w', Calls Tryz.prog 65 #[.string s, .string ⟨#[91]⟩] w' fun e w'' => e = .returned (.tuple #[.string I, .bool true]) ∧ w' = w''))
  (cH : Hid (∀ w', Calls Tryz.prog 101 #[.string I, .string ⟨#[34]⟩] w' fun e w'' => e = .returned (.bool false) ∧ w' = w''))
  (cS : Hid (∀ w', Q w w' → Calls Tryz.prog 103 #[.string I] w' fun e w'' => ∃ k r ok, e = .returned (.tuple #[kv k, .string r, .bool ok]) ∧ KeyEnds (rdN I.data.toList) k r ok ∧ Q w' w'')) :
    Calls Tryz.prog 88 #[.string s] w fun e w' => ∃ k r ok, e = .returned (.tuple #[kv k, .string r, .bool ok]) ∧ KeyEnds (rdN I.data.toList) k r ok ∧ Q w w' := by
    generalize rdN I.data.toList = RD at *
    go_enter Tryz.func88, Tryz.ntmps88
    go_wp2_with fail
    refine (cP.out _).mono ?_; rintro e w2 ⟨rfl, rfl⟩
    go_wp2_with fail
    refine (cH.out _).mono ?_; rintro e w2 ⟨rfl, rfl⟩
    go_wp2_with fail
    refine (cS.out _ (Q.alloc _ _)).mono ?_; rintro e w1 ⟨⟨kd, n, t⟩, r, ok, rfl, hk, q1⟩
    have HK := Lib.hid hk
    clear hk cS
    have b1 := Lib.hid ((Bk.new _ _ w).stays q1)
    have Q1 := Lib.hid ((Q.alloc w _).trans q1)
    clear q1
    unfold kv
    simp only
    have z0 := b1.out.frozen 0
    have z1 := b1.out.frozen 1
    have z2 := b1.out.frozen 2
    have x0 := b1.out.at 0 _ rfl
    have x1 := b1.out.at 1 _ rfl
    have x2 := b1.out.at 2 _ rfl
    have bp := b1.out.put3 (.int .i64 kd) (.int .i64 n) (.string t)
    have y0 := bp.at 0 _ rfl
    have y1 := bp.at 1 _ rfl
    have y2 := bp.at 2 _ rfl
    have QP := Lib.hid (Q1.out.put3 (Nat.le_refl _) (.int .i64 kd) (.int .i64 n) (.string t))
    clear bp b1 Q1
    go_wp2_with fail
    refine bodyPost_ret (by simp [results, Tryz.results88, go_sem, y0, y1, y2]; try rfl) rfl ?_
    exact ⟨⟨kd, n, t⟩, r, ok, rfl, HK.out, QP.out⟩

theorem readKey_any (s : ByteArray) (w : World) (f : Fa w) (hs : s.size ≤ 1000000) :
    Calls Tryz.prog 88 #[.string s] w fun e w' => ∃ k r ok, e = .returned (.tuple #[kv k, .string r, .bool ok]) ∧ KeyEnds (rdK s.data.toList) k r ok ∧ Q w w' := by
  have cP := fun w' => cutPrefix_any s ⟨#[91]⟩ w'
  have e91 : (⟨#[91]⟩ : ByteArray).data.toList = [91] := rfl
  have e34 : (⟨#[34]⟩ : ByteArray).data.toList = [34] := rfl
  rw [e91] at cP
  cases hp : Lib.hasPrefix s.data.toList [91] with
  | false =>
    rw [hp] at cP
    refine (readKey_none s _ w cP).mono ?_
    rintro e w' ⟨rfl, q⟩
    refine ⟨K.zero, s, true, rfl, ?_, q⟩
    have : rdK s.data.toList = some (K.zero, s.data.toList) := by
      cases hl : s.data.toList with
      | nil => rfl
      | cons c t =>
        have hc : ¬ c = 91 := fun hc => by
          subst hc
          have := (pre_one s.data.toList 91).2 (by rw [hl]; rfl)
          rw [hp] at this
          cases this
        show (if c = 91 then (if t.head? = some 34 then rdS t else rdN t) else some (K.zero, c :: t)) = _
        rw [if_neg hc]
    rw [this]
    exact ⟨rfl, rfl, rfl⟩
  | true =>
    have hl : s.data.toList = 91 :: s.data.toList.drop 1 := by
      have := pre_split _ _ hp
      rw [trim_one _ _ hp] at this
      exact this
    rw [hp, trim_one _ _ hp] at cP
    have hsz : (⟨(s.data.toList.drop 1).toArray⟩ : ByteArray).size ≤ 1000000 := by rw [ba_size, List.length_drop]; simp; omega
    have cH := fun w' => hasPrefix_any ⟨(s.data.toList.drop 1).toArray⟩ ⟨#[34]⟩ w'
    rw [e34, ba_list] at cH
    rw [hl, rdK_open]
    cases hq : Lib.hasPrefix (s.data.toList.drop 1) [34] with
    | true =>
      rw [hq] at cH
      rw [if_pos ((pre_one _ _).1 hq)]
      have := readKey_str s _ w cP cH (fun w' q => readStringKey_any _ w' (q.fa f) hsz)
      rwa [ba_list] at this
    | false =>
      rw [hq] at cH
      rw [if_neg (fun x => by have := (pre_one _ _).2 x; rw [hq] at this; cases this)]
      have := readKey_num s _ w cP cH (fun w' q => readNumberKey_any _ w' (q.fa f) hsz)
      rwa [ba_list] at this

end Go.Proofs.YthekabflbpfjoaaGreatDoor.adr
