/- Entries: isEmpty, isUnknown, cut, inside; Stacks of pairs of entries in memory; slices.Equal over keys. -/
import Derived.Test.YtjmchjphdfbhiaaGreatDoorVfi
import Derived.Test.YtjmchjphdfbhiaaGreatDoorVcq
namespace Go.Proofs.YtjmchjphdfbhiaaGreatDoor.val
open Go.RowKit
set_option maxRecDepth 100000 in
theorem isEmpty_any (A3 A4 : Option Addr) (n m cn cm : Nat) (w : World) :
    Calls Tryz.prog 84 #[.agg #[.slice A3 n cn, .slice A4 m cm]] w fun e w' => e = .returned (.bool (((n : Int) == 0) && ((m : Int) == 0))) ∧ Q w w' := by
  cases h1 : ((n : Int) == 0) with
  | false =>
    go_enter Tryz.func84, Tryz.ntmps84
    go_wp2_with fail
    go_ret
    exact ⟨rfl, Q.box _ _⟩
  | true =>
    rw [Bool.true_and]
    go_enter Tryz.func84, Tryz.ntmps84
    go_wp2_with fail
    go_ret
    exact ⟨rfl, Q.box _ _⟩
/-- The rest of a slice behind its first k elements of size z. -/
def restAt (A : Option Addr) (c k z : Nat) : Option Addr := if c = k then A else A.map (fun x => x.add (k * z))
set_option maxRecDepth 100000 in
set_option maxHeartbeats 4000000 in
theorem cut_any (A3 A4 : Option Addr) (n m cn cm k j : Nat) (w : World) (hk : min (1 : Int) (n : Int) = (k : Int)) (hj : min (1 : Int) (m : Int) = (j : Int)) (hkn : (k : Int) ≤ (n : Int)) (hjm : (j : Int) ≤ (m : Int)) (hkc : (k : Int) ≤ (cn : Int)) (hjc : (j : Int) ≤ (cm : Int)) :
    Calls Tryz.prog 85 #[.agg #[.slice A3 n cn, .slice A4 m cm]] w fun e w' =>
      e = .returned (.tuple #[.agg #[.slice A3 k cn, .slice A4 j cm], .agg #[.slice (restAt A3 cn k 1) (n - k) (cn - k), .slice (restAt A4 cm j 5) (m - j) (cm - j)]]) ∧ Q w w' := by
  go_enter Tryz.func85, Tryz.ntmps85
  go_wp2_with fail
  go_quiet (fail)
  go_wp2_with fail
  go_region
  go_wp2_with fail
  all_goals
    go_returns
    refine ⟨by simp [restAt, *], ?_⟩
    refine Below.setCell (Below.setCell (Below.setCell (Below.setCell ?_ ?_ _) ?_ _) ?_ _) ?_ _
    · exact (((Q.box _ _).trans (Q.box _ _)).trans (Q.box _ _)).trans (Q.drewN _ _)
    all_goals
      dsimp only
      omega
set_option maxRecDepth 100000 in
theorem inside_nil (A3 : Option Addr) (n cn : Nat) (A4 : Option Addr) (cm : Nat) (w : World) :
    Calls Tryz.prog 86 #[.agg #[.slice A3 n cn, .slice A4 0 cm]] w fun e w' => e = .returned (.agg #[.slice none 0 0, .slice none 0 0]) ∧ Q w w' := by
  go_enter Tryz.func86, Tryz.ntmps86
  go_wp2_with fail
  go_returns
  refine ⟨rfl, ?_⟩
  exact (Q.box _ _).trans (Q.box _ _)
set_option maxRecDepth 100000 in
set_option maxHeartbeats 4000000 in
theorem inside_cons (A3 : Option Addr) (n cn : Nat) (b o m cm : Nat) (A5 A6 : Option Addr) (n5 n6 c5 c6 : Nat) (w : World) (hm : (0 : Int) < (m : Int)) (hz : ((m : Int) == 0) = false) (x3 : w.cell? ⟨b, o + 3, none⟩ = some (.slice A5 n5 c5)) (x4 : w.cell? ⟨b, o + 4, none⟩ = some (.slice A6 n6 c6)) :
    Calls Tryz.prog 86 #[.agg #[.slice A3 n cn, .slice (some ⟨b, o, none⟩) m cm]] w fun e w' => e = .returned (.agg #[.slice A6 n6 c6, .slice A5 n5 c5]) ∧ Q w w' := by
  have hb : b < w.heap.size := cell_lt x3
  go_enter Tryz.func86, Tryz.ntmps86
  go_wp2_with fail
  go_region
  go_wp2_with fail
  go_returns
  exact ⟨rfl, ((Q.box _ _).trans (Q.box _ _)).trans ((Below.refl _ _).drew)⟩
theorem isUnknown_nil (A3 : Option Addr) (n cn : Nat) (A4 : Option Addr) (cm : Nat) (w : World) :
    Calls Tryz.prog 65 #[.agg #[.slice A3 n cn, .slice A4 0 cm]] w fun e w' => e = .returned (.bool false) ∧ Q w w' := by
  go_enter Tryz.func65, Tryz.ntmps65
  go_wp2_with fail
  go_ret
  exact ⟨rfl, Q.box _ _⟩
theorem isUnknown_cons (A3 : Option Addr) (n cn : Nat) (b o m cm : Nat) (k : Int) (w : World) (hm : (0 : Int) < (m : Int)) (x0 : w.cell? ⟨b, o, none⟩ = some (.int .i64 k)) :
    Calls Tryz.prog 65 #[.agg #[.slice A3 n cn, .slice (some ⟨b, o, none⟩) m cm]] w fun e w' => e = .returned (.bool (k == 6)) ∧ Q w w' := by
  have hb : b < w.heap.size := cell_lt x0
  go_enter Tryz.func65, Tryz.ntmps65
  go_wp2_with fail
  go_ret
  exact ⟨rfl, Q.box _ _⟩

end Go.Proofs.YtjmchjphdfbhiaaGreatDoor.val

namespace Go.Proofs.YtjmchjphdfbhiaaGreatDoor.val
open Go.RowKit
open Go.Proofs.YtjmchjphdfbhiaaGreatDoor
abbrev Qd := Value × Value × Value × Value
def pcells : List Qd → List Value
  | [] => []
  | q :: t => q.1 :: q.2.1 :: q.2.2.1 :: q.2.2.2 :: pcells t
theorem pcells_len : ∀ l : List Qd, (pcells l).length = l.length * 4
  | [] => rfl
  | q :: t => by
    show (pcells t).length + 1 + 1 + 1 + 1 = (t.length + 1) * 4
    rw [pcells_len t]
    omega
theorem pcells_app : ∀ a b : List Qd, pcells (a ++ b) = pcells a ++ pcells b
  | [], b => rfl
  | q :: t, b => by
    show _ :: _ :: _ :: _ :: pcells (t ++ b) = _
    rw [pcells_app t b]
    rfl
/-- A slice of pairs that is the call's own. -/
def Op4 (T : TypeId) (B g cap : Nat) (qs : List Qd) (w : World) : Prop := w.ownsRow B T 4 (.slice (some ⟨g, 0, none⟩) qs.length cap) qs.length (pcells qs)
theorem Op4.base {T : TypeId} {B g cap : Nat} {qs : List Qd} {w : World} (h : Op4 T B g cap qs w) : B ≤ g ∧ g < w.heap.size := World.ownsRow.lt h g rfl
theorem Op4.cap {T : TypeId} {B g cap : Nat} {qs : List Qd} {w : World} (h : Op4 T B g cap qs w) : qs.length ≤ cap ∧ cap ≤ maxLen := by
  rcases h.2 with ⟨h, _⟩ | ⟨g', cap', cur, hv, _, _, h1, h2, _⟩
  · cases h
  · simp only [Value.slice.injEq] at hv
    obtain ⟨_, _, rfl⟩ := hv
    exact ⟨h1, h2⟩
theorem Op4.frozen {T : TypeId} {B g cap : Nat} {qs : List Qd} {w : World} (h : Op4 T B g cap qs w) (j : Nat) : w.frozen? ⟨g, j, none⟩ = false := World.ownsRow.frozenAt h j
theorem Op4.top {T : TypeId} {B g cap : Nat} {qs : List Qd} {q : Qd} {w : World} (h : Op4 T B g cap (qs ++ [q]) w) (m : Nat) (hm : m = qs.length) :
    w.cell? ⟨g, m * 4, none⟩ = some q.1 ∧ w.cell? ⟨g, m * 4 + 1, none⟩ = some q.2.1 ∧ w.cell? ⟨g, m * 4 + 2, none⟩ = some q.2.2.1 ∧ w.cell? ⟨g, m * 4 + 3, none⟩ = some q.2.2.2 := by
  subst hm
  have hl := pcells_len qs
  have e : pcells (qs ++ [q]) = pcells qs ++ [q.1, q.2.1, q.2.2.1, q.2.2.2] := by rw [pcells_app]; rfl
  have key : ∀ j, j < 4 → w.cell? ⟨g, qs.length * 4 + j, none⟩ = [q.1, q.2.1, q.2.2.1, q.2.2.2][j]? := by
    intro j hj
    rw [World.ownsRow.cellAt h (qs.length * 4 + j) (by rw [List.length_append, List.length_singleton]; omega), e, List.getElem?_append_right (by omega), hl, Nat.add_sub_cancel_left]
  exact ⟨key 0 (by decide), key 1 (by decide), key 2 (by decide), key 3 (by decide)⟩
theorem Op4.drop {T : TypeId} {B g cap : Nat} {qs : List Qd} {q : Qd} {w : World} (h : Op4 T B g cap (qs ++ [q]) w) : Op4 T B g cap qs w := by
  unfold Op4 at h ⊢
  rcases h with ⟨_, ⟨h, _⟩ | ⟨g', cap', cur, hv, h1, h2, h3, h4, h5, h6⟩⟩
  · cases h
  · simp only [Value.slice.injEq, Option.some.injEq, Addr.mk.injEq] at hv
    obtain ⟨⟨rfl, _⟩, _, rfl⟩ := hv
    rw [List.length_append, List.length_singleton] at h3 h6
    refine ⟨pcells_len qs, .inr ⟨g, cap, cur, rfl, h1, h2, by omega, h4, h5, ?_⟩⟩
    have := congrArg (List.take (qs.length * 4)) h6
    rw [List.take_take, Nat.min_eq_left (by omega), pcells_app, List.take_left' (pcells_len qs)] at this
    exact this
theorem Op4.kept {T : TypeId} {B g cap : Nat} {qs : List Qd} {w w' : World} (h : Op4 T B g cap qs w) (hb : w'.heap[g]? = w.heap[g]?) : Op4 T B g cap qs w' := by
  unfold Op4 at h ⊢
  rcases h with ⟨h0, ⟨h, _⟩ | ⟨g', cap', cur, hv, h1, h2, h3⟩⟩
  · cases h
  · simp only [Value.slice.injEq, Option.some.injEq, Addr.mk.injEq] at hv
    obtain ⟨⟨rfl, _⟩, _, rfl⟩ := hv
    exact ⟨h0, .inr ⟨g, cap, cur, rfl, h1, hb.trans h2, h3⟩⟩
theorem Op4.stored {T : TypeId} {B g cap : Nat} {qs qs' : List Qd} {w : World} (h : Op4 T B g cap qs w) (j : Nat) (u : Value) (e : (pcells qs).set j u = pcells qs') (hl : qs'.length = qs.length) : Op4 T B g cap qs' (w.setCell ⟨g, j, none⟩ u) := by
  have := (World.ownsRow.stored h j u).1
  unfold Op4
  rw [hl, ← e]
  exact this
theorem Op4.set {T : TypeId} {B g cap : Nat} {qs : List Qd} {a b c d : Value} {w : World} (h : Op4 T B g cap (qs ++ [(a, b, c, d)]) w) (m : Nat) (hm : m = qs.length) (u : Value) :
    Op4 T B g cap (qs ++ [(u, b, c, d)]) (w.setCell ⟨g, m * 4, none⟩ u) ∧ Op4 T B g cap (qs ++ [(a, u, c, d)]) (w.setCell ⟨g, m * 4 + 1, none⟩ u) ∧
    Op4 T B g cap (qs ++ [(a, b, u, d)]) (w.setCell ⟨g, m * 4 + 2, none⟩ u) ∧ Op4 T B g cap (qs ++ [(a, b, c, u)]) (w.setCell ⟨g, m * 4 + 3, none⟩ u) := by
  subst hm
  have hl := pcells_len qs
  have key : ∀ (j : Nat) (x : Qd), j < 4 → ([a, b, c, d].set j u = pcells [x]) → Op4 T B g cap (qs ++ [x]) (w.setCell ⟨g, qs.length * 4 + j, none⟩ u) := by
    intro j x hj hx
    refine h.stored _ u ?_ (by simp)
    rw [pcells_app, pcells_app, List.set_append_right _ _ (by omega), hl, Nat.add_sub_cancel_left]
    exact congrArg _ hx
  exact ⟨key 0 (u, b, c, d) (by decide) rfl, key 1 (a, u, c, d) (by decide) rfl, key 2 (a, b, u, d) (by decide) rfl, key 3 (a, b, c, u) (by decide) rfl⟩
/-! ### what is known of an entry -/
def RP (w0 : World) (B g : Nat) (q : Qd) (p : En × En) (w : World) : Prop :=
  Ks q.1 p.1.1 w0 ∧ Rk w0 B g q.2.1 p.1.2 w ∧ Ks q.2.2.1 p.2.1 w0 ∧ Rk w0 B g q.2.2.2 p.2.2 w
def SP (w0 : World) (B g : Nat) : List Qd → List (En × En) → World → Prop
  | [], [], _ => True
  | q :: qs, p :: ps, w => RP w0 B g q p w ∧ SP w0 B g qs ps w
  | _, _, _ => False
theorem SP.len {w0 : World} {B g : Nat} {w : World} : ∀ (ys : List Qd) (ls : List (En × En)), SP w0 B g ys ls w → ys.length = ls.length
  | [], [], _ => rfl
  | _ :: ys, _ :: ls, h => by rw [List.length_cons, List.length_cons, SP.len ys ls h.2]
  | [], _ :: _, h => h.elim
  | _ :: _, [], h => h.elim
theorem SP.kept {w0 : World} {B g g' : Nat} {w w' : World} (hb : ∀ b, B ≤ b → b ≠ g → b < w.heap.size → b ≠ g' ∧ w'.heap[b]? = w.heap[b]?) (hs : w.heap.size ≤ w'.heap.size) : ∀ (ys : List Qd) (ls : List (En × En)), SP w0 B g ys ls w → SP w0 B g' ys ls w'
  | [], [], _ => trivial
  | _ :: ys, _ :: ls, h => ⟨⟨h.1.1, h.1.2.1.kept hb hs, h.1.2.2.1, h.1.2.2.2.kept hb hs⟩, SP.kept hb hs ys ls h.2⟩
  | [], _ :: _, h => h.elim
  | _ :: _, [], h => h.elim
/-- The blocks of the world w0 and those from B on are as they were, but for g. -/
def But (w0 : World) (B g : Nat) (w w' : World) : Prop := ∀ j, j ≠ g → j < w.heap.size → (j < w0.heap.size ∨ B ≤ j) → w'.heap[j]? = w.heap[j]?
theorem But.q {w0 : World} {B g : Nat} {w w' w'' : World} (h : But w0 B g w w') (hs : w.heap.size ≤ w'.heap.size) (q : Q w' w'') : But w0 B g w w'' := fun j h1 h2 h3 => (q.block j (Nat.lt_of_lt_of_le h2 hs)).trans (h j h1 h2 h3)
structure EnK (w0 w : World) (B g : Nat) (e : En) (kv iv : Value) (A3 A4 A5 A6 : Option Addr) (n cn m cm k j n5 c5 n6 c6 : Nat) : Prop where
  ek : kv = .slice A3 n cn
  ei : iv = .slice A4 m cm
  hk : min (1 : Int) (n : Int) = (k : Int)
  hj : min (1 : Int) (m : Int) = (j : Int)
  hkn : (k : Int) ≤ (n : Int)
  hjm : (j : Int) ≤ (m : Int)
  hkc : (k : Int) ≤ (cn : Int)
  hjc : (j : Int) ≤ (cm : Int)
  lk : k = (headE e).1.length
  lj : j = (headE e).2.length
  empty : (((n : Int) == 0) && ((m : Int) == 0)) = emptyE e
  restK : Ks (.slice (restAt A3 cn k 1) (n - k) (cn - k)) (tailE e).1 w0
  restI : Is (.slice (restAt A4 cm j 5) (m - j) (cm - j)) (tailE e).2 w0
  wf : WfL (tailE e).2
  ka : ∀ w', But w0 B g w w' → Ka A3 (headE e).1 w' ∧ Ia A4 (headE e).2 w' ∧ Calls Tryz.prog 86 #[.agg #[.slice A3 k cn, .slice A4 j cm]] w' fun x w'' => x = .returned (.agg #[.slice A6 n6 c6, .slice A5 n5 c5]) ∧ Q w' w''
  inK : Ks (.slice A6 n6 c6) (inE (headE e)).1 w0
  inI : Is (.slice A5 n5 c5) (inE (headE e)).2 w0
  inW : WfL (inE (headE e)).2
theorem entry_facts {w0 w : World} {B g : Nat} {e : En} {kv iv : Value} (q : Q w0 w) (hB : w0.heap.size ≤ B) (hg : B ≤ g) (h1 : Ks kv e.1 w0) (h2 : Rk w0 B g iv e.2 w) :
    ∃ A3 A4 A5 A6 n cn m cm k j n5 c5 n6 c6, EnK w0 w B g e kv iv A3 A4 A5 A6 n cn m cm k j n5 c5 n6 c6 := by
  obtain ⟨ks, l⟩ := e
  obtain ⟨A3, cn, rfl, hcn, gK⟩ := h1
  obtain ⟨A4, cm, rfl, hcm⟩ := h2.shape
  simp only at hcn gK hcm h2
  have hKs : Ks (.slice (restAt A3 cn (min 1 ks.length) 1) (ks.length - min 1 ks.length) (cn - min 1 ks.length)) (tailE (ks, l)).1 w0 := by
    show Ks _ (ks.drop 1) w0
    cases ks with
    | nil => exact ⟨_, _, rfl, by simp, fun h => absurd rfl h⟩
    | cons x t =>
      have hc : t.length + 1 ≤ cn := hcn
      have e : min 1 (x :: t).length = 1 := by simp
      rw [e]
      refine ⟨_, _, rfl, by show t.length ≤ cn - 1; omega, fun hn => ?_⟩
      obtain ⟨b, o, rfl, kl⟩ := gK (by simp)
      have : 0 < t.length := List.length_pos_iff.2 hn
      refine ⟨b, o + 1, ?_, kl.2⟩
      unfold restAt
      have : ¬ cn = 1 := by have : 0 < t.length := List.length_pos_iff.2 hn; omega
      rw [if_neg this]
      rfl
  have hKa : ∀ w', But w0 B g w w' → Ka A3 (headE (ks, l)).1 w' := by
    intro w' hb hn
    have hn : ks.take 1 ≠ [] := hn
    obtain ⟨x, t, rfl⟩ : ∃ x t, ks = x :: t := by
      cases ks with
      | nil => exact absurd rfl hn
      | cons x t => exact ⟨x, t, rfl⟩
    obtain ⟨b, o, rfl, kl⟩ := gK (by simp)
    refine ⟨b, o, rfl, ?_, trivial⟩
    have hlt : b < w0.heap.size := cell_lt kl.1
    exact (cell_block (a := ⟨b, o, none⟩) (hb b (by omega) (Nat.lt_of_lt_of_le hlt q.size) (.inl hlt))).trans (cell_stays q kl.1)
  have key : ∀ (k : Nat), k = min 1 ks.length → (min (1 : Int) (ks.length : Int) = (k : Int)) := by intro k hk; omega
  cases l with
  | nil =>
    refine ⟨A3, A4, none, none, ks.length, cn, 0, cm, min 1 ks.length, 0, 0, 0, 0, 0, rfl, rfl, by omega, by omega, by omega, by omega, by omega, by omega, ?_, rfl, ?_, hKs, ?_, WfL_nil, fun w' hb => ⟨hKa w' hb, fun h => absurd rfl h, ?_⟩, Ks.nil _ _ _, Is.nil _ _ _, WfL_nil⟩
    · show _ = (ks.take 1).length
      rw [List.length_take]
    · show _ = (ks.isEmpty && true)
      rw [Bool.and_true]
      have e0 : ((0 : Int) == 0) = true := rfl
      cases ks with
      | nil => rfl
      | cons x t =>
        have : (((t.length + 1 : Nat) : Int) == 0) = false := by rw [beq_eq_false_iff_ne]; omega
        rw [List.length_cons, this]
        rfl
    · exact ⟨_, _, rfl, Nat.zero_le _, fun h => absurd rfl h⟩
    · exact inside_nil _ _ _ _ _ _
  | cons x t =>
    obtain ⟨b, o, c, c3, c4, e, hc, hbg, hb0, h5, hi3, hk4, hxw, htw, htl⟩ := h2.cons q hB hg
    simp only [Value.slice.injEq] at e
    obtain ⟨rfl, _, rfl⟩ := e
    obtain ⟨A5, c5, rfl, _⟩ := hi3.shape
    obtain ⟨A6, c6, rfl, _⟩ := hk4.shape
    have hlt : b < w.heap.size := cell_lt h5.a
    refine ⟨A3, _, A5, A6, ks.length, cn, t.length + 1, cm, min 1 ks.length, 1, x.items.length, c5, x.keys.length, c6, rfl, rfl, by omega, by omega, by omega, by omega, by omega, by omega, ?_, rfl, ?_, hKs, ?_, htw, fun w' hb => ⟨hKa w' hb, fun _ => ⟨b, o, rfl, fun i hi => ?_⟩, ?_⟩, hk4, hi3, hxw.items⟩
    · show _ = (ks.take 1).length
      rw [List.length_take]
    · rw [emptyE_cons]
      have : (((t.length + 1 : Nat) : Int) == 0) = false := by rw [beq_eq_false_iff_ne]; omega
      rw [this, Bool.and_false]
    · have := htl (restAt (some ⟨b, o, none⟩) cm 1 5) (by
        unfold restAt
        by_cases h : cm = 1
        · exact .inl h
        · right
          rw [if_neg h]
          rfl)
      exact this
    · have hi0 : i = 0 := by
        have : i < 1 := hi
        omega
      subst hi0
      refine ⟨A5, x.items.length, c5, A6, x.keys.length, c6, ?_⟩
      have e : o + 0 * 5 = o := by omega
      rw [e]
      exact h5.kept (hb b hbg hlt hb0)
    · have := h5.kept (hb b hbg hlt hb0)
      exact inside_cons _ _ _ _ _ _ _ _ _ _ _ _ _ _ (by decide) (by decide) this.d this.e
/-- slices.Equal over keys of entries. -/
theorem equalKeys_any (A A' : Option Addr) (n n' c c' : Nat) (xs ys : List ByteArray) (w : World) (hn : n = xs.length) (hn' : n' = ys.length) (hI : Ka A xs w) (hI' : Ka A' ys w) (hl : n ≤ 1000) (hl' : n' ≤ 1000) :
    Calls Tryz.prog 66 #[.slice A n c, .slice A' n' c'] w fun e w' => e = .returned (.bool (decide (xs = ys))) ∧ Q w w' := by
  by_cases h0 : n = 0
  · obtain rfl : xs = [] := List.eq_nil_of_length_eq_zero (by omega)
    subst h0
    refine (Tryz.slices_Equal_string_empty A A' c n' c' w (by omega)).mono ?_
    rintro e w' ⟨rfl, rfl⟩
    refine ⟨?_, Q.refl _⟩
    have : (n' = 0) ↔ ([] = ys) := by
      rw [hn']
      constructor
      · intro h
        exact (List.eq_nil_of_length_eq_zero h).symm
      · rintro rfl
        rfl
    rw [decide_eq_decide.2 this]
  · by_cases hne : n = n'
    · obtain ⟨b, o, rfl, k1⟩ := hI (by rintro rfl; simp at hn; omega)
      obtain ⟨b', o', rfl, k2⟩ := hI' (by rintro rfl; simp at hn'; omega)
      refine (Tryz.slices_Equal_string b o n c b' o' n' c' xs ys w (by omega) (by omega) (by omega) (by omega) (fun j hj => ?_) (fun j hj => ?_)).mono ?_
      · rw [KL.at xs b o w k1 j hj, List.getD_eq_getElem?_getD, List.getElem?_eq_getElem hj, Option.getD_some]
      · rw [KL.at ys b' o' w k2 j hj, List.getD_eq_getElem?_getD, List.getElem?_eq_getElem hj, Option.getD_some]
      · rintro e w' ⟨rfl, q, rfl⟩
        refine ⟨?_, Q.drewN _ _⟩
        rw [hn, hn', List.take_length, List.take_length]
    · have hz : ((n : Int) != (n' : Int)) = true := by simp; omega
      have : decide (xs = ys) = false := decide_eq_false (by rintro rfl; exact hne (hn.trans hn'.symm))
      rw [this]
      clear hn hn' hI hI' hl hl' h0 hne this
      go_enter Tryz.func66, Tryz.ntmps66
      go_wp2_with fail
      go_ret
      exact ⟨rfl, Q.refl _⟩

/-- What a call may have changed since wr: block g alone of those that were there. -/
structure Mv (g : Nat) (wr w : World) : Prop where
  os : w.os = wr.os
  tape : w.tape = wr.tape
  output : w.output = wr.output
  size : wr.heap.size ≤ w.heap.size
  block : ∀ j, j ≠ g → j < wr.heap.size → w.heap[j]? = wr.heap[j]?
theorem Mv.of {g : Nat} {wr w : World} (q : Q wr w) : Mv g wr w := ⟨q.os, q.tape, q.output, q.size, fun j _ hj => q.block j hj⟩
theorem Mv.q {g : Nat} {wr w w' : World} (h : Mv g wr w) (q : Q w w') : Mv g wr w' :=
  ⟨q.os.trans h.os, q.tape.trans h.tape, q.output.trans h.output, Nat.le_trans h.size q.size, fun j hj hl => (q.block j (Nat.lt_of_lt_of_le hl h.size)).trans (h.block j hj hl)⟩
theorem Mv.set {g : Nat} {wr w : World} (h : Mv g wr w) {p : Nat} (hp : p = g ∨ wr.heap.size ≤ p) (j : Nat) (u : Value) : Mv g wr (w.setCell ⟨p, j, none⟩ u) :=
  ⟨h.os, h.tape, h.output, by simpa [World.setCell] using h.size, fun i hi hl => (Below.heap_setCell w ⟨p, j, none⟩ u i (by show i ≠ p; omega)).trans (h.block i hi hl)⟩
theorem Mv.below {g B : Nat} {wr w : World} (h : Mv g wr w) (hg : B ≤ g) (hs : B ≤ wr.heap.size) : Below B wr w :=
  ⟨h.os, h.tape, h.output, h.size, fun j hj => h.block j (by omega) (by omega)⟩
theorem Mv.but {g : Nat} {wr w : World} (h : Mv g wr w) (w0 : World) (B : Nat) : But w0 B g wr w := fun j h1 h2 _ => h.block j h1 h2

end Go.Proofs.YtjmchjphdfbhiaaGreatDoor.val
