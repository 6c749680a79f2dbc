/- Values, plain: refinement and the order. (No seat's text is imported: written ahead of stage 7's landing.); Validity of values, plain: the first error in preorder; what is valid is sane, of few nodes and levels; Maps as rows of pairs, plain: look-up, insertion, and the map of pairs in any order; A visit of nodes in preorder, and of pairs of entries, plain: what a stack of rows comes to; The reference's left, keys and Small, plain. -/
import Derived.Lib.Bytealg
import Derived.Lib.ValidU
namespace Go.Proofs.YtjmchjphdfbhiaaGreatDoor.val
/-- A value. -/
inductive V where
  | mk (kind num : Int) (str : ByteArray) (items : List V) (keys : List ByteArray)
namespace V
def kind : V → Int | ⟨k, _, _, _, _⟩ => k
def num : V → Int | ⟨_, n, _, _, _⟩ => n
def str : V → ByteArray | ⟨_, _, s, _, _⟩ => s
def items : V → List V | ⟨_, _, _, l, _⟩ => l
def keys : V → List ByteArray | ⟨_, _, _, _, l⟩ => l
end V
theorem V.eta (v : V) : v = ⟨v.kind, v.num, v.str, v.items, v.keys⟩ := by cases v; rfl
mutual
def nodes : V → Nat
  | ⟨_, _, _, l, _⟩ => 1 + nodesL l
def nodesL : List V → Nat
  | [] => 0
  | v :: t => nodes v + nodesL t
end
mutual
def depth : V → Nat
  | ⟨_, _, _, l, _⟩ => 1 + depthL l
def depthL : List V → Nat
  | [] => 0
  | v :: t => max (depth v) (depthL t)
end
mutual
def known : V → Bool
  | ⟨k, _, _, l, _⟩ => decide (k ≠ 6) && knownL l
def knownL : List V → Bool
  | [] => true
  | v :: t => known v && knownL t
end
/-- Induction over values and lists of values. -/
theorem V.both {P : V → Prop} {Q : List V → Prop} (h : ∀ k n s l ks, Q l → P ⟨k, n, s, l, ks⟩) (h0 : Q []) (h1 : ∀ v t, P v → Q t → Q (v :: t)) : (∀ v, P v) ∧ (∀ l, Q l) :=
  ⟨fun v => V.rec (motive_1 := P) (motive_2 := Q) h h0 h1 v, fun l => V.rec_1 (motive_1 := P) (motive_2 := Q) h h0 h1 l⟩
mutual
/-- Refinement. -/
def refB : V → V → Bool
  | ⟨k, n, s, l, ks⟩, ⟨k', n', s', l', ks'⟩ => decide (k' = 6) || (decide (k = k') && decide (n = n') && (s.data.toList == s'.data.toList) && decide (ks.map (fun x => x.data.toList) = ks'.map (fun x => x.data.toList)) && refL l l')
def refL : List V → List V → Bool
  | [], [] => true
  | a :: s, b :: t => refB a b && refL s t
  | _, _ => false
end

theorem bax {a b : ByteArray} (h : a.data.toList = b.data.toList) : a = b := by
  cases a with | mk a => cases b with | mk b => exact congrArg _ (Array.toList_inj.1 h)
theorem keys_eq {a b : List ByteArray} (h : a.map (fun x => x.data.toList) = b.map (fun x => x.data.toList)) : a = b := by
  induction a generalizing b with
  | nil => cases b with | nil => rfl | cons _ _ => cases h
  | cons x t ih =>
    cases b with
    | nil => cases h
    | cons y u =>
      simp only [List.map_cons, List.cons.injEq] at h
      rw [bax h.1, ih h.2]
theorem ref_iff (k n : Int) (s : ByteArray) (l : List V) (ks : List ByteArray) (k' n' : Int) (s' : ByteArray) (l' : List V) (ks' : List ByteArray) :
    refB ⟨k, n, s, l, ks⟩ ⟨k', n', s', l', ks'⟩ = true ↔ k' = 6 ∨ (k = k' ∧ n = n' ∧ s = s' ∧ ks = ks' ∧ refL l l' = true) := by
  rw [refB]
  simp only [Bool.or_eq_true, Bool.and_eq_true, decide_eq_true_eq, beq_iff_eq]
  constructor
  · rintro (h | ⟨⟨⟨⟨h1, h2⟩, h3⟩, h4⟩, h5⟩)
    · exact .inl h
    · exact .inr ⟨h1, h2, bax h3, keys_eq h4, h5⟩
  · rintro (h | ⟨h1, h2, h3, h4, h5⟩)
    · exact .inl h
    · exact .inr ⟨⟨⟨⟨h1, h2⟩, by rw [h3]⟩, by rw [h4]⟩, h5⟩
theorem refL_cons (a b : V) (s t : List V) : refL (a :: s) (b :: t) = true ↔ refB a b = true ∧ refL s t = true := by rw [refL, Bool.and_eq_true]
theorem refL_len : ∀ (a b : List V), refL a b = true → a.length = b.length
  | [], [], _ => rfl
  | [], _ :: _, h => by simp [refL] at h
  | _ :: _, [], h => by simp [refL] at h
  | a :: s, b :: t, h => by rw [List.length_cons, List.length_cons, refL_len s t ((refL_cons a b s t).1 h).2]
theorem ref_refl : (∀ v : V, refB v v = true) ∧ (∀ l : List V, refL l l = true) :=
  V.both (fun _ _ _ _ _ h => (ref_iff _ _ _ _ _ _ _ _ _ _).2 (.inr ⟨rfl, rfl, rfl, rfl, h⟩)) rfl (fun _ _ h1 h2 => (refL_cons _ _ _ _).2 ⟨h1, h2⟩)
theorem ref_trans : (∀ a b c : V, refB a b = true → refB b c = true → refB a c = true) ∧ (∀ a b c : List V, refL a b = true → refL b c = true → refL a c = true) := by
  refine V.both (P := fun a => ∀ b c : V, refB a b = true → refB b c = true → refB a c = true) (Q := fun a => ∀ b c : List V, refL a b = true → refL b c = true → refL a c = true) ?_ ?_ ?_
  · intro k n s l ks ih b c
    obtain ⟨k1, n1, s1, l1, ks1⟩ := b
    obtain ⟨k2, n2, s2, l2, ks2⟩ := c
    rw [ref_iff, ref_iff, ref_iff]
    rintro (h | ⟨h1, h2, h3, h4, h5⟩) (g | ⟨g1, g2, g3, g4, g5⟩)
    · exact .inl g
    · exact .inl (by omega)
    · exact .inl g
    · exact .inr ⟨h1.trans g1, h2.trans g2, h3.trans g3, h4.trans g4, ih _ _ h5 g5⟩
  · intro b c h g
    cases b with
    | nil => exact g
    | cons _ _ => simp [refL] at h
  · intro v t h1 h2 b c h g
    cases b with
    | nil => simp [refL] at h
    | cons x u =>
      cases c with
      | nil => simp [refL] at g
      | cons y w =>
        rw [refL_cons] at h g ⊢
        exact ⟨h1 _ _ h.1 g.1, h2 _ _ h.2 g.2⟩

/-- What the order and refinement ask of valid values: an unknown value is bare, only a map has keys, one for each item. -/
def shape (k n : Int) (s : ByteArray) (l : List V) (ks : List ByteArray) : Prop :=
  (k = 6 → n = 0 ∧ s = ⟨#[]⟩ ∧ l = [] ∧ ks = []) ∧ (k = 5 → ks.length = l.length) ∧ (k ≠ 5 → ks = [])
mutual
def sane : V → Prop
  | ⟨k, n, s, l, ks⟩ => shape k n s l ks ∧ saneL l
def saneL : List V → Prop
  | [] => True
  | v :: t => sane v ∧ saneL t
end
theorem sane_iff (k n : Int) (s : ByteArray) (l : List V) (ks : List ByteArray) : sane ⟨k, n, s, l, ks⟩ ↔ shape k n s l ks ∧ saneL l := by rw [sane]
theorem saneL_cons (v : V) (t : List V) : saneL (v :: t) ↔ sane v ∧ saneL t := by rw [saneL]
theorem ref_anti : (∀ a b : V, sane a → sane b → refB a b = true → refB b a = true → a = b) ∧ (∀ a b : List V, saneL a → saneL b → refL a b = true → refL b a = true → a = b) := by
  refine V.both (P := fun a => ∀ b : V, sane a → sane b → refB a b = true → refB b a = true → a = b) (Q := fun a => ∀ b : List V, saneL a → saneL b → refL a b = true → refL b a = true → a = b) ?_ ?_ ?_
  · intro k n s l ks ih b ha hb
    obtain ⟨k1, n1, s1, l1, ks1⟩ := b
    rw [sane_iff] at ha hb
    rw [ref_iff, ref_iff]
    rintro (h | ⟨h1, h2, h3, h4, h5⟩) (g | ⟨g1, g2, g3, g4, g5⟩)
    · obtain ⟨a1, a2, a3, a4⟩ := ha.1.1 g
      obtain ⟨b1, b2, b3, b4⟩ := hb.1.1 h
      rw [g, h, a1, a2, a3, a4, b1, b2, b3, b4]
    · obtain ⟨b1, b2, b3, b4⟩ := hb.1.1 h
      obtain ⟨a1, a2, a3, a4⟩ := ha.1.1 (by omega)
      rw [h, ← g1, h, a1, a2, a3, a4, b1, b2, b3, b4]
    · obtain ⟨a1, a2, a3, a4⟩ := ha.1.1 g
      obtain ⟨b1, b2, b3, b4⟩ := hb.1.1 (by omega)
      rw [g, ← h1, g, a1, a2, a3, a4, b1, b2, b3, b4]
    · rw [h1, h2, h3, h4, ih _ ha.2 hb.2 h5 g5]
  · intro b _ _ h _
    cases b with
    | nil => rfl
    | cons _ _ => simp [refL] at h
  · intro v t h1 h2 b ha hb h g
    cases b with
    | nil => simp [refL] at h
    | cons x u =>
      rw [saneL_cons] at ha hb
      rw [refL_cons] at h g
      rw [h1 _ ha.1 hb.1 h.1 g.1, h2 _ ha.2 hb.2 h.2 g.2]
theorem ref_known : (∀ a b : V, known b = true → refB a b = true → a = b) ∧ (∀ a b : List V, knownL b = true → refL a b = true → a = b) := by
  refine V.both (P := fun a => ∀ b : V, known b = true → refB a b = true → a = b) (Q := fun a => ∀ b : List V, knownL b = true → refL a b = true → a = b) ?_ ?_ ?_
  · intro k n s l ks ih b hb
    obtain ⟨k1, n1, s1, l1, ks1⟩ := b
    rw [known, Bool.and_eq_true, decide_eq_true_eq] at hb
    rw [ref_iff]
    rintro (h | ⟨h1, h2, h3, h4, h5⟩)
    · exact absurd h hb.1
    · rw [h1, h2, h3, h4, ih _ hb.2 h5]
  · intro b _ h
    cases b with
    | nil => rfl
    | cons _ _ => simp [refL] at h
  · intro v t h1 h2 b hb h
    cases b with
    | nil => simp [refL] at h
    | cons x u =>
      rw [knownL, Bool.and_eq_true] at hb
      rw [refL_cons] at h
      rw [h1 _ hb.1 h.1, h2 _ hb.2 h.2]
theorem nodes_pos (v : V) : 1 ≤ nodes v := by
  obtain ⟨k, n, s, l, ks⟩ := v
  rw [nodes]
  omega
theorem ref_nodes : (∀ a b : V, sane b → refB a b = true → nodes b ≤ nodes a) ∧ (∀ a b : List V, saneL b → refL a b = true → nodesL b ≤ nodesL a) := by
  refine V.both (P := fun a => ∀ b : V, sane b → refB a b = true → nodes b ≤ nodes a) (Q := fun a => ∀ b : List V, saneL b → refL a b = true → nodesL b ≤ nodesL a) ?_ ?_ ?_
  · intro k n s l ks ih b hb
    obtain ⟨k1, n1, s1, l1, ks1⟩ := b
    rw [sane_iff] at hb
    rw [ref_iff, nodes, nodes]
    rintro (h | ⟨h1, h2, h3, h4, h5⟩)
    · obtain ⟨_, _, b3, _⟩ := hb.1.1 h
      rw [b3, nodesL]
      omega
    · have := ih _ hb.2 h5
      omega
  · intro b _ h
    cases b with
    | nil => exact Nat.le_refl _
    | cons _ _ => simp [refL] at h
  · intro v t h1 h2 b hb h
    cases b with
    | nil => simp [refL] at h
    | cons x u =>
      rw [saneL_cons] at hb
      rw [refL_cons] at h
      have g1 := h1 _ hb.1 h.1
      have g2 := h2 _ hb.2 h.2
      rw [nodesL, nodesL]
      omega


def cI (a b : Int) : Int := if a < b then -1 else if b < a then 1 else 0
def cB (a b : Bool) : Int := if a == b then 0 else if b then -1 else 1
def orL : List Int → Int
  | [] => 0
  | x :: t => if x = 0 then orL t else x
def cT (a b : ByteArray) : Int := Lib.compareBytes a.data.toList b.data.toList
/-! ### comparisons -/
/-- A comparison that is a total order, with 0 for the same alone. -/
structure Tot {α : Type} (f : α → α → Int) : Prop where
  zero : ∀ a b, f a b = 0 ↔ a = b
  anti : ∀ a b, f b a = - f a b
  trans : ∀ a b c, f a b ≤ 0 → f b c ≤ 0 → f a c ≤ 0
  low : ∀ a b, -1 ≤ f a b ∧ f a b ≤ 1
theorem Tot.less {α : Type} {f : α → α → Int} (h : Tot f) {a b c : α} (h1 : f a b < 0) (h2 : f b c < 0) : f a c < 0 := by
  have h3 := h.trans a b c (by omega) (by omega)
  rcases Int.lt_or_eq_of_le h3 with h4 | h4
  · exact h4
  · rw [h.zero] at h4
    subst h4
    have := h.anti a b
    omega
theorem tot_cI : Tot cI := by
  refine ⟨fun a b => ?_, fun a b => ?_, fun a b c => ?_, fun a b => ?_⟩
  all_goals unfold cI
  · split
    · omega
    split <;> omega
  · split <;> split <;> (try split) <;> (try split) <;> omega
  · split <;> split <;> (try split) <;> (try split) <;> (try split) <;> omega
  · split
    · omega
    split <;> omega
theorem tot_cB : Tot cB := ⟨by decide, by decide, by decide, by decide⟩
theorem u8_cases (a b : UInt8) : a < b ∨ (¬ a < b ∧ ¬ b < a ∧ a = b) ∨ (¬ a < b ∧ b < a) := by
  rw [UInt8.lt_iff_toNat_lt, UInt8.lt_iff_toNat_lt]
  rcases Nat.lt_trichotomy a.toNat b.toNat with h | h | h
  · exact .inl h
  · exact .inr (.inl ⟨by omega, by omega, UInt8.toNat_inj.1 h⟩)
  · exact .inr (.inr ⟨by omega, h⟩)
theorem cmpB_cons (a b : UInt8) (s t : List UInt8) : Lib.compareBytes (a :: s) (b :: t) = if cI a.toNat b.toNat = 0 then Lib.compareBytes s t else cI a.toNat b.toNat := by
  show (if a < b then -1 else if b < a then 1 else Lib.compareBytes s t) = _
  unfold cI
  by_cases h1 : a < b
  · have h1' := UInt8.lt_iff_toNat_lt.1 h1
    rw [if_pos h1, if_pos (show (a.toNat : Int) < b.toNat by omega), if_neg (by decide)]
  · have h1' : ¬ a.toNat < b.toNat := fun h => h1 (UInt8.lt_iff_toNat_lt.2 h)
    rw [if_neg h1, if_neg (show ¬ (a.toNat : Int) < b.toNat by omega)]
    by_cases h2 : b < a
    · have h2' := UInt8.lt_iff_toNat_lt.1 h2
      rw [if_pos h2, if_pos (show (b.toNat : Int) < a.toNat by omega), if_neg (by decide)]
    · have h2' : ¬ b.toNat < a.toNat := fun h => h2 (UInt8.lt_iff_toNat_lt.2 h)
      rw [if_neg h2, if_neg (show ¬ (b.toNat : Int) < a.toNat by omega), if_pos rfl]
/-- Lists compared one by one, the shorter first. -/
def cL {α : Type} (f : α → α → Int) : List α → List α → Int
  | [], [] => 0
  | [], _ :: _ => -1
  | _ :: _, [] => 1
  | a :: s, b :: t => if f a b = 0 then cL f s t else f a b
theorem Tot.list {α : Type} {f : α → α → Int} (h : Tot f) : Tot (cL f) := by
  have z : ∀ a b, cL f a b = 0 ↔ a = b := by
    intro a
    induction a with
    | nil => intro b; cases b <;> simp [cL]
    | cons x s ih =>
      intro b
      cases b with
      | nil => simp [cL]
      | cons y t =>
        rw [cL, List.cons.injEq, ← h.zero x y, ← ih t]
        split
        · rename_i e; simp [e]
        · rename_i e; simp [e]
  refine ⟨z, ?_, ?_, ?_⟩
  · intro a
    induction a with
    | nil => intro b; cases b <;> simp [cL]
    | cons x s ih =>
      intro b
      cases b with
      | nil => simp [cL]
      | cons y t =>
        rw [cL, cL]
        have e1 := h.anti x y
        have e2 := ih t
        split
        · rw [if_pos (by omega)]; exact e2
        · rw [if_neg (by omega)]; exact e1
  · intro a
    induction a with
    | nil => intro b c; cases b <;> cases c <;> simp [cL]
    | cons x s ih =>
      intro b c
      cases b with
      | nil => intro h1; simp [cL] at h1
      | cons y t =>
        cases c with
        | nil => intro _ h2; simp [cL] at h2
        | cons z u =>
          rw [cL, cL, cL]
          intro h1 h2
          split at h1
          · rename_i e1
            rw [h.zero] at e1
            subst e1
            split at h2
            · rename_i e2
              rw [if_pos e2]
              exact ih t u h1 h2
            · rename_i e2
              rw [if_neg e2]
              exact h2
          · rename_i e1
            split at h2
            · rename_i e2
              rw [h.zero] at e2
              subst e2
              rw [if_neg e1]
              exact h1
            · rename_i e2
              have := h.less (show f x y < 0 by omega) (show f y z < 0 by omega)
              rw [if_neg (by omega)]
              omega
  · intro a
    induction a with
    | nil => intro b; cases b <;> simp [cL]
    | cons x s ih =>
      intro b
      cases b with
      | nil => simp [cL]
      | cons y t =>
        rw [cL]
        split
        · exact ih t
        · exact h.low x y
/-- One after the other. -/
theorem Tot.then {α β : Type} {f : α → α → Int} {g : β → β → Int} (h : Tot f) (k : Tot g) : Tot (fun (x y : α × β) => if f x.1 y.1 = 0 then g x.2 y.2 else f x.1 y.1) := by
  refine ⟨fun a b => ?_, fun a b => ?_, fun a b c h1 h2 => ?_, fun a b => ?_⟩
  · obtain ⟨a1, a2⟩ := a
    obtain ⟨b1, b2⟩ := b
    simp only
    rw [Prod.mk.injEq, ← h.zero a1 b1, ← k.zero a2 b2]
    split
    · rename_i e; simp [e]
    · rename_i e; simp [e]
  · have e1 := h.anti a.1 b.1
    have e2 := k.anti a.2 b.2
    split
    · rw [if_pos (by omega)]; exact e2
    · rw [if_neg (by omega)]; exact e1
  · split at h1
    · rename_i e1
      rw [h.zero] at e1
      rw [e1]
      split at h2
      · rename_i e2
        rw [if_pos e2]
        exact k.trans _ _ _ h1 h2
      · rename_i e2
        rw [if_neg e2]
        exact h2
    · rename_i e1
      split at h2
      · rename_i e2
        rw [h.zero] at e2
        rw [← e2, if_neg e1]
        exact h1
      · rename_i e2
        have := h.less (show f a.1 b.1 < 0 by omega) (show f b.1 c.1 < 0 by omega)
        rw [if_neg (by omega)]
        omega
  · split
    · exact k.low _ _
    · exact h.low _ _
theorem Tot.pull {α β : Type} {f : α → α → Int} (h : Tot f) (φ : β → α) (hi : ∀ x y, φ x = φ y → x = y) : Tot (fun x y => f (φ x) (φ y)) :=
  ⟨fun a b => (h.zero _ _).trans ⟨hi a b, fun e => by rw [e]⟩, fun a b => h.anti _ _, fun a b c => h.trans _ _ _, fun a b => h.low _ _⟩
theorem cmpB_eq : ∀ a b : List UInt8, Lib.compareBytes a b = cL (fun x y : UInt8 => cI x.toNat y.toNat) a b
  | [], [] => rfl
  | [], _ :: _ => rfl
  | _ :: _, [] => rfl
  | a :: s, b :: t => by rw [cmpB_cons, cL, cmpB_eq s t]
theorem Tot.bytes : Tot Lib.compareBytes := by
  have e : Lib.compareBytes = cL (fun x y : UInt8 => cI x.toNat y.toNat) := funext fun a => funext fun b => cmpB_eq a b
  rw [e]
  exact (tot_cI.pull (fun x : UInt8 => (x.toNat : Int)) (fun x y h => UInt8.toNat_inj.1 (by omega))).list

theorem tot_cT : Tot cT := Tot.bytes.pull (fun s : ByteArray => s.data.toList) (fun _ _ h => bax h)
/-- The keys at one place, where both have one. -/
def cH : List ByteArray → List ByteArray → Int
  | a :: _, b :: _ => cT a b
  | _, _ => 0
mutual
/-- Two values compared. -/
def cV : V → V → Int
  | ⟨k, n, s, l, ks⟩, ⟨k', n', s', l', ks'⟩ => if cI k k' = 0 then if cI n n' = 0 then if cT s s' = 0 then cE ks ks' l l' else cT s s' else cI n n' else cI k k'
def cE : List ByteArray → List ByteArray → List V → List V → Int
  | _, _, [], [] => 0
  | _, _, [], _ :: _ => -1
  | _, _, _ :: _, [] => 1
  | ks, ks', a :: s, b :: t => if cH ks ks' = 0 then if cV a b = 0 then cE ks.tail ks'.tail s t else cV a b else cH ks ks'
end
theorem cV_eq (k n : Int) (s : ByteArray) (l : List V) (ks : List ByteArray) (k' n' : Int) (s' : ByteArray) (l' : List V) (ks' : List ByteArray) :
    cV ⟨k, n, s, l, ks⟩ ⟨k', n', s', l', ks'⟩ = if cI k k' = 0 then if cI n n' = 0 then if cT s s' = 0 then cE ks ks' l l' else cT s s' else cI n n' else cI k k' := by rw [cV]
theorem cE_cons (ks ks' : List ByteArray) (a b : V) (s t : List V) : cE ks ks' (a :: s) (b :: t) = if cH ks ks' = 0 then if cV a b = 0 then cE ks.tail ks'.tail s t else cV a b else cH ks ks' := by rw [cE]
theorem cE_nil (ks ks' : List ByteArray) : cE ks ks' [] [] = 0 := by rw [cE]
theorem cE_less (ks ks' : List ByteArray) (b : V) (t : List V) : cE ks ks' [] (b :: t) = -1 := by rw [cE]
theorem cE_more (ks ks' : List ByteArray) (a : V) (s : List V) : cE ks ks' (a :: s) [] = 1 := by rw [cE]
/-- Keys for each item (of a map), or none. -/
def Kd (m : Bool) (ks : List ByteArray) (l : List V) : Prop := if m then ks.length = l.length else ks = []
theorem Kd.tail {m : Bool} {ks : List ByteArray} {a : V} {l : List V} (h : Kd m ks (a :: l)) : Kd m ks.tail l := by
  unfold Kd at h ⊢
  cases m with
  | true =>
    simp only [if_true] at h ⊢
    rw [List.length_tail, h, List.length_cons]
    omega
  | false =>
    simp only [Bool.false_eq_true, if_false] at h ⊢
    rw [h]
    rfl
theorem Kd.nil {m : Bool} {ks : List ByteArray} (h : Kd m ks []) : ks = [] := by
  unfold Kd at h
  cases m with
  | true => exact List.eq_nil_of_length_eq_zero h
  | false => exact h
/-- The heads of two rows of keys, and the rows. -/
theorem Kd.head {m : Bool} {ks ks' : List ByteArray} {a b : V} {l l' : List V} (h : Kd m ks (a :: l)) (h' : Kd m ks' (b :: l')) : (cH ks ks' = 0 ∧ ks.tail = ks'.tail ↔ ks = ks') ∧ cH ks' ks = - cH ks ks' ∧ -1 ≤ cH ks ks' ∧ cH ks ks' ≤ 1 := by
  unfold Kd at h h'
  cases m with
  | false =>
    simp only [Bool.false_eq_true, if_false] at h h'
    rw [h, h']
    simp [cH]
  | true =>
    simp only [if_true] at h h'
    match ks, ks', h, h' with
    | x :: s, y :: t, _, _ =>
      have z := tot_cT.zero x y
      refine ⟨?_, tot_cT.anti x y, tot_cT.low x y⟩
      show cT x y = 0 ∧ s = t ↔ _
      rw [z, List.cons.injEq]
theorem Kd.head3 {m : Bool} {k1 k2 k3 : List ByteArray} {a b c : V} {l l' l'' : List V} (h : Kd m k1 (a :: l)) (h' : Kd m k2 (b :: l')) (h'' : Kd m k3 (c :: l'')) (g1 : cH k1 k2 ≤ 0) (g2 : cH k2 k3 ≤ 0) : cH k1 k3 ≤ 0 ∧ (cH k1 k3 = 0 → cH k1 k2 = 0 ∧ cH k2 k3 = 0) := by
  unfold Kd at h h' h''
  cases m with
  | false =>
    simp only [Bool.false_eq_true, if_false] at h h' h''
    rw [h, h', h'']
    simp [cH]
  | true =>
    simp only [if_true] at h h' h''
    match k1, k2, k3, h, h', h'' with
    | x :: s, y :: t, z :: u, _, _, _ =>
      have g3 := tot_cT.trans x y z g1 g2
      refine ⟨g3, fun e => ?_⟩
      have e' : cT x z = 0 := e
      have hxz := (tot_cT.zero x z).1 e'
      subst hxz
      have ha := tot_cT.anti x y
      have q1 : cT x y ≤ 0 := g1
      have q2 : cT y x ≤ 0 := g2
      show cT x y = 0 ∧ cT y x = 0
      omega
theorem shape_kd {k n : Int} {s : ByteArray} {l : List V} {ks : List ByteArray} (h : shape k n s l ks) : Kd (decide (k = 5)) ks l := by
  unfold Kd
  by_cases hk : k = 5
  · rw [decide_eq_true hk, if_pos rfl]
    exact h.2.1 hk
  · rw [decide_eq_false hk, if_neg (by decide)]
    exact h.2.2 hk
/-- Zero for the same alone; the sign turns; -1, 0 or 1. -/
theorem cV_two : (∀ a b : V, sane a → sane b → (cV a b = 0 ↔ a = b) ∧ cV b a = - cV a b ∧ -1 ≤ cV a b ∧ cV a b ≤ 1) ∧
    (∀ (a : List V) (b : List V) (m : Bool) (ks ks' : List ByteArray), saneL a → saneL b → Kd m ks a → Kd m ks' b → (cE ks ks' a b = 0 ↔ a = b ∧ ks = ks') ∧ cE ks' ks b a = - cE ks ks' a b ∧ -1 ≤ cE ks ks' a b ∧ cE ks ks' a b ≤ 1) := by
  refine V.both (P := fun a => ∀ b : V, sane a → sane b → (cV a b = 0 ↔ a = b) ∧ cV b a = - cV a b ∧ -1 ≤ cV a b ∧ cV a b ≤ 1)
    (Q := fun a => ∀ (b : List V) (m : Bool) (ks ks' : List ByteArray), saneL a → saneL b → Kd m ks a → Kd m ks' b → (cE ks ks' a b = 0 ↔ a = b ∧ ks = ks') ∧ cE ks' ks b a = - cE ks ks' a b ∧ -1 ≤ cE ks ks' a b ∧ cE ks ks' a b ≤ 1) ?_ ?_ ?_
  · intro k n s l ks ih b ha hb
    obtain ⟨k1, n1, s1, l1, ks1⟩ := b
    rw [sane_iff] at ha hb
    rw [cV_eq, cV_eq]
    have zk := tot_cI.zero k k1
    have zn := tot_cI.zero n n1
    have zs := tot_cT.zero s s1
    have ak := tot_cI.anti k k1
    have an := tot_cI.anti n n1
    have as' := tot_cT.anti s s1
    have lk := tot_cI.low k k1
    have ln := tot_cI.low n n1
    have ls := tot_cT.low s s1
    rw [ak, an, as']
    by_cases hk : cI k k1 = 0
    · have ek := zk.1 hk
      subst ek
      obtain ⟨e1, e2, e3⟩ := ih l1 (decide (k = 5)) ks ks1 ha.2 hb.2 (shape_kd ha.1) (shape_kd hb.1)
      rw [if_pos hk, if_pos (show - cI k k = 0 by omega)]
      by_cases hn : cI n n1 = 0
      · have en := zn.1 hn
        subst en
        rw [if_pos hn, if_pos (show - cI n n = 0 by omega)]
        by_cases hs : cT s s1 = 0
        · have es := zs.1 hs
          subst es
          rw [if_pos hs, if_pos (show - cT s s = 0 by omega)]
          refine ⟨?_, e2, e3⟩
          rw [e1]
          constructor
          · rintro ⟨h1, h2⟩; rw [h1, h2]
          · intro h; injection h with _ _ _ h1 h2; exact ⟨h1, h2⟩
        · rw [if_neg hs, if_neg (show ¬ - cT s s1 = 0 by omega)]
          exact ⟨⟨fun h => absurd h hs, fun h => by injection h with _ _ h1; exact absurd (zs.2 h1) hs⟩, rfl, ls⟩
      · rw [if_neg hn, if_neg (show ¬ - cI n n1 = 0 by omega)]
        exact ⟨⟨fun h => absurd h hn, fun h => by injection h with _ h1; exact absurd (zn.2 h1) hn⟩, rfl, ln⟩
    · rw [if_neg hk, if_neg (show ¬ - cI k k1 = 0 by omega)]
      exact ⟨⟨fun h => absurd h hk, fun h => by injection h with h1; exact absurd (zk.2 h1) hk⟩, rfl, lk⟩
  · intro b m ks ks' _ _ h h'
    cases b with
    | nil =>
      rw [cE_nil, cE_nil, h.nil, h'.nil]
      exact ⟨⟨fun _ => ⟨rfl, rfl⟩, fun _ => rfl⟩, by decide, by decide, by decide⟩
    | cons y u =>
      rw [cE_less, cE_more]
      exact ⟨⟨(fun h => by cases h), (fun h => by cases h.1)⟩, by decide, by decide, by decide⟩
  · intro v t h1 h2 b m ks ks' ha hb h h'
    cases b with
    | nil =>
      rw [cE_less, cE_more]
      exact ⟨⟨(fun h => by cases h), (fun h => by cases h.1)⟩, by decide, by decide, by decide⟩
    | cons y u =>
      rw [saneL_cons] at ha hb
      rw [cE_cons, cE_cons]
      obtain ⟨a1, a2, a3⟩ := Kd.head h h'
      obtain ⟨b1, b2, b3⟩ := h1 y ha.1 hb.1
      obtain ⟨c1, c2, c3⟩ := h2 u m ks.tail ks'.tail ha.2 hb.2 h.tail h'.tail
      rw [a2, b2, c2]
      by_cases hk : cH ks ks' = 0
      · rw [if_pos hk, if_pos (show - cH ks ks' = 0 by omega)]
        by_cases hv : cV v y = 0
        · rw [if_pos hv, if_pos (show - cV v y = 0 by omega)]
          refine ⟨?_, rfl, c3⟩
          rw [c1, List.cons.injEq, ← a1, b1.1 hv]
          constructor
          · rintro ⟨g1, g2⟩; exact ⟨⟨rfl, g1⟩, hk, g2⟩
          · rintro ⟨⟨_, g1⟩, _, g2⟩; exact ⟨g1, g2⟩
        · rw [if_neg hv, if_neg (show ¬ - cV v y = 0 by omega)]
          exact ⟨⟨fun h => absurd h hv, fun h => by have := (List.cons.inj h.1).1; exact absurd (b1.2 this) hv⟩, rfl, b3⟩
      · rw [if_neg hk, if_neg (show ¬ - cH ks ks' = 0 by omega)]
        exact ⟨⟨fun h => absurd h hk, fun h => absurd (a1.2 h.2).1 hk⟩, rfl, a3⟩
theorem cV_three : (∀ a b c : V, sane a → sane b → sane c → cV a b ≤ 0 → cV b c ≤ 0 → cV a c ≤ 0) ∧
    (∀ (a : List V) (b c : List V) (m : Bool) (k1 k2 k3 : List ByteArray), saneL a → saneL b → saneL c → Kd m k1 a → Kd m k2 b → Kd m k3 c → cE k1 k2 a b ≤ 0 → cE k2 k3 b c ≤ 0 → cE k1 k3 a c ≤ 0) := by
  refine V.both (P := fun a => ∀ b c : V, sane a → sane b → sane c → cV a b ≤ 0 → cV b c ≤ 0 → cV a c ≤ 0)
    (Q := fun a => ∀ (b c : List V) (m : Bool) (k1 k2 k3 : List ByteArray), saneL a → saneL b → saneL c → Kd m k1 a → Kd m k2 b → Kd m k3 c → cE k1 k2 a b ≤ 0 → cE k2 k3 b c ≤ 0 → cE k1 k3 a c ≤ 0) ?_ ?_ ?_
  · intro k n s l ks ih b c ha hb hc
    obtain ⟨k1, n1, s1, l1, ks1⟩ := b
    obtain ⟨k2, n2, s2, l2, ks2⟩ := c
    rw [sane_iff] at ha hb hc
    rw [cV_eq, cV_eq, cV_eq]
    have tk := tot_cI.trans k k1 k2
    have tn := tot_cI.trans n n1 n2
    have ts := tot_cT.trans s s1 s2
    have zk := tot_cI.zero
    have zs := tot_cT.zero
    have pk := @Tot.less _ _ tot_cI k k1 k2
    have pn := @Tot.less _ _ tot_cI n n1 n2
    have ps := @Tot.less _ _ tot_cT s s1 s2
    have key : k = k1 → k1 = k2 → cE ks ks1 l l1 ≤ 0 → cE ks1 ks2 l1 l2 ≤ 0 → cE ks ks2 l l2 ≤ 0 := fun e1 e2 => by
      subst e1
      subst e2
      exact ih l1 l2 (decide (k = 5)) ks ks1 ks2 ha.2 hb.2 hc.2 (shape_kd ha.1) (shape_kd hb.1) (shape_kd hc.1)
    intro h g
    by_cases hk1 : cI k k1 = 0
    · have ek1 := (zk _ _).1 hk1
      rw [if_pos hk1] at h
      by_cases hk2 : cI k1 k2 = 0
      · have ek2 := (zk _ _).1 hk2
        rw [if_pos hk2] at g
        rw [if_pos (show cI k k2 = 0 from (zk _ _).2 (ek1.trans ek2))]
        by_cases hn1 : cI n n1 = 0
        · have en1 := (zk _ _).1 hn1
          rw [if_pos hn1] at h
          by_cases hn2 : cI n1 n2 = 0
          · have en2 := (zk _ _).1 hn2
            rw [if_pos hn2] at g
            rw [if_pos (show cI n n2 = 0 from (zk _ _).2 (en1.trans en2))]
            by_cases hs1 : cT s s1 = 0
            · have es1 := (zs _ _).1 hs1
              rw [if_pos hs1] at h
              by_cases hs2 : cT s1 s2 = 0
              · have es2 := (zs _ _).1 hs2
                rw [if_pos hs2] at g
                rw [if_pos (show cT s s2 = 0 from (zs _ _).2 (es1.trans es2))]
                exact key ek1 ek2 h g
              · rw [if_neg hs2] at g
                rw [es1, if_neg hs2]
                exact g
            · rw [if_neg hs1] at h
              by_cases hs2 : cT s1 s2 = 0
              · have es2 := (zs _ _).1 hs2
                rw [← es2, if_neg hs1]
                exact h
              · rw [if_neg hs2] at g
                have := ps (by omega) (by omega)
                rw [if_neg (by omega)]
                omega
          · rw [if_neg hn2] at g
            rw [en1, if_neg hn2]
            exact g
        · rw [if_neg hn1] at h
          by_cases hn2 : cI n1 n2 = 0
          · have en2 := (zk _ _).1 hn2
            rw [← en2, if_neg hn1]
            exact h
          · rw [if_neg hn2] at g
            have := pn (by omega) (by omega)
            rw [if_neg (by omega)]
            omega
      · rw [if_neg hk2] at g
        rw [ek1, if_neg hk2]
        exact g
    · rw [if_neg hk1] at h
      by_cases hk2 : cI k1 k2 = 0
      · have ek2 := (zk _ _).1 hk2
        rw [← ek2, if_neg hk1]
        exact h
      · rw [if_neg hk2] at g
        have := pk (by omega) (by omega)
        rw [if_neg (by omega)]
        omega
  · intro b c m k1 k2 k3 _ _ _ _ _ _ h g
    cases c with
    | nil => rw [cE_nil]; exact Int.le_refl 0
    | cons z w => rw [cE_less]; decide
  · intro v t h1 h2 b c m k1 k2 k3 ha hb hc g1 g2 g3 h g
    cases b with
    | nil => rw [cE_more] at h; exact absurd h (by decide)
    | cons y u =>
      cases c with
      | nil => rw [cE_more] at g; exact absurd g (by decide)
      | cons z w =>
        rw [saneL_cons] at ha hb hc
        rw [cE_cons] at h g ⊢
        obtain ⟨_, q1, q2⟩ := Kd.head g1 g2
        obtain ⟨_, q3, q4⟩ := Kd.head g2 g3
        have e1 := cV_two.1 v y ha.1 hb.1
        have e2 := cV_two.1 y z hb.1 hc.1
        have e3 := cV_two.1 v z ha.1 hc.1
        have hh : cH k1 k2 ≤ 0 := by
          by_cases x : cH k1 k2 = 0
          · omega
          · rw [if_neg x] at h; exact h
        have gg : cH k2 k3 ≤ 0 := by
          by_cases x : cH k2 k3 = 0
          · omega
          · rw [if_neg x] at g; exact g
        obtain ⟨r1, r2⟩ := Kd.head3 g1 g2 g3 hh gg
        by_cases x : cH k1 k3 = 0
        · obtain ⟨x1, x2⟩ := r2 x
          rw [if_pos x1] at h
          rw [if_pos x2] at g
          rw [if_pos x]
          have hv : cV v y ≤ 0 := by
            by_cases x' : cV v y = 0
            · omega
            · rw [if_neg x'] at h; exact h
          have gv : cV y z ≤ 0 := by
            by_cases x' : cV y z = 0
            · omega
            · rw [if_neg x'] at g; exact g
          have hvz := h1 y z ha.1 hb.1 hc.1 hv gv
          by_cases xv : cV v z = 0
          · rw [if_pos xv]
            have evz := e3.1.1 xv
            subst evz
            have y1 : cV v y = 0 := by have := e1.2.1; omega
            have y2 : cV y v = 0 := by have := e1.2.1; omega
            rw [if_pos y1] at h
            rw [if_pos y2] at g
            exact h2 u w m k1.tail k2.tail k3.tail ha.2 hb.2 hc.2 g1.tail g2.tail g3.tail h g
          · rw [if_neg xv]
            exact hvz
        · rw [if_neg x]
          exact r1

end Go.Proofs.YtjmchjphdfbhiaaGreatDoor.val

namespace Go.Proofs.YtjmchjphdfbhiaaGreatDoor.val

/-! ### validity -/
/-- The error of a string in a value. -/
def textE (s : ByteArray) : Int := if 4096 < s.size then 3 else if Lib.validD s.data.toList = false then 1 else 0
/-- Whether a key may stand behind another one. -/
def fits (p : Option ByteArray) (a : ByteArray) : Bool :=
  match p with
  | none => true
  | some b => decide (cT b a < 0)
/-- The error of the keys behind a key. -/
def keysE : Option ByteArray → List ByteArray → Int
  | _, [] => 0
  | p, a :: t => if textE a = 0 then (if fits p a = true then keysE (some a) t else 1) else textE a
theorem keysE_cons (p : Option ByteArray) (a : ByteArray) (t : List ByteArray) : keysE p (a :: t) = if textE a = 0 then (if fits p a = true then keysE (some a) t else 1) else textE a := by cases p <;> rfl
def shB (k n : Int) (s : ByteArray) (l : List V) (ks : List ByteArray) : Bool :=
  decide (0 ≤ k) && decide (k ≤ 6) && (decide (n = 0) || decide (k = 2) || (decide (k = 1) && decide (n = 1))) && (decide (k = 3) || decide (s.size = 0)) && (decide (k = 4) || decide (k = 5) || decide (l.length = 0)) && (if k = 5 then decide (ks.length = l.length) else decide (ks.length = 0))
/-- The error of a node, without its items. -/
def nodeE (k n : Int) (s : ByteArray) (l : List V) (ks : List ByteArray) : Int :=
  if shB k n s l ks = false then 1 else if k = 2 ∧ ¬ (-9007199254740992 ≤ n ∧ n ≤ 9007199254740992) then 5 else if textE s = 0 then keysE none ks else textE s
mutual
/-- The first error in preorder at a level, and how many nodes were passed. -/
def chkV : V → Nat → Nat → Int × Nat
  | ⟨k, n, s, l, ks⟩, lv, bf => if 32 < lv then (4, bf) else if 4096 ≤ bf then (14, bf) else if nodeE k n s l ks = 0 then chkL l (lv + 1) (bf + 1) else (nodeE k n s l ks, bf)
def chkL : List V → Nat → Nat → Int × Nat
  | [], _, n => (0, n)
  | v :: t, lv, n => if (chkV v lv n).1 = 0 then chkL t lv (chkV v lv n).2 else chkV v lv n
end
theorem chkV_eq (k n : Int) (s : ByteArray) (l : List V) (ks : List ByteArray) (lv bf : Nat) : chkV ⟨k, n, s, l, ks⟩ lv bf = if 32 < lv then (4, bf) else if 4096 ≤ bf then (14, bf) else if nodeE k n s l ks = 0 then chkL l (lv + 1) (bf + 1) else (nodeE k n s l ks, bf) := by rw [chkV]
theorem chkL_cons (v : V) (t : List V) (lv n : Nat) : chkL (v :: t) lv n = if (chkV v lv n).1 = 0 then chkL t lv (chkV v lv n).2 else chkV v lv n := by rw [chkL]
theorem chkL_nil (lv n : Nat) : chkL [] lv n = (0, n) := by rw [chkL]
/-- The error of Check. -/
def chkE (v : V) : Int := (chkV v 1 0).1
theorem shB_iff {k n : Int} {s : ByteArray} {l : List V} {ks : List ByteArray} (h : shB k n s l ks = true) : shape k n s l ks ∧ 0 ≤ k ∧ k ≤ 6 ∧ (k ≠ 4 → k ≠ 5 → l = []) ∧ (k ≠ 3 → s = ⟨#[]⟩) ∧ (n = 0 ∨ k = 2 ∨ (k = 1 ∧ n = 1)) := by
  unfold shB at h
  simp only [Bool.and_eq_true, Bool.or_eq_true, decide_eq_true_eq] at h
  obtain ⟨⟨⟨⟨⟨h1, h2⟩, h3⟩, h4⟩, h5⟩, h6⟩ := h
  have hs : ∀ x : ByteArray, x.size = 0 → x = ⟨#[]⟩ := fun x hx => bax (List.eq_nil_of_length_eq_zero (by simpa using hx))
  have hn : n = 0 ∨ k = 2 ∨ (k = 1 ∧ n = 1) := by
    rcases h3 with (h | h) | h
    · exact .inl h
    · exact .inr (.inl h)
    · exact .inr (.inr h)
  refine ⟨⟨fun hk => ⟨by omega, ?_, ?_, ?_⟩, fun hk => ?_, fun hk => ?_⟩, h1, h2, fun a b => ?_, fun a => ?_, hn⟩
  · rcases h4 with h | h
    · omega
    · exact hs s h
  · rcases h5 with (h | h) | h
    · omega
    · omega
    · exact List.eq_nil_of_length_eq_zero h
  · rw [if_neg (by omega), decide_eq_true_eq] at h6
    exact List.eq_nil_of_length_eq_zero h6
  · rw [if_pos hk, decide_eq_true_eq] at h6
    exact h6
  · rw [if_neg hk, decide_eq_true_eq] at h6
    exact List.eq_nil_of_length_eq_zero h6
  · rcases h5 with (h | h) | h
    · exact absurd h a
    · exact absurd h b
    · exact List.eq_nil_of_length_eq_zero h
  · rcases h4 with h | h
    · exact absurd h a
    · exact hs s h
theorem nodeE_zero {k n : Int} {s : ByteArray} {l : List V} {ks : List ByteArray} (h : nodeE k n s l ks = 0) : shB k n s l ks = true ∧ (k = 2 → -9007199254740992 ≤ n ∧ n ≤ 9007199254740992) ∧ textE s = 0 ∧ keysE none ks = 0 := by
  unfold nodeE at h
  split at h
  · cases h
  rename_i h1
  split at h
  · cases h
  rename_i h2
  split at h
  · rename_i h3
    exact ⟨by rwa [Bool.not_eq_false] at h1, fun hk => Decidable.byContradiction (fun hn => h2 ⟨hk, hn⟩), h3, h⟩
  · rename_i h3
    exact absurd h h3
/-- What is checked is sane, of few nodes and levels. -/
theorem chk_sane : (∀ (v : V) (lv bf : Nat), (chkV v lv bf).1 = 0 → sane v ∧ (chkV v lv bf).2 = bf + nodes v ∧ bf + nodes v ≤ 4096 ∧ lv + depth v ≤ 33) ∧
    (∀ (l : List V) (lv bf : Nat), bf ≤ 4096 → lv ≤ 33 → (chkL l lv bf).1 = 0 → saneL l ∧ (chkL l lv bf).2 = bf + nodesL l ∧ bf + nodesL l ≤ 4096 ∧ lv + depthL l ≤ 33) := by
  refine V.both (P := fun v => ∀ (lv bf : Nat), (chkV v lv bf).1 = 0 → sane v ∧ (chkV v lv bf).2 = bf + nodes v ∧ bf + nodes v ≤ 4096 ∧ lv + depth v ≤ 33)
    (Q := fun l => ∀ (lv bf : Nat), bf ≤ 4096 → lv ≤ 33 → (chkL l lv bf).1 = 0 → saneL l ∧ (chkL l lv bf).2 = bf + nodesL l ∧ bf + nodesL l ≤ 4096 ∧ lv + depthL l ≤ 33) ?_ ?_ ?_
  · intro k n s l ks ih lv bf h
    rw [chkV_eq] at h ⊢
    by_cases h1 : 32 < lv
    · rw [if_pos h1] at h; cases h
    rw [if_neg h1] at h ⊢
    by_cases h2 : 4096 ≤ bf
    · rw [if_pos h2] at h; cases h
    rw [if_neg h2] at h ⊢
    by_cases h3 : nodeE k n s l ks = 0
    · rw [if_pos h3] at h ⊢
      obtain ⟨g1, g2, g3, g4⟩ := ih (lv + 1) (bf + 1) (by omega) (by omega) h
      rw [sane_iff, nodes, depth]
      exact ⟨⟨(shB_iff (nodeE_zero h3).1).1, g1⟩, by omega, by omega, by omega⟩
    · rw [if_neg h3] at h
      exact absurd h h3
  · intro lv bf h1 h2 _
    rw [chkL_nil, saneL, nodesL, depthL]
    exact ⟨trivial, rfl, h1, h2⟩
  · intro v t h1 h2 lv bf hb hl h
    rw [chkL_cons] at h ⊢
    by_cases hv : (chkV v lv bf).1 = 0
    · rw [if_pos hv] at h ⊢
      obtain ⟨g1, g2, g3, g4⟩ := h1 lv bf hv
      rw [g2] at h ⊢
      obtain ⟨k1, k2, k3, k4⟩ := h2 lv (bf + nodes v) g3 hl h
      rw [saneL_cons, nodesL, depthL]
      exact ⟨⟨g1, k1⟩, by omega, by omega, by omega⟩
    · rw [if_neg hv] at h
      exact absurd h hv
theorem valid_sane {v : V} (h : chkE v = 0) : sane v ∧ nodes v ≤ 4096 ∧ depth v ≤ 32 := by
  obtain ⟨h1, _, h3, h4⟩ := chk_sane.1 v 1 0 h
  exact ⟨h1, by omega, by omega⟩
/-- The keys of a valid map are in order. -/
theorem keysE_asc : ∀ (ks : List ByteArray) (p : Option ByteArray), keysE p ks = 0 → ks.Pairwise (fun a b => cT a b < 0) ∧ (∀ b, p = some b → ∀ a ∈ ks, cT b a < 0) ∧ ∀ a ∈ ks, textE a = 0
  | [], p, _ => ⟨List.Pairwise.nil, (fun _ _ a h => by cases h), (fun a h => by cases h)⟩
  | a :: t, p, h => by
    rw [keysE_cons] at h
    by_cases h1 : textE a = 0
    · rw [if_pos h1] at h
      by_cases h2 : fits p a = true
      · rw [if_pos h2] at h
        obtain ⟨g1, g2, g3⟩ := keysE_asc t (some a) h
        refine ⟨List.pairwise_cons.2 ⟨g2 a rfl, g1⟩, fun b hb x hx => ?_, fun x hx => ?_⟩
        · subst hb
          have hba : cT b a < 0 := of_decide_eq_true h2
          rcases List.mem_cons.1 hx with rfl | hx
          · exact hba
          · exact tot_cT.less hba (g2 a rfl x hx)
        · rcases List.mem_cons.1 hx with rfl | hx
          · exact h1
          · exact g3 x hx
      · rw [if_neg h2] at h; cases h
    · rw [if_neg h1] at h
      exact absurd h h1

end Go.Proofs.YtjmchjphdfbhiaaGreatDoor.val

namespace Go.Proofs.YtjmchjphdfbhiaaGreatDoor.val

/-! ### maps -/
/-- Strictly ascending keys. -/
def asc (m : List (ByteArray × V)) : Prop := m.Pairwise (fun a b => cT a.1 b.1 < 0)
def getP : List (ByteArray × V) → ByteArray → Option V
  | [], _ => none
  | (a, v) :: t, k => if cT a k = 0 then some v else getP t k
def putP : List (ByteArray × V) → ByteArray → V → List (ByteArray × V)
  | [], k, x => [(k, x)]
  | (a, v) :: t, k, x => if cT a k < 0 then (a, v) :: putP t k x else if cT a k = 0 then (k, x) :: t else (k, x) :: (a, v) :: t
theorem get_put_same (k : ByteArray) (x : V) : ∀ m : List (ByteArray × V), getP (putP m k x) k = some x
  | [] => by rw [putP, getP, if_pos ((tot_cT.zero k k).2 rfl)]
  | (a, v) :: t => by
    have hk := (tot_cT.zero k k).2 rfl
    rw [putP]
    split
    · rename_i h
      rw [getP, if_neg (by omega)]
      exact get_put_same k x t
    split
    · rw [getP, if_pos hk]
    · rw [getP, if_pos hk]
theorem get_put_other (k o : ByteArray) (x : V) (ho : o ≠ k) : ∀ m : List (ByteArray × V), getP (putP m k x) o = getP m o
  | [] => by
    have : ¬ cT k o = 0 := fun h => ho ((tot_cT.zero _ _).1 h).symm
    show (if cT k o = 0 then some x else none) = none
    rw [if_neg this]
  | (a, v) :: t => by
    have hk : ¬ cT k o = 0 := fun h => ho ((tot_cT.zero _ _).1 h).symm
    rw [putP]
    split
    · rw [getP, getP, get_put_other k o x ho t]
    split
    · rename_i h1 h2
      have e := (tot_cT.zero _ _).1 h2
      subst e
      rw [getP, getP, if_neg hk, if_neg hk]
    · rw [getP, if_neg hk]
theorem asc_cons (a : ByteArray × V) (t : List (ByteArray × V)) : asc (a :: t) ↔ (∀ b ∈ t, cT a.1 b.1 < 0) ∧ asc t := by unfold asc; rw [List.pairwise_cons]
theorem put_mem (k : ByteArray) (x : V) : ∀ (m : List (ByteArray × V)) (b : ByteArray × V), b ∈ putP m k x → b = (k, x) ∨ b ∈ m
  | [], b, h => by rw [putP, List.mem_singleton] at h; exact .inl h
  | (a, v) :: t, b, h => by
    rw [putP] at h
    split at h
    · rcases List.mem_cons.1 h with h | h
      · exact .inr (h ▸ List.mem_cons_self)
      · rcases put_mem k x t b h with h | h
        · exact .inl h
        · exact .inr (List.mem_cons_of_mem _ h)
    split at h
    · rcases List.mem_cons.1 h with h | h
      · exact .inl h
      · exact .inr (List.mem_cons_of_mem _ h)
    · rcases List.mem_cons.1 h with h | h
      · exact .inl h
      · exact .inr h
theorem put_asc (k : ByteArray) (x : V) : ∀ m : List (ByteArray × V), asc m → asc (putP m k x)
  | [], _ => by rw [putP]; exact List.pairwise_singleton _ _
  | (a, v) :: t, h => by
    obtain ⟨h1, h2⟩ := (asc_cons _ _).1 h
    have ha := tot_cT.anti a k
    rw [putP]
    split
    · rename_i hl
      refine (asc_cons _ _).2 ⟨fun b hb => ?_, put_asc k x t h2⟩
      rcases put_mem k x t b hb with rfl | hb
      · exact hl
      · exact h1 b hb
    split
    · rename_i _ h0
      have e := (tot_cT.zero _ _).1 h0
      subst e
      exact (asc_cons _ _).2 ⟨h1, h2⟩
    · refine (asc_cons _ _).2 ⟨fun b hb => ?_, h⟩
      rcases List.mem_cons.1 hb with rfl | hb
      · show cT k a < 0
        omega
      · exact tot_cT.less (show cT k a < 0 by omega) (h1 b hb)
theorem get_none (k : ByteArray) : ∀ m : List (ByteArray × V), (∀ b ∈ m, cT b.1 k ≠ 0) → getP m k = none
  | [], _ => rfl
  | (a, v) :: t, h => by
    rw [getP, if_neg (h (a, v) List.mem_cons_self)]
    exact get_none k t (fun b hb => h b (List.mem_cons_of_mem _ hb))
theorem put_len (k : ByteArray) (x : V) : ∀ m : List (ByteArray × V), asc m → (putP m k x).length = m.length + (if (getP m k).isSome then 0 else 1)
  | [], _ => rfl
  | (a, v) :: t, h => by
    obtain ⟨h1, h2⟩ := (asc_cons _ _).1 h
    have ha := tot_cT.anti a k
    rw [putP, getP]
    by_cases hl : cT a k < 0
    · rw [if_pos hl, if_neg (show ¬ cT a k = 0 by omega), List.length_cons, put_len k x t h2, List.length_cons]
      omega
    rw [if_neg hl]
    by_cases h0 : cT a k = 0
    · rw [if_pos h0, if_pos h0]
      rfl
    · rw [if_neg h0, if_neg h0]
      have hn : getP t k = none := get_none k t (fun b hb e => by
        have g1 := h1 b hb
        have e' := (tot_cT.zero _ _).1 e
        rw [e'] at g1
        exact hl g1)
      rw [hn]
      rfl
/-- An ascending row is known by its members. -/
theorem asc_perm : ∀ (l m : List (ByteArray × V)), l.Perm m → asc l → asc m → l = m
  | [], m, h, _, _ => (List.nil_perm.1 h).symm
  | a :: s, [], h, _, _ => by exact absurd h.symm (by simp)
  | a :: s, b :: t, h, hl, hm => by
    obtain ⟨l1, l2⟩ := (asc_cons _ _).1 hl
    obtain ⟨m1, m2⟩ := (asc_cons _ _).1 hm
    have hab : a = b := by
      rcases List.mem_cons.1 (h.mem_iff.1 (List.mem_cons_self : a ∈ a :: s)) with e | e
      · exact e
      · rcases List.mem_cons.1 (h.mem_iff.2 (List.mem_cons_self : b ∈ b :: t)) with e' | e'
        · exact e'.symm
        · have g1 := l1 b e'
          have g2 := m1 a e
          have g3 := tot_cT.anti a.1 b.1
          omega
    subst hab
    rw [asc_perm s t ((List.perm_cons a).1 h) l2 m2]
theorem put_perm (k : ByteArray) (x : V) : ∀ m : List (ByteArray × V), getP m k = none → (putP m k x).Perm ((k, x) :: m)
  | [], _ => by rw [putP]
  | (a, v) :: t, h => by
    rw [getP] at h
    split at h
    · cases h
    · rename_i h0
      rw [putP]
      split
      · exact ((put_perm k x t h).cons (a, v)).trans (List.Perm.swap _ _ _)
      · exact List.Perm.refl _
theorem mem_get (k : ByteArray) : ∀ m : List (ByteArray × V), getP m k = none ↔ ∀ b ∈ m, b.1 ≠ k
  | [] => by simp [getP]
  | (a, v) :: t => by
    rw [getP]
    have ih := mem_get k t
    have z := tot_cT.zero a k
    split
    · rename_i h
      simp only [List.mem_cons, forall_eq_or_imp]
      exact ⟨(fun h => by cases h), fun g => absurd (z.1 h) g.1⟩
    · rename_i h
      rw [ih]
      simp only [List.mem_cons, forall_eq_or_imp]
      exact ⟨fun g => ⟨fun e => h (z.2 e), g⟩, fun g => g.2⟩
/-- The map of pairs, or none if two keys are equal. -/
def mapP : List (ByteArray × V) → List (ByteArray × V) → Option (List (ByteArray × V))
  | m, [] => some m
  | m, (k, x) :: t => if (getP m k).isSome then none else mapP (putP m k x) t
theorem map_says : ∀ (l m : List (ByteArray × V)), asc m → (match mapP m l with | some r => asc r ∧ r.Perm (m ++ l) | none => ¬ ((m ++ l).map (fun b => b.1)).Nodup)
  | [], m, h => by rw [mapP]; exact ⟨h, by rw [List.append_nil]⟩
  | (k, x) :: t, m, h => by
    rw [mapP]
    cases hg : getP m k with
    | some v =>
      rw [if_pos (by rfl)]
      intro hn
      have hne : ¬ getP m k = none := by rw [hg]; simp
      rw [mem_get] at hne
      apply hne
      intro b hb e
      rw [List.map_append, List.nodup_append] at hn
      exact hn.2.2 b.1 (List.mem_map_of_mem hb) k (by simp) e
    | none =>
      rw [if_neg (by simp)]
      have ih := map_says t (putP m k x) (put_asc k x m h)
      have hp := put_perm k x m hg
      have hq : (putP m k x ++ t).Perm (m ++ (k, x) :: t) := (hp.append_right t).trans (List.perm_middle.symm)
      cases hm : mapP (putP m k x) t with
      | some r =>
        rw [hm] at ih
        exact ⟨ih.1, ih.2.trans hq⟩
      | none =>
        rw [hm] at ih
        intro hn
        exact ih (((hq.map (fun b => b.1)).nodup_iff).2 hn)
theorem asc_nodup : ∀ l : List (ByteArray × V), asc l → (l.map (fun b => b.1)).Nodup
  | [], _ => List.nodup_nil
  | a :: t, h => by
    obtain ⟨h1, h2⟩ := (asc_cons _ _).1 h
    rw [List.map_cons, List.nodup_cons]
    refine ⟨fun hm => ?_, asc_nodup t h2⟩
    obtain ⟨b, hb, e⟩ := List.mem_map.1 hm
    have := h1 b hb
    rw [e, (tot_cT.zero a.1 a.1).2 rfl] at this
    exact absurd this (by decide)
/-- A row in order that has the same members is the map of the pairs. -/
theorem map_of (l r : List (ByteArray × V)) (h1 : asc r) (h2 : r.Perm l) : mapP [] l = some r := by
  have h := map_says l [] (List.Pairwise.nil)
  cases hm : mapP [] l with
  | some r' =>
    rw [hm] at h
    rw [asc_perm r' r (h.2.trans h2.symm) h.1 h1]
  | none =>
    rw [hm] at h
    exact absurd (((h2.map (fun b => b.1)).nodup_iff).1 (asc_nodup r h1)) h
theorem map_none (l : List (ByteArray × V)) (h : ¬ (l.map (fun b => b.1)).Nodup) : mapP [] l = none := by
  have g := map_says l [] (List.Pairwise.nil)
  cases hm : mapP [] l with
  | none => rfl
  | some r =>
    rw [hm] at g
    exact absurd (((g.2.map (fun b => b.1)).nodup_iff).1 (asc_nodup r g.1)) h

end Go.Proofs.YtjmchjphdfbhiaaGreatDoor.val

namespace Go.Proofs.YtjmchjphdfbhiaaGreatDoor.val
/-! ### one value -/
/-- The visit by a stack: the rows that are left, the innermost first. -/
def visG {S : Type} (step : S → V → Nat → S × Bool) : Nat → S → List (List V) → S
  | 0, s, _ => s
  | _ + 1, s, [] => s
  | n + 1, s, [] :: r => visG step n s r
  | n + 1, s, (v :: xs) :: r => if (step s v (r.length + 1)).2 = true then visG step n (step s v (r.length + 1)).1 (v.items :: xs :: r) else (step s v (r.length + 1)).1
mutual
def foldV {S : Type} (step : S → V → Nat → S × Bool) : V → S → Nat → S × Bool
  | ⟨k, n, s, l, ks⟩, st, lv => if (step st ⟨k, n, s, l, ks⟩ lv).2 = true then foldL step l (step st ⟨k, n, s, l, ks⟩ lv).1 (lv + 1) else ((step st ⟨k, n, s, l, ks⟩ lv).1, false)
def foldL {S : Type} (step : S → V → Nat → S × Bool) : List V → S → Nat → S × Bool
  | [], st, _ => (st, true)
  | v :: t, st, lv => if (foldV step v st lv).2 = true then foldL step t (foldV step v st lv).1 lv else foldV step v st lv
end
theorem foldV_eq {S : Type} (step : S → V → Nat → S × Bool) (k n : Int) (s : ByteArray) (l : List V) (ks : List ByteArray) (st : S) (lv : Nat) :
    foldV step ⟨k, n, s, l, ks⟩ st lv = if (step st ⟨k, n, s, l, ks⟩ lv).2 = true then foldL step l (step st ⟨k, n, s, l, ks⟩ lv).1 (lv + 1) else ((step st ⟨k, n, s, l, ks⟩ lv).1, false) := by rw [foldV]
theorem foldL_nil {S : Type} (step : S → V → Nat → S × Bool) (st : S) (lv : Nat) : foldL step [] st lv = (st, true) := by rw [foldL]
theorem foldL_cons {S : Type} (step : S → V → Nat → S × Bool) (v : V) (t : List V) (st : S) (lv : Nat) : foldL step (v :: t) st lv = if (foldV step v st lv).2 = true then foldL step t (foldV step v st lv).1 lv else foldV step v st lv := by rw [foldL]
theorem visG_pop {S : Type} (step : S → V → Nat → S × Bool) (n : Nat) (s : S) (r : List (List V)) : visG step (n + 1) s ([] :: r) = visG step n s r := by rw [visG]
theorem visG_go {S : Type} (step : S → V → Nat → S × Bool) (n : Nat) (s : S) (v : V) (xs : List V) (r : List (List V)) : visG step (n + 1) s ((v :: xs) :: r) = if (step s v (r.length + 1)).2 = true then visG step n (step s v (r.length + 1)).1 (v.items :: xs :: r) else (step s v (r.length + 1)).1 := by rw [visG]
theorem visG_none {S : Type} (step : S → V → Nat → S × Bool) (n : Nat) (s : S) : visG step n s [] = s := by cases n <;> rw [visG]
theorem vis_both {S : Type} (step : S → V → Nat → S × Bool) :
    (∀ (v : V) (st : S) (xs : List V) (r : List (List V)) (fuel : Nat), 2 * nodes v ≤ fuel → visG step fuel st ((v :: xs) :: r) = if (foldV step v st (r.length + 1)).2 = true then visG step (fuel - 2 * nodes v) (foldV step v st (r.length + 1)).1 (xs :: r) else (foldV step v st (r.length + 1)).1) ∧
    (∀ (l : List V) (st : S) (xs : List V) (r : List (List V)) (fuel : Nat), 2 * nodesL l ≤ fuel → visG step fuel st ((l ++ xs) :: r) = if (foldL step l st (r.length + 1)).2 = true then visG step (fuel - 2 * nodesL l) (foldL step l st (r.length + 1)).1 (xs :: r) else (foldL step l st (r.length + 1)).1) := by
  refine V.both (P := fun v => ∀ (st : S) (xs : List V) (r : List (List V)) (fuel : Nat), 2 * nodes v ≤ fuel → visG step fuel st ((v :: xs) :: r) = if (foldV step v st (r.length + 1)).2 = true then visG step (fuel - 2 * nodes v) (foldV step v st (r.length + 1)).1 (xs :: r) else (foldV step v st (r.length + 1)).1)
    (Q := fun l => ∀ (st : S) (xs : List V) (r : List (List V)) (fuel : Nat), 2 * nodesL l ≤ fuel → visG step fuel st ((l ++ xs) :: r) = if (foldL step l st (r.length + 1)).2 = true then visG step (fuel - 2 * nodesL l) (foldL step l st (r.length + 1)).1 (xs :: r) else (foldL step l st (r.length + 1)).1) ?_ ?_ ?_
  · intro k n s l ks ih st xs r fuel hf
    rw [nodes] at hf ⊢
    obtain ⟨f, rfl⟩ : ∃ f, fuel = f + 1 := ⟨fuel - 1, by omega⟩
    rw [visG_go, foldV_eq]
    by_cases h : (step st ⟨k, n, s, l, ks⟩ (r.length + 1)).2 = true
    · rw [if_pos h, if_pos h]
      have := ih (step st ⟨k, n, s, l, ks⟩ (r.length + 1)).1 [] (xs :: r) f (by omega)
      rw [List.append_nil, List.length_cons] at this
      show visG step f _ (l :: xs :: r) = _
      rw [this]
      by_cases h2 : (foldL step l (step st ⟨k, n, s, l, ks⟩ (r.length + 1)).1 (r.length + 1 + 1)).2 = true
      · rw [if_pos h2, if_pos h2]
        obtain ⟨g, hg⟩ : ∃ g, f - 2 * nodesL l = g + 1 := ⟨f - 2 * nodesL l - 1, by omega⟩
        rw [hg, visG_pop, show f + 1 - 2 * (1 + nodesL l) = g by omega]
      · rw [if_neg h2, if_neg h2]
    · rw [if_neg h, if_neg h, if_neg (by simp)]
  · intro st xs r fuel _
    rw [foldL_nil, if_pos rfl, nodesL]
    rfl
  · intro v t h1 h2 st xs r fuel hf
    rw [nodesL] at hf ⊢
    rw [List.cons_append, h1 st (t ++ xs) r fuel (by omega), foldL_cons]
    by_cases h : (foldV step v st (r.length + 1)).2 = true
    · rw [if_pos h, if_pos h, h2 _ xs r _ (by omega), show fuel - 2 * nodes v - 2 * nodesL t = fuel - 2 * (nodes v + nodesL t) by omega]
    · rw [if_neg h, if_neg h, if_neg h]
theorem vis_all {S : Type} (step : S → V → Nat → S × Bool) (v : V) (st : S) (fuel : Nat) (h : 2 * nodes v ≤ fuel) : visG step fuel st [[v]] = (foldV step v st 1).1 := by
  rw [(vis_both step).1 v st [] [] fuel h]
  show (if (foldV step v st 1).2 = true then visG step _ (foldV step v st 1).1 [[]] else _) = _
  have : ∀ n s, visG step n s [[]] = s := fun n s => by
    cases n with
    | zero => rw [visG]
    | succ n => rw [visG_pop, visG_none]
  rw [this]
  split <;> rfl
/-- Check's step: the error and the nodes before. -/
def stepC (st : Int × Nat) (v : V) (lv : Nat) : (Int × Nat) × Bool :=
  ((if 32 < lv then 4 else if st.2 = 4096 then 14 else nodeE v.kind v.num v.str v.items v.keys, st.2 + 1), decide ((if 32 < lv then 4 else if st.2 = 4096 then 14 else nodeE v.kind v.num v.str v.items v.keys) = 0))
theorem check_both : (∀ (v : V) (lv bf : Nat), bf ≤ 4096 → ((chkV v lv bf).1 = 0 → foldV stepC v (0, bf) lv = ((0, (chkV v lv bf).2), true) ∧ (chkV v lv bf).2 ≤ 4096) ∧ ((chkV v lv bf).1 ≠ 0 → (foldV stepC v (0, bf) lv).2 = false ∧ (foldV stepC v (0, bf) lv).1.1 = (chkV v lv bf).1)) ∧
    (∀ (l : List V) (lv bf : Nat), bf ≤ 4096 → ((chkL l lv bf).1 = 0 → foldL stepC l (0, bf) lv = ((0, (chkL l lv bf).2), true) ∧ (chkL l lv bf).2 ≤ 4096) ∧ ((chkL l lv bf).1 ≠ 0 → (foldL stepC l (0, bf) lv).2 = false ∧ (foldL stepC l (0, bf) lv).1.1 = (chkL l lv bf).1)) := by
  refine V.both (P := fun v => ∀ (lv bf : Nat), bf ≤ 4096 → ((chkV v lv bf).1 = 0 → foldV stepC v (0, bf) lv = ((0, (chkV v lv bf).2), true) ∧ (chkV v lv bf).2 ≤ 4096) ∧ ((chkV v lv bf).1 ≠ 0 → (foldV stepC v (0, bf) lv).2 = false ∧ (foldV stepC v (0, bf) lv).1.1 = (chkV v lv bf).1))
    (Q := fun l => ∀ (lv bf : Nat), bf ≤ 4096 → ((chkL l lv bf).1 = 0 → foldL stepC l (0, bf) lv = ((0, (chkL l lv bf).2), true) ∧ (chkL l lv bf).2 ≤ 4096) ∧ ((chkL l lv bf).1 ≠ 0 → (foldL stepC l (0, bf) lv).2 = false ∧ (foldL stepC l (0, bf) lv).1.1 = (chkL l lv bf).1)) ?_ ?_ ?_
  · intro k n s l ks ih lv bf hb
    rw [chkV_eq, foldV_eq]
    have e : stepC (0, bf) ⟨k, n, s, l, ks⟩ lv = ((if 32 < lv then 4 else if bf = 4096 then 14 else nodeE k n s l ks, bf + 1), decide ((if 32 < lv then 4 else if bf = 4096 then 14 else nodeE k n s l ks) = 0)) := rfl
    rw [e]
    by_cases h1 : 32 < lv
    · rw [if_pos h1, if_pos h1]
      exact ⟨fun h => absurd h (show ¬ (4 : Int) = 0 by decide), fun _ => ⟨rfl, rfl⟩⟩
    · rw [if_neg h1, if_neg h1]
      by_cases h2 : bf = 4096
      · rw [if_pos h2, if_pos (by omega)]
        exact ⟨fun h => absurd h (show ¬ (14 : Int) = 0 by decide), fun _ => ⟨rfl, rfl⟩⟩
      · rw [if_neg h2, if_neg (by omega)]
        by_cases h3 : nodeE k n s l ks = 0
        · rw [if_pos h3, h3, if_pos (by rfl)]
          exact ih (lv + 1) (bf + 1) (by omega)
        · rw [if_neg h3, if_neg (by simp [h3])]
          exact ⟨fun h => absurd h h3, fun _ => ⟨rfl, rfl⟩⟩
  · intro lv bf hb
    rw [chkL_nil, foldL_nil]
    exact ⟨fun _ => ⟨rfl, hb⟩, fun h => absurd rfl h⟩
  · intro v t h1 h2 lv bf hb
    obtain ⟨a1, a2⟩ := h1 lv bf hb
    rw [chkL_cons, foldL_cons]
    by_cases h : (chkV v lv bf).1 = 0
    · obtain ⟨e1, e2⟩ := a1 h
      rw [if_pos h, e1, if_pos rfl]
      exact h2 lv _ e2
    · obtain ⟨e1, e2⟩ := a2 h
      rw [if_neg h, e1, if_neg (by decide)]
      exact ⟨fun g => absurd g h, fun _ => ⟨e1, e2⟩⟩
theorem check_fold (v : V) : (foldV stepC v (0, 0) 1).1.1 = chkE v := by
  obtain ⟨h1, h2⟩ := check_both.1 v 1 0 (by omega)
  unfold chkE
  by_cases h : (chkV v 1 0).1 = 0
  · rw [(h1 h).1, h]
  · exact (h2 h).2
/-- Known's step, and that of Nodes. -/
def stepK (_ : Bool) (v : V) (_ : Nat) : Bool × Bool := (decide (v.kind ≠ 6), decide (v.kind ≠ 6))
def stepN (n : Nat) (_ : V) (_ : Nat) : Nat × Bool := (n + 1, true)
theorem known_both : (∀ (v : V) (st : Bool) (lv : Nat), foldV stepK v st lv = (known v, known v)) ∧ (∀ (l : List V) (st : Bool) (lv : Nat), st = true → foldL stepK l st lv = (knownL l, knownL l)) := by
  refine V.both (P := fun v => ∀ (st : Bool) (lv : Nat), foldV stepK v st lv = (known v, known v)) (Q := fun l => ∀ (st : Bool) (lv : Nat), st = true → foldL stepK l st lv = (knownL l, knownL l)) ?_ ?_ ?_
  · intro k n s l ks ih st lv
    rw [foldV_eq, known]
    show (if decide (k ≠ 6) = true then foldL stepK l (decide (k ≠ 6)) (lv + 1) else (decide (k ≠ 6), false)) = _
    by_cases h : k = 6
    · simp [h]
    · rw [ih _ _ (by simp [h])]
      simp [h]
  · intro st lv h
    rw [foldL_nil, h, knownL]
  · intro v t h1 h2 st lv h
    rw [foldL_cons, h1, knownL]
    by_cases h3 : known v = true
    · rw [if_pos h3, h2 _ _ h3, h3]
      rfl
    · rw [Bool.not_eq_true] at h3
      rw [h3]
      rfl
theorem nodes_both : (∀ (v : V) (st : Nat) (lv : Nat), foldV stepN v st lv = (st + nodes v, true)) ∧ (∀ (l : List V) (st : Nat) (lv : Nat), foldL stepN l st lv = (st + nodesL l, true)) := by
  refine V.both (P := fun v => ∀ (st : Nat) (lv : Nat), foldV stepN v st lv = (st + nodes v, true)) (Q := fun l => ∀ (st : Nat) (lv : Nat), foldL stepN l st lv = (st + nodesL l, true)) ?_ ?_ ?_
  · intro k n s l ks ih st lv
    rw [foldV_eq, nodes]
    show (if true = true then foldL stepN l (st + 1) (lv + 1) else _) = _
    rw [if_pos rfl, ih, Nat.add_assoc]
  · intro st lv
    rw [foldL_nil, nodesL]
    rfl
  · intro v t h1 h2 st lv
    rw [foldL_cons, h1, if_pos rfl, h2, nodesL, Nat.add_assoc]
/-! ### two values -/
abbrev En := List ByteArray × List V
def emptyE (e : En) : Bool := e.1.isEmpty && e.2.isEmpty
def headE (e : En) : En := (e.1.take 1, e.2.take 1)
def tailE (e : En) : En := (e.1.drop 1, e.2.drop 1)
def inE (e : En) : En :=
  match e.2 with
  | [] => ([], [])
  | v :: _ => (v.keys, v.items)
/-- The visit of pairs by a stack; a step says 0 to enter, 1 to pass, anything else to stop. -/
def visP {S : Type} (step : S → En → En → S × Nat) : Nat → S → List (En × En) → S
  | 0, s, _ => s
  | _ + 1, s, [] => s
  | n + 1, s, (a, b) :: r =>
    if (emptyE a && emptyE b) = true then visP step n s r
    else if (step s (headE a) (headE b)).2 = 0 then visP step n (step s (headE a) (headE b)).1 ((inE (headE a), inE (headE b)) :: (tailE a, tailE b) :: r)
    else if (step s (headE a) (headE b)).2 = 1 then visP step n (step s (headE a) (headE b)).1 ((tailE a, tailE b) :: r)
    else (step s (headE a) (headE b)).1
theorem visP_eq {S : Type} (step : S → En → En → S × Nat) (n : Nat) (s : S) (a b : En) (r : List (En × En)) : visP step (n + 1) s ((a, b) :: r) =
    if (emptyE a && emptyE b) = true then visP step n s r
    else if (step s (headE a) (headE b)).2 = 0 then visP step n (step s (headE a) (headE b)).1 ((inE (headE a), inE (headE b)) :: (tailE a, tailE b) :: r)
    else if (step s (headE a) (headE b)).2 = 1 then visP step n (step s (headE a) (headE b)).1 ((tailE a, tailE b) :: r)
    else (step s (headE a) (headE b)).1 := by rw [visP]
theorem visP_none {S : Type} (step : S → En → En → S × Nat) (n : Nat) (s : S) : visP step n s [] = s := by cases n <;> rw [visP]
theorem visP_pop {S : Type} (step : S → En → En → S × Nat) (n : Nat) (s : S) (r : List (En × En)) : visP step (n + 1) s ((([], []), ([], [])) :: r) = visP step n s r := by
  rw [visP_eq, if_pos (by rfl)]
theorem visP_enter {S : Type} {step : S → En → En → S × Nat} {n : Nat} {s s' : S} {a b : En} {r : List (En × En)} (h : (emptyE a && emptyE b) = false) (e : step s (headE a) (headE b) = (s', 0)) :
    visP step (n + 1) s ((a, b) :: r) = visP step n s' ((inE (headE a), inE (headE b)) :: (tailE a, tailE b) :: r) := by
  rw [visP_eq, h, e, if_neg (by decide), if_pos rfl]
theorem visP_pass {S : Type} {step : S → En → En → S × Nat} {n : Nat} {s s' : S} {a b : En} {r : List (En × En)} (h : (emptyE a && emptyE b) = false) (e : step s (headE a) (headE b) = (s', 1)) :
    visP step (n + 1) s ((a, b) :: r) = visP step n s' ((tailE a, tailE b) :: r) := by
  rw [visP_eq, h, e, if_neg (by decide), if_neg (show ¬ (1 : Nat) = 0 by decide), if_pos rfl]
theorem visP_stop {S : Type} {step : S → En → En → S × Nat} {n : Nat} {s s' : S} {a b : En} {r : List (En × En)} (h : (emptyE a && emptyE b) = false) (e : step s (headE a) (headE b) = (s', 2)) :
    visP step (n + 1) s ((a, b) :: r) = s' := by
  rw [visP_eq, h, e, if_neg (by decide), if_neg (show ¬ (2 : Nat) = 0 by decide), if_neg (show ¬ (2 : Nat) = 1 by decide)]
/-- Two nodes by their own content. -/
def cN (a b : V) : Int := orL [cI a.kind b.kind, cI a.num b.num, cT a.str b.str]
def cF (x y : En) : Int := orL [cL cT x.1 y.1, cL cN x.2 y.2]
def stepO (_ : Int) (x y : En) : Int × Nat := (cF x y, if cF x y = 0 then 0 else 2)
def unkE (y : En) : Bool :=
  match y.2 with
  | [] => false
  | v :: _ => decide (v.kind = 6)
def stepR (st : Bool) (x y : En) : Bool × Nat :=
  if (unkE y && decide (x.2.length = 1) && decide (x.1 = y.1)) = true then (st, 1) else if cF x y = 0 then (st, 0) else (false, 2)

theorem or1 (x : Int) : (if x = 0 then 0 else x) = x := by
  split <;> rename_i h
  · exact h.symm
  · rfl
theorem or2 (x y : Int) : orL [x, y] = if x = 0 then y else x := by simp only [orL, or1]
theorem or3 (x y z : Int) : orL [x, y, z] = if x = 0 then (if y = 0 then z else y) else x := by simp only [orL, or1]
/-- One step of Compare's on proper entries. -/
theorem cF_cons {m : Bool} {ks ks' : List ByteArray} {a b : V} {s t : List V} (h : Kd m ks (a :: s)) (h' : Kd m ks' (b :: t)) : cF (headE (ks, a :: s)) (headE (ks', b :: t)) = if cH ks ks' = 0 then cN a b else cH ks ks' := by
  have e2 : cL cN [a] [b] = cN a b := by
    simp only [cL]
    split <;> rename_i q
    · exact q.symm
    · rfl
  unfold Kd at h h'
  cases m with
  | false =>
    simp only [Bool.false_eq_true, if_false] at h h'
    rw [h, h']
    show orL [cL cT [] [], cL cN [a] [b]] = _
    rw [e2, or2]
    rfl
  | true =>
    simp only [if_true] at h h'
    match ks, ks', h, h' with
    | x :: u, y :: w, _, _ =>
      have e1 : cL cT [x] [y] = cT x y := by
        simp only [cL]
        split <;> rename_i q
        · exact q.symm
        · rfl
      show orL [cL cT [x] [y], cL cN [a] [b]] = if cT x y = 0 then cN a b else cT x y
      rw [e1, e2, or2]
theorem cF_less {m : Bool} {ks ks' : List ByteArray} {b : V} {t : List V} (h : Kd m ks []) (h' : Kd m ks' (b :: t)) : cF (headE (ks, [])) (headE (ks', b :: t)) = -1 := by
  rw [h.nil]
  unfold Kd at h'
  cases m with
  | false =>
    simp only [Bool.false_eq_true, if_false] at h'
    rw [h']
    rfl
  | true =>
    simp only [if_true] at h'
    match ks', h' with
    | y :: w, _ => rfl
theorem cF_more {m : Bool} {ks ks' : List ByteArray} {a : V} {s : List V} (h : Kd m ks (a :: s)) (h' : Kd m ks' []) : cF (headE (ks, a :: s)) (headE (ks', [])) = 1 := by
  rw [h'.nil]
  unfold Kd at h
  cases m with
  | false =>
    simp only [Bool.false_eq_true, if_false] at h
    rw [h]
    rfl
  | true =>
    simp only [if_true] at h
    match ks, h with
    | y :: w, _ => rfl
theorem cN_zero (a b : V) : cN a b = 0 ↔ a.kind = b.kind ∧ a.num = b.num ∧ a.str = b.str := by
  have h1 := tot_cI.zero a.kind b.kind
  have h2 := tot_cI.zero a.num b.num
  have h3 := tot_cT.zero a.str b.str
  unfold cN
  simp only [orL]
  by_cases g1 : cI a.kind b.kind = 0
  · rw [if_pos g1]
    by_cases g2 : cI a.num b.num = 0
    · rw [if_pos g2]
      by_cases g3 : cT a.str b.str = 0
      · rw [if_pos g3]
        exact ⟨fun _ => ⟨h1.1 g1, h2.1 g2, h3.1 g3⟩, fun _ => rfl⟩
      · rw [if_neg g3]
        exact ⟨fun h => absurd h g3, fun h => absurd (h3.2 h.2.2) g3⟩
    · rw [if_neg g2]
      exact ⟨fun h => absurd h g2, fun h => absurd (h2.2 h.2.1) g2⟩
  · rw [if_neg g1]
    exact ⟨fun h => absurd h g1, fun h => absurd (h1.2 h.1) g1⟩
theorem cV_split (a b : V) : cV a b = if cN a b = 0 then cE a.keys b.keys a.items b.items else cN a b := by
  obtain ⟨k, n, s, l, ks⟩ := a
  obtain ⟨k', n', s', l', ks'⟩ := b
  have hN : cN ⟨k, n, s, l, ks⟩ ⟨k', n', s', l', ks'⟩ = if cI k k' = 0 then (if cI n n' = 0 then cT s s' else cI n n') else cI k k' := or3 _ _ _
  rw [cV_eq, hN]
  show _ = if (if cI k k' = 0 then (if cI n n' = 0 then cT s s' else cI n n') else cI k k') = 0 then cE ks ks' l l' else _
  by_cases g1 : cI k k' = 0
  · simp only [if_pos g1]
    by_cases g2 : cI n n' = 0
    · simp only [if_pos g2]
    · simp only [if_neg g2]
  · simp only [if_neg g1]
theorem emptyE_cons (ks : List ByteArray) (a : V) (s : List V) : emptyE (ks, a :: s) = false := by simp [emptyE]
theorem V.sane_parts {v : V} (h : sane v) : Kd (decide (v.kind = 5)) v.keys v.items ∧ saneL v.items ∧ shape v.kind v.num v.str v.items v.keys := by
  obtain ⟨k, n, s, l, ks⟩ := v
  rw [sane_iff] at h
  exact ⟨shape_kd h.1, h.2, h.1⟩
theorem nodes_eta (v : V) : nodes v = 1 + nodesL v.items := by cases v; rw [nodes]; rfl
/-- What the visit of two proper rows comes to: the comparison. -/
theorem cmp_both : (∀ (v : V) (b : V) (r : List (En × En)) (fuel : Nat), sane v → sane b → cN v b = 0 → 2 * nodesL v.items + 1 ≤ fuel → visP stepO fuel 0 (((v.keys, v.items), (b.keys, b.items)) :: r) = if cE v.keys b.keys v.items b.items = 0 then visP stepO (fuel - (2 * nodesL v.items + 1)) 0 r else cE v.keys b.keys v.items b.items) ∧
    (∀ (l l' : List V) (m : Bool) (ks ks' : List ByteArray) (r : List (En × En)) (fuel : Nat), saneL l → saneL l' → Kd m ks l → Kd m ks' l' → 2 * nodesL l + 1 ≤ fuel → visP stepO fuel 0 (((ks, l), (ks', l')) :: r) = if cE ks ks' l l' = 0 then visP stepO (fuel - (2 * nodesL l + 1)) 0 r else cE ks ks' l l') := by
  refine V.both (P := fun v => ∀ (b : V) (r : List (En × En)) (fuel : Nat), sane v → sane b → cN v b = 0 → 2 * nodesL v.items + 1 ≤ fuel → visP stepO fuel 0 (((v.keys, v.items), (b.keys, b.items)) :: r) = if cE v.keys b.keys v.items b.items = 0 then visP stepO (fuel - (2 * nodesL v.items + 1)) 0 r else cE v.keys b.keys v.items b.items)
    (Q := fun l => ∀ (l' : List V) (m : Bool) (ks ks' : List ByteArray) (r : List (En × En)) (fuel : Nat), saneL l → saneL l' → Kd m ks l → Kd m ks' l' → 2 * nodesL l + 1 ≤ fuel → visP stepO fuel 0 (((ks, l), (ks', l')) :: r) = if cE ks ks' l l' = 0 then visP stepO (fuel - (2 * nodesL l + 1)) 0 r else cE ks ks' l l') ?_ ?_ ?_
  · intro k n s l ks ih b r fuel ha hb hN hf
    obtain ⟨p1, p2, _⟩ := V.sane_parts ha
    obtain ⟨q1, q2, _⟩ := V.sane_parts hb
    rw [← ((cN_zero _ _).1 hN).1] at q1
    exact ih b.items _ ks b.keys r fuel p2 q2 p1 q1 hf
  · intro l' m ks ks' r fuel _ _ h1 h2 hf
    obtain ⟨f, rfl⟩ : ∃ f, fuel = f + 1 := ⟨fuel - 1, by omega⟩
    rw [nodesL]
    have e1 := h1.nil
    subst e1
    cases l' with
    | nil =>
      have e2 := h2.nil
      subst e2
      rw [cE_nil, if_pos rfl, visP_pop]
      rfl
    | cons b t =>
      have e : (emptyE ([], []) && emptyE (ks', b :: t)) = false := by rw [emptyE_cons, Bool.and_false]
      have e3 : stepO 0 (headE ([], [])) (headE (ks', b :: t)) = (-1, 2) := by
        unfold stepO
        rw [cF_less h1 h2]
        rfl
      rw [cE_less, if_neg (by decide), visP_stop e e3]
  · intro a s h1 h2 l' m ks ks' r fuel hs hs' hk hk' hf
    obtain ⟨f, rfl⟩ : ∃ f, fuel = f + 1 := ⟨fuel - 1, by omega⟩
    have e : ∀ x, (emptyE (ks, a :: s) && x) = false := fun x => by rw [emptyE_cons, Bool.false_and]
    cases l' with
    | nil =>
      have e3 : stepO 0 (headE (ks, a :: s)) (headE (ks', [])) = (1, 2) := by
        unfold stepO
        rw [cF_more hk hk']
        rfl
      rw [cE_more, if_neg (by decide), visP_stop (e _) e3]
    | cons b t =>
      rw [saneL_cons] at hs hs'
      rw [nodesL] at hf ⊢
      rw [nodes_eta] at hf ⊢
      rw [cE_cons]
      have e3 : ∀ c, (if cH ks ks' = 0 then cN a b else cH ks ks') = c → stepO 0 (headE (ks, a :: s)) (headE (ks', b :: t)) = (c, if c = 0 then 0 else 2) := by
        intro c hc
        unfold stepO
        rw [cF_cons hk hk', hc]
      by_cases g1 : cH ks ks' = 0
      · rw [if_pos g1] at e3 ⊢
        by_cases g2 : cN a b = 0
        · rw [visP_enter (e _) (e3 0 g2)]
          show visP stepO f 0 (((a.keys, a.items), (b.keys, b.items)) :: ((ks.drop 1, s), (ks'.drop 1, t)) :: r) = _
          rw [h1 b _ f hs.1 hs'.1 g2 (by omega), cV_split, if_pos g2]
          by_cases g3 : cE a.keys b.keys a.items b.items = 0
          · rw [if_pos g3, if_pos g3, List.drop_one, List.drop_one, h2 t m _ _ r _ hs.2 hs'.2 hk.tail hk'.tail (by omega), show f - (2 * nodesL a.items + 1) - (2 * nodesL s + 1) = f + 1 - (2 * (1 + nodesL a.items + nodesL s) + 1) by omega]
          · rw [if_neg g3, if_neg g3, if_neg g3]
        · have g3 : cV a b = cN a b := by rw [cV_split, if_neg g2]
          have e4 := e3 _ rfl
          rw [if_neg g2] at e4
          rw [g3, if_neg g2, if_neg g2, visP_stop (e _) e4]
      · rw [if_neg g1] at e3 ⊢
        have e4 := e3 _ rfl
        rw [if_neg g1] at e4
        rw [if_neg g1, visP_stop (e _) e4]
theorem cmp_all (a b : V) (ha : sane a) (hb : sane b) (fuel : Nat) (hf : 2 * nodes a + 1 ≤ fuel) : visP stepO fuel 0 [(([], [a]), ([], [b]))] = cV a b := by
  have h1 : saneL [a] := (saneL_cons _ _).2 ⟨ha, trivial⟩
  have h2 : saneL [b] := (saneL_cons _ _).2 ⟨hb, trivial⟩
  have e : nodesL [a] = nodes a := by rw [nodesL, nodesL]; rfl
  rw [cmp_both.2 [a] [b] false [] [] [] fuel h1 h2 rfl rfl (by omega), visP_none, cE_cons, if_pos (show cH [] [] = 0 from rfl), cE_nil]
  by_cases g : cV a b = 0
  · rw [if_pos g, if_pos rfl, g]
  · rw [if_neg g, if_neg g]
theorem fuel_step (f p q f1 : Nat) (h : f - (2 * p + 1) ≤ f1) : f + 1 - (2 * (1 + p + q) + 1) ≤ f1 - (2 * q + 1) := by omega
/-- Refinement of the keyed rows: all keys the same and all items refined. -/
theorem ref_both : (∀ (v : V) (b : V) (r : List (En × En)) (fuel : Nat), sane v → sane b → cN v b = 0 → 2 * nodesL v.items + 1 ≤ fuel →
      (v.keys = b.keys ∧ refL v.items b.items = true → ∃ f, fuel - (2 * nodesL v.items + 1) ≤ f ∧ visP stepR fuel true (((v.keys, v.items), (b.keys, b.items)) :: r) = visP stepR f true r) ∧
      (¬ (v.keys = b.keys ∧ refL v.items b.items = true) → visP stepR fuel true (((v.keys, v.items), (b.keys, b.items)) :: r) = false)) ∧
    (∀ (l l' : List V) (m : Bool) (ks ks' : List ByteArray) (r : List (En × En)) (fuel : Nat), saneL l → saneL l' → Kd m ks l → Kd m ks' l' → 2 * nodesL l + 1 ≤ fuel →
      (ks = ks' ∧ refL l l' = true → ∃ f, fuel - (2 * nodesL l + 1) ≤ f ∧ visP stepR fuel true (((ks, l), (ks', l')) :: r) = visP stepR f true r) ∧
      (¬ (ks = ks' ∧ refL l l' = true) → visP stepR fuel true (((ks, l), (ks', l')) :: r) = false)) := by
  refine V.both (P := fun v => ∀ (b : V) (r : List (En × En)) (fuel : Nat), sane v → sane b → cN v b = 0 → 2 * nodesL v.items + 1 ≤ fuel →
      (v.keys = b.keys ∧ refL v.items b.items = true → ∃ f, fuel - (2 * nodesL v.items + 1) ≤ f ∧ visP stepR fuel true (((v.keys, v.items), (b.keys, b.items)) :: r) = visP stepR f true r) ∧
      (¬ (v.keys = b.keys ∧ refL v.items b.items = true) → visP stepR fuel true (((v.keys, v.items), (b.keys, b.items)) :: r) = false))
    (Q := fun l => ∀ (l' : List V) (m : Bool) (ks ks' : List ByteArray) (r : List (En × En)) (fuel : Nat), saneL l → saneL l' → Kd m ks l → Kd m ks' l' → 2 * nodesL l + 1 ≤ fuel →
      (ks = ks' ∧ refL l l' = true → ∃ f, fuel - (2 * nodesL l + 1) ≤ f ∧ visP stepR fuel true (((ks, l), (ks', l')) :: r) = visP stepR f true r) ∧
      (¬ (ks = ks' ∧ refL l l' = true) → visP stepR fuel true (((ks, l), (ks', l')) :: r) = false)) ?_ ?_ ?_
  · intro k n s l ks ih b r fuel ha hb hN hf
    obtain ⟨p1, p2, _⟩ := V.sane_parts ha
    obtain ⟨q1, q2, _⟩ := V.sane_parts hb
    rw [← ((cN_zero _ _).1 hN).1] at q1
    exact ih b.items _ ks b.keys r fuel p2 q2 p1 q1 hf
  · intro l' m ks ks' r fuel _ _ h1 h2 hf
    obtain ⟨f, rfl⟩ : ∃ f, fuel = f + 1 := ⟨fuel - 1, by omega⟩
    rw [nodesL]
    have e1 := h1.nil
    subst e1
    cases l' with
    | nil =>
      have e2 := h2.nil
      subst e2
      rw [visP_pop]
      exact ⟨fun _ => ⟨f, by omega, rfl⟩, fun h => absurd ⟨rfl, by rw [refL]⟩ h⟩
    | cons b t =>
      have e : (emptyE ([], []) && emptyE (ks', b :: t)) = false := by rw [emptyE_cons, Bool.and_false]
      refine ⟨fun h => absurd h.2 (by simp [refL]), fun _ => ?_⟩
      have e3 : stepR true (headE ([], [])) (headE (ks', b :: t)) = (false, 2) := by
        unfold stepR
        rw [cF_less h1 h2]
        simp [headE]
      rw [visP_stop e e3]
  · intro a s h1 h2 l' m ks ks' r fuel hs hs' hk hk' hf
    obtain ⟨f, rfl⟩ : ∃ f, fuel = f + 1 := ⟨fuel - 1, by omega⟩
    have e : ∀ x, (emptyE (ks, a :: s) && x) = false := fun x => by rw [emptyE_cons, Bool.false_and]
    cases l' with
    | nil =>
      refine ⟨fun h => absurd h.2 (by simp [refL]), fun _ => ?_⟩
      have e3 : stepR true (headE (ks, a :: s)) (headE (ks', [])) = (false, 2) := by
        unfold stepR
        rw [cF_more hk hk']
        rfl
      rw [visP_stop (e _) e3]
    | cons b t =>
      rw [saneL_cons] at hs hs'
      rw [nodesL] at hf ⊢
      rw [nodes_eta] at hf ⊢
      have hkeys : ks = ks' ↔ cH ks ks' = 0 ∧ ks.tail = ks'.tail := (hk.head hk').1.symm
      have hh : (headE (ks, a :: s)).1 = (headE (ks', b :: t)).1 ↔ cH ks ks' = 0 := by
        show ks.take 1 = ks'.take 1 ↔ _
        unfold Kd at hk hk'
        cases m with
        | false =>
          simp only [Bool.false_eq_true, if_false] at hk hk'
          rw [hk, hk']
          simp [cH]
        | true =>
          simp only [if_true] at hk hk'
          match ks, ks', hk, hk' with
          | x :: u, y :: w, _, _ =>
            show [x] = [y] ↔ cT x y = 0
            rw [tot_cT.zero x y]
            simp
      have e3 : stepR true (headE (ks, a :: s)) (headE (ks', b :: t)) = if (decide (b.kind = 6) && decide (cH ks ks' = 0)) = true then (true, 1) else if (if cH ks ks' = 0 then cN a b else cH ks ks') = 0 then (true, 0) else (false, 2) := by
        unfold stepR
        rw [cF_cons hk hk', decide_eq_decide.2 hh]
        show (if (decide (b.kind = 6) && decide ([a].length = 1) && decide (cH ks ks' = 0)) = true then _ else _) = _
        rw [List.length_singleton, decide_eq_true (show 1 = 1 from rfl), Bool.and_true]
      rw [refL_cons, hkeys]
      by_cases g1 : cH ks ks' = 0
      · rw [decide_eq_true g1, Bool.and_true, if_pos g1] at e3
        by_cases g0 : b.kind = 6
        · rw [decide_eq_true g0, if_pos rfl] at e3
          rw [visP_pass (e _) e3]
          have hb : refB a b = true := by
            obtain ⟨k, n, s, l, ks⟩ := a
            obtain ⟨k', n', s', l', ks'⟩ := b
            exact (ref_iff _ _ _ _ _ _ _ _ _ _).2 (.inl g0)
          show (_ → ∃ f', _ ∧ visP stepR f true (((ks.drop 1, s), (ks'.drop 1, t)) :: r) = visP stepR f' true r) ∧ (_ → visP stepR f true (((ks.drop 1, s), (ks'.drop 1, t)) :: r) = false)
          rw [List.drop_one, List.drop_one]
          obtain ⟨i1, i2⟩ := h2 t m _ _ r f hs.2 hs'.2 hk.tail hk'.tail (by omega)
          refine ⟨fun h => ?_, fun h => i2 fun g => h ⟨⟨g1, g.1⟩, hb, g.2⟩⟩
          obtain ⟨f', hf', e⟩ := i1 ⟨h.1.2, h.2.2⟩
          exact ⟨f', by omega, e⟩
        · rw [decide_eq_false g0, if_neg (by decide)] at e3
          have hr : refB a b = true ↔ cN a b = 0 ∧ a.keys = b.keys ∧ refL a.items b.items = true := by
            rw [cN_zero]
            obtain ⟨k, n, s, l, ks⟩ := a
            obtain ⟨k', n', s', l', ks'⟩ := b
            rw [ref_iff]
            constructor
            · rintro (h | ⟨h1, h2, h3, h4, h5⟩)
              · exact absurd h g0
              · exact ⟨⟨h1, h2, h3⟩, h4, h5⟩
            · rintro ⟨⟨h1, h2, h3⟩, h4, h5⟩
              exact .inr ⟨h1, h2, h3, h4, h5⟩
          by_cases g2 : cN a b = 0
          · rw [if_pos g2] at e3
            rw [visP_enter (e _) e3]
            show (_ → ∃ f', _ ∧ visP stepR f true (((a.keys, a.items), (b.keys, b.items)) :: ((ks.drop 1, s), (ks'.drop 1, t)) :: r) = visP stepR f' true r) ∧ (_ → visP stepR f true (((a.keys, a.items), (b.keys, b.items)) :: ((ks.drop 1, s), (ks'.drop 1, t)) :: r) = false)
            rw [List.drop_one, List.drop_one]
            obtain ⟨i1, i2⟩ := h1 b (((ks.tail, s), (ks'.tail, t)) :: r) f hs.1 hs'.1 g2 (by omega)
            by_cases g3 : a.keys = b.keys ∧ refL a.items b.items = true
            · obtain ⟨f1, hf1, e1⟩ := i1 g3
              obtain ⟨j1, j2⟩ := h2 t m _ _ r f1 hs.2 hs'.2 hk.tail hk'.tail (by omega)
              rw [e1]
              refine ⟨fun h => ?_, fun h => j2 fun g => h ⟨⟨g1, g.1⟩, hr.2 ⟨g2, g3⟩, g.2⟩⟩
              obtain ⟨f', hf', e'⟩ := j1 ⟨h.1.2, h.2.2⟩
              have h9 : f + 1 - (2 * (1 + nodesL a.items + nodesL s) + 1) ≤ f1 - (2 * nodesL s + 1) := by
                exact fuel_step _ _ _ _ hf1
              exact ⟨f', Nat.le_trans h9 hf', e'⟩
            · rw [i2 g3]
              exact ⟨fun h => absurd (hr.1 h.2.1).2 g3, fun _ => rfl⟩
          · rw [if_neg g2] at e3
            rw [visP_stop (e _) e3]
            exact ⟨fun h => absurd (hr.1 h.2.1).1 g2, fun _ => rfl⟩
      · rw [decide_eq_false g1, Bool.and_false, if_neg (by decide), if_neg g1, if_neg g1] at e3
        rw [visP_stop (e _) e3]
        exact ⟨fun h => absurd h.1.1 g1, fun _ => rfl⟩
theorem ref_all (a b : V) (ha : sane a) (hb : sane b) (fuel : Nat) (hf : 2 * nodes a + 1 ≤ fuel) : visP stepR fuel true [(([], [a]), ([], [b]))] = refB a b := by
  have h1 : saneL [a] := (saneL_cons _ _).2 ⟨ha, trivial⟩
  have h2 : saneL [b] := (saneL_cons _ _).2 ⟨hb, trivial⟩
  have e : nodesL [a] = nodes a := by rw [nodesL, nodesL]; rfl
  obtain ⟨i1, i2⟩ := ref_both.2 [a] [b] false [] [] [] fuel h1 h2 rfl rfl (by omega)
  by_cases g : refB a b = true
  · obtain ⟨f, _, e2⟩ := i1 ⟨rfl, (refL_cons _ _ _ _).2 ⟨g, by rw [refL]⟩⟩
    rw [e2, visP_none, g]
  · rw [i2 fun h => g ((refL_cons _ _ _ _).1 h.2).1]
    rw [Bool.not_eq_true] at g
    exact g.symm

end Go.Proofs.YtjmchjphdfbhiaaGreatDoor.val

namespace Go.Proofs.YtjmchjphdfbhiaaGreatDoor.val
mutual
/-- How many of some nodes are left behind a value, as the reference counts. -/
def leftV : V → Int → Int → Int
  | ⟨_, _, _, l, _⟩, nd, lv => if nd < 1 ∨ lv < 1 then -1 else leftL l (nd - 1) (lv - 1)
def leftL : List V → Int → Int → Int
  | [], n, _ => n
  | v :: t, n, lv => if 0 ≤ n then leftL t (leftV v n lv) lv else n
end
mutual
/-- The keys of a value and of what is in it. -/
def keyN : V → Nat
  | ⟨_, _, _, l, ks⟩ => ks.length + keyNL l
def keyNL : List V → Nat
  | [] => 0
  | v :: t => keyN v + keyNL t
end
theorem leftV_eq (k n : Int) (s : ByteArray) (l : List V) (ks : List ByteArray) (nd lv : Int) : leftV ⟨k, n, s, l, ks⟩ nd lv = if nd < 1 ∨ lv < 1 then -1 else leftL l (nd - 1) (lv - 1) := by rw [leftV]
theorem leftL_cons (v : V) (t : List V) (n lv : Int) : leftL (v :: t) n lv = if 0 ≤ n then leftL t (leftV v n lv) lv else n := by rw [leftL]
theorem leftL_nil (n lv : Int) : leftL [] n lv = n := by rw [leftL]
theorem leftL_neg (l : List V) (n lv : Int) (h : n < 0) : leftL l n lv = n := by
  cases l with
  | nil => exact leftL_nil n lv
  | cons v t => rw [leftL_cons, if_neg (by omega)]
theorem left_says : (∀ (v : V) (nd lv : Int), 0 ≤ leftV v nd lv → leftV v nd lv = nd - nodes v ∧ (depth v : Int) ≤ lv) ∧
    (∀ (l : List V) (n lv : Int), 0 ≤ n → 0 ≤ lv → 0 ≤ leftL l n lv → leftL l n lv = n - nodesL l ∧ (depthL l : Int) ≤ lv) := by
  refine V.both (P := fun v => ∀ (nd lv : Int), 0 ≤ leftV v nd lv → leftV v nd lv = nd - nodes v ∧ (depth v : Int) ≤ lv)
    (Q := fun l => ∀ (n lv : Int), 0 ≤ n → 0 ≤ lv → 0 ≤ leftL l n lv → leftL l n lv = n - nodesL l ∧ (depthL l : Int) ≤ lv) ?_ ?_ ?_
  · intro k n s l ks ih nd lv h
    rw [leftV_eq] at h ⊢
    by_cases h1 : nd < 1 ∨ lv < 1
    · rw [if_pos h1] at h
      exact absurd h (by decide)
    · rw [if_neg h1] at h ⊢
      obtain ⟨g1, g2⟩ := ih (nd - 1) (lv - 1) (by omega) (by omega) h
      rw [nodes, depth, g1]
      constructor
      · omega
      · omega
  · intro n lv _ h2 _
    rw [leftL_nil, nodesL, depthL]
    exact ⟨by omega, by omega⟩
  · intro v t h1 h2 n lv hn hl h
    rw [leftL_cons, if_pos hn] at h ⊢
    by_cases hv : 0 ≤ leftV v n lv
    · obtain ⟨g1, g2⟩ := h1 n lv hv
      obtain ⟨k1, k2⟩ := h2 _ lv hv hl h
      rw [k1, g1, nodesL, depthL]
      exact ⟨by omega, by omega⟩
    · rw [leftL_neg t _ lv (by omega)] at h
      exact absurd h hv
/-- Few nodes on few levels, and few keys. -/
def Small (v : V) (nd : Int) : Prop := 0 ≤ leftV v nd 40 ∧ (keyN v : Int) ≤ 2 * nd
theorem Small.says {v : V} {nd : Int} (h : Small v nd) : (nodes v : Int) ≤ nd ∧ depth v ≤ 40 ∧ (keyN v : Int) ≤ 2 * nd := by
  obtain ⟨g1, g2⟩ := left_says.1 v nd 40 h.1
  have := h.1
  exact ⟨by omega, by omega, h.2⟩
/-- Known and refined, as the document says it of nodes. -/
theorem items_nodes : ∀ (l : List V) (v : V), v ∈ l → nodes v ≤ nodesL l
  | [], _, h => by cases h
  | a :: t, v, h => by
    rw [nodesL]
    rcases List.mem_cons.1 h with rfl | h
    · omega
    · have := items_nodes t v h
      omega
theorem items_depth : ∀ (l : List V) (v : V), v ∈ l → depth v ≤ depthL l
  | [], _, h => by cases h
  | a :: t, v, h => by
    rw [depthL]
    rcases List.mem_cons.1 h with rfl | h
    · omega
    · have := items_depth t v h
      omega
theorem len_nodes : ∀ (l : List V), l.length ≤ nodesL l
  | [] => Nat.le_refl _
  | a :: t => by
    have h1 := len_nodes t
    have h2 := nodes_pos a
    rw [nodesL, List.length_cons]
    omega

end Go.Proofs.YtjmchjphdfbhiaaGreatDoor.val
