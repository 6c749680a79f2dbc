/- Comparisons, plain: the order of addresses is total, and 0 for equal ones alone. -/
import Derived.Test.YthekabflbpfjoaaGreatDoorAco
namespace Go.Proofs.YthekabflbpfjoaaGreatDoor.adr
open Go.Proofs.YthekabflbpfjoaaGreatDoor

/-! ### comparisons -/
/-- A comparison that is a total order, with 0 for the same alone. -/
structure Tot {α : Type} (f : α → α → Int) : Prop where
  zero : ∀ a b, f a b = 0 ↔ a = b
  anti : ∀ a b, f b a = - f a b
  trans : ∀ a b c, f a b ≤ 0 → f b c ≤ 0 → f a c ≤ 0
  low : ∀ a b, -1 ≤ f a b ∧ f a b ≤ 1
theorem Tot.less {α : Type} {f : α → α → Int} (h : Tot f) {a b c : α} (h1 : f a b < 0) (h2 : f b c < 0) : f a c < 0 := by
  have h3 := h.trans a b c (by omega) (by omega)
  rcases Int.lt_or_eq_of_le h3 with h4 | h4
  · exact h4
  · rw [h.zero] at h4
    subst h4
    have := h.anti a b
    omega
theorem tot_cI : Tot cI := by
  refine ⟨fun a b => ?_, fun a b => ?_, fun a b c => ?_, fun a b => ?_⟩
  all_goals unfold cI
  · split
    · omega
    split <;> omega
  · split <;> split <;> (try split) <;> (try split) <;> omega
  · split <;> split <;> (try split) <;> (try split) <;> (try split) <;> omega
  · split
    · omega
    split <;> omega
theorem tot_cB : Tot cB := ⟨by decide, by decide, by decide, by decide⟩
theorem u8_cases (a b : UInt8) : a < b ∨ (¬ a < b ∧ ¬ b < a ∧ a = b) ∨ (¬ a < b ∧ b < a) := by
  rw [UInt8.lt_iff_toNat_lt, UInt8.lt_iff_toNat_lt]
  rcases Nat.lt_trichotomy a.toNat b.toNat with h | h | h
  · exact .inl h
  · exact .inr (.inl ⟨by omega, by omega, UInt8.toNat_inj.1 h⟩)
  · exact .inr (.inr ⟨by omega, h⟩)
theorem cmpB_cons (a b : UInt8) (s t : List UInt8) : Lib.compareBytes (a :: s) (b :: t) = if cI a.toNat b.toNat = 0 then Lib.compareBytes s t else cI a.toNat b.toNat := by
  show (if a < b then -1 else if b < a then 1 else Lib.compareBytes s t) = _
  unfold cI
  by_cases h1 : a < b
  · have h1' := UInt8.lt_iff_toNat_lt.1 h1
    rw [if_pos h1, if_pos (show (a.toNat : Int) < b.toNat by omega), if_neg (by decide)]
  · have h1' : ¬ a.toNat < b.toNat := fun h => h1 (UInt8.lt_iff_toNat_lt.2 h)
    rw [if_neg h1, if_neg (show ¬ (a.toNat : Int) < b.toNat by omega)]
    by_cases h2 : b < a
    · have h2' := UInt8.lt_iff_toNat_lt.1 h2
      rw [if_pos h2, if_pos (show (b.toNat : Int) < a.toNat by omega), if_neg (by decide)]
    · have h2' : ¬ b.toNat < a.toNat := fun h => h2 (UInt8.lt_iff_toNat_lt.2 h)
      rw [if_neg h2, if_neg (show ¬ (b.toNat : Int) < a.toNat by omega), if_pos rfl]
/-- Lists compared one by one, the shorter first. -/
def cL {α : Type} (f : α → α → Int) : List α → List α → Int
  | [], [] => 0
  | [], _ :: _ => -1
  | _ :: _, [] => 1
  | a :: s, b :: t => if f a b = 0 then cL f s t else f a b
theorem Tot.list {α : Type} {f : α → α → Int} (h : Tot f) : Tot (cL f) := by
  have z : ∀ a b, cL f a b = 0 ↔ a = b := by
    intro a
    induction a with
    | nil => intro b; cases b <;> simp [cL]
    | cons x s ih =>
      intro b
      cases b with
      | nil => simp [cL]
      | cons y t =>
        rw [cL, List.cons.injEq, ← h.zero x y, ← ih t]
        split
        · rename_i e; simp [e]
        · rename_i e; simp [e]
  refine ⟨z, ?_, ?_, ?_⟩
  · intro a
    induction a with
    | nil => intro b; cases b <;> simp [cL]
    | cons x s ih =>
      intro b
      cases b with
      | nil => simp [cL]
      | cons y t =>
        rw [cL, cL]
        have e1 := h.anti x y
        have e2 := ih t
        split
        · rw [if_pos (by omega)]; exact e2
        · rw [if_neg (by omega)]; exact e1
  · intro a
    induction a with
    | nil => intro b c; cases b <;> cases c <;> simp [cL]
    | cons x s ih =>
      intro b c
      cases b with
      | nil => intro h1; simp [cL] at h1
      | cons y t =>
        cases c with
        | nil => intro _ h2; simp [cL] at h2
        | cons z u =>
          rw [cL, cL, cL]
          intro h1 h2
          split at h1
          · rename_i e1
            rw [h.zero] at e1
            subst e1
            split at h2
            · rename_i e2
              rw [if_pos e2]
              exact ih t u h1 h2
            · rename_i e2
              rw [if_neg e2]
              exact h2
          · rename_i e1
            split at h2
            · rename_i e2
              rw [h.zero] at e2
              subst e2
              rw [if_neg e1]
              exact h1
            · rename_i e2
              have := h.less (show f x y < 0 by omega) (show f y z < 0 by omega)
              rw [if_neg (by omega)]
              omega
  · intro a
    induction a with
    | nil => intro b; cases b <;> simp [cL]
    | cons x s ih =>
      intro b
      cases b with
      | nil => simp [cL]
      | cons y t =>
        rw [cL]
        split
        · exact ih t
        · exact h.low x y
/-- One after the other. -/
theorem Tot.then {α β : Type} {f : α → α → Int} {g : β → β → Int} (h : Tot f) (k : Tot g) : Tot (fun (x y : α × β) => if f x.1 y.1 = 0 then g x.2 y.2 else f x.1 y.1) := by
  refine ⟨fun a b => ?_, fun a b => ?_, fun a b c h1 h2 => ?_, fun a b => ?_⟩
  · obtain ⟨a1, a2⟩ := a
    obtain ⟨b1, b2⟩ := b
    simp only
    rw [Prod.mk.injEq, ← h.zero a1 b1, ← k.zero a2 b2]
    split
    · rename_i e; simp [e]
    · rename_i e; simp [e]
  · have e1 := h.anti a.1 b.1
    have e2 := k.anti a.2 b.2
    split
    · rw [if_pos (by omega)]; exact e2
    · rw [if_neg (by omega)]; exact e1
  · split at h1
    · rename_i e1
      rw [h.zero] at e1
      rw [e1]
      split at h2
      · rename_i e2
        rw [if_pos e2]
        exact k.trans _ _ _ h1 h2
      · rename_i e2
        rw [if_neg e2]
        exact h2
    · rename_i e1
      split at h2
      · rename_i e2
        rw [h.zero] at e2
        rw [← e2, if_neg e1]
        exact h1
      · rename_i e2
        have := h.less (show f a.1 b.1 < 0 by omega) (show f b.1 c.1 < 0 by omega)
        rw [if_neg (by omega)]
        omega
  · split
    · exact k.low _ _
    · exact h.low _ _
theorem Tot.pull {α β : Type} {f : α → α → Int} (h : Tot f) (φ : β → α) (hi : ∀ x y, φ x = φ y → x = y) : Tot (fun x y => f (φ x) (φ y)) :=
  ⟨fun a b => (h.zero _ _).trans ⟨hi a b, fun e => by rw [e]⟩, fun a b => h.anti _ _, fun a b c => h.trans _ _ _, fun a b => h.low _ _⟩
theorem cmpB_eq : ∀ a b : List UInt8, Lib.compareBytes a b = cL (fun x y : UInt8 => cI x.toNat y.toNat) a b
  | [], [] => rfl
  | [], _ :: _ => rfl
  | _ :: _, [] => rfl
  | a :: s, b :: t => by rw [cmpB_cons, cL, cmpB_eq s t]
theorem Tot.bytes : Tot Lib.compareBytes := by
  have e : Lib.compareBytes = cL (fun x y : UInt8 => cI x.toNat y.toNat) := funext fun a => funext fun b => cmpB_eq a b
  rw [e]
  exact (tot_cI.pull (fun x : UInt8 => (x.toNat : Int)) (fun x y h => UInt8.toNat_inj.1 (by omega))).list

theorem orL_two (x : Int) (t : List Int) : orL (x :: t) = if x = 0 then orL t else x := rfl
theorem orL_one (x : Int) : orL [x] = x := by
  rw [orL_two]
  split
  · rename_i h; exact h.symm
  · rfl
theorem tot_cT : Tot cT := Tot.bytes.pull (fun s : ByteArray => s.data.toList) (fun _ _ h => ba_ext h)
def cKo (a b : K) : Int := orL [cI a.kind b.kind, cI a.num b.num, cT a.str b.str]
theorem tot_cKo : Tot cKo := by
  have h := ((tot_cI.then (tot_cI.then tot_cT))).pull (fun k : K => (k.kind, (k.num, k.str))) (fun x y h => by
    obtain ⟨x1, x2, x3⟩ := x
    obtain ⟨y1, y2, y3⟩ := y
    simp only [Prod.mk.injEq] at h
    obtain ⟨rfl, rfl, rfl⟩ := h
    rfl)
  have e : cKo = fun (x y : K) => if cI x.kind y.kind = 0 then if cI x.num y.num = 0 then cT x.str y.str else cI x.num y.num else cI x.kind y.kind := funext fun a => funext fun b => by
    unfold cKo
    rw [orL_two, orL_two, orL_one]
  rw [e]
  exact h
def cSt (a b : St) : Int := orL [cT a.name b.name, cKo a.key b.key]
theorem tot_cSt : Tot cSt := by
  have h := (tot_cT.then tot_cKo).pull (fun s : St => (s.name, s.key)) (fun x y h => by
    obtain ⟨x1, x2⟩ := x
    obtain ⟨y1, y2⟩ := y
    simp only [Prod.mk.injEq] at h
    obtain ⟨rfl, rfl⟩ := h
    rfl)
  have e : cSt = fun (x y : St) => if cT x.name y.name = 0 then cKo x.key y.key else cT x.name y.name := funext fun a => funext fun b => by
    unfold cSt
    rw [orL_two, orL_one]
  rw [e]
  exact h
/-- Two addresses compared. -/
def cRs (a b : Rs) : Int := orL [cB a.data b.data, cT a.type b.type, cT a.name b.name, cKo a.key b.key]
def cA (ms ps : List St) (r q : Rs) : Int := orL [cL cSt ms ps, cB r.data q.data, cT r.type q.type, cT r.name q.name, cKo r.key q.key]
theorem cA_eq (ms ps : List St) (r q : Rs) : cA ms ps r q = if cL cSt ms ps = 0 then cRs r q else cL cSt ms ps := rfl
theorem tot_cRs : Tot cRs := by
  have h := ((tot_cB.then (tot_cT.then (tot_cT.then tot_cKo)))).pull (fun r : Rs => (r.data, (r.type, (r.name, r.key)))) (fun x y h => by
    obtain ⟨x1, x2, x3, x4⟩ := x
    obtain ⟨y1, y2, y3, y4⟩ := y
    simp only [Prod.mk.injEq] at h
    obtain ⟨rfl, rfl, rfl, rfl⟩ := h
    rfl)
  have e : cRs = fun (x y : Rs) => if cB x.data y.data = 0 then if cT x.type y.type = 0 then if cT x.name y.name = 0 then cKo x.key y.key else cT x.name y.name else cT x.type y.type else cB x.data y.data := funext fun a => funext fun b => by
    unfold cRs
    rw [orL_two, orL_two, orL_two, orL_one]
  rw [e]
  exact h
theorem tot_cA : Tot (fun (x y : List St × Rs) => cA x.1 y.1 x.2 y.2) := tot_cSt.list.then tot_cRs

theorem less_iff : ∀ a b : List UInt8, Op.bytesLess a b = true ↔ Lib.compareBytes a b = -1
  | [], [] => by simp [Op.bytesLess, Lib.compareBytes]
  | [], _ :: _ => by simp [Op.bytesLess, Lib.compareBytes]
  | _ :: _, [] => by simp [Op.bytesLess, Lib.compareBytes]
  | a :: s, b :: t => by
    have ih := less_iff s t
    show (decide (a < b) || (a == b && Op.bytesLess s t)) = true ↔ (if a < b then -1 else if b < a then 1 else Lib.compareBytes s t) = -1
    rcases u8_cases a b with h | ⟨h1, h2, rfl⟩ | ⟨h1, h2⟩
    · simp [h]
    · simp [UInt8.lt_irrefl, ih]
    · have hne : (a == b) = false := by
        rw [beq_eq_false_iff_ne]
        rintro rfl
        exact h1 h2
      simp [h1, h2, hne]
theorem cW_eq (a b : ByteArray) : cW a b = cT a b := by
  unfold cW cT
  rw [Lib.toList_data, Lib.toList_data]
  have l := Tot.bytes.low a.data.toList b.data.toList
  have z := Tot.bytes.zero a.data.toList b.data.toList
  cases h : Op.bytesLess a.data.toList b.data.toList with
  | true =>
    rw [if_pos rfl]
    exact ((less_iff _ _).1 h).symm
  | false =>
    rw [if_neg (by decide)]
    have hn : ¬ Lib.compareBytes a.data.toList b.data.toList = -1 := fun e => by
      rw [(less_iff _ _).2 e] at h
      cases h
    cases h2 : (a.data.toList == b.data.toList) with
    | true =>
      rw [if_pos rfl]
      exact (z.2 (beq_iff_eq.1 h2)).symm
    | false =>
      rw [if_neg (by decide)]
      have h3 : ¬ Lib.compareBytes a.data.toList b.data.toList = 0 := fun e => by
        rw [beq_eq_false_iff_ne] at h2
        exact h2 (z.1 e)
      omega
theorem cKy_eq (a b : K) : cKy a b = cKo a b := by
  unfold cKy cKo
  rw [orL_two, orL_two, orL_one, cW_eq]
  have z1 := tot_cI.zero a.kind b.kind
  have z2 := tot_cI.zero a.num b.num
  cases h : (a.kind == b.kind) with
  | false =>
    rw [if_pos rfl, if_neg]
    rw [z1]
    simpa using h
  | true =>
    rw [if_neg (by decide), if_pos (z1.2 (beq_iff_eq.1 h))]
    cases h2 : (a.num == b.num) with
    | false =>
      rw [if_pos rfl, if_neg]
      rw [z2]
      simpa using h2
    | true => rw [if_neg (by decide), if_pos (z2.2 (beq_iff_eq.1 h2))]
theorem cT_self (a b : ByteArray) (h : (a.toList == b.toList) = true) : cT a b = 0 := (tot_cT.zero _ _).2 ((tl_iff a b).1 h)
theorem cT_not (a b : ByteArray) (h : (a.toList == b.toList) = false) : cT a b ≠ 0 := fun e => by
  rw [(tl_iff a b).2 ((tot_cT.zero _ _).1 e)] at h
  cases h
theorem cL_drop {α : Type} (f : α → α → Int) (a b : List α) (k : Nat) (h : k < a.length) (h' : k < b.length) : cL f (a.drop k) (b.drop k) = if f a[k] b[k] = 0 then cL f (a.drop (k + 1)) (b.drop (k + 1)) else f a[k] b[k] := by
  rw [List.drop_eq_getElem_cons h, List.drop_eq_getElem_cons h']
  rfl
theorem cL_end {α : Type} (f : α → α → Int) (a b : List α) (k : Nat) (h : k ≤ a.length) (h' : k ≤ b.length) (he : k = a.length ∨ k = b.length) : cL f (a.drop k) (b.drop k) = cI a.length b.length := by
  unfold cI
  by_cases ha : k = a.length
  · rw [List.drop_of_length_le (by omega)]
    by_cases hb : k = b.length
    · rw [List.drop_of_length_le (by omega), if_neg (by omega), if_neg (by omega)]
      rfl
    · rw [List.drop_eq_getElem_cons (show k < b.length by omega), if_pos (by omega)]
      rfl
  · have hb : k = b.length := by omega
    rw [List.drop_eq_getElem_cons (show k < a.length by omega), List.drop_of_length_le (l := b) (by omega), if_neg (by omega), if_pos (by omega)]
    rfl

end Go.Proofs.YthekabflbpfjoaaGreatDoor.adr
