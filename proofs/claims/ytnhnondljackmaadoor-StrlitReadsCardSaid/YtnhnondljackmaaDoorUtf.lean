/- Plain facts on texts as lists of bytes: the escaped template, and how many interpolations begin in a text. -/
import Derived.Lib.ReplaceLaws
import Derived.Lib.IndexLaws
import Derived.Lib.IndexMore
namespace Go.Proofs.YtnhnondljackmaaDoor.utf
open Go.Lib

/-- A dollar sign before each dollar sign and brace. -/
def escL : List UInt8 → List UInt8
  | [] => []
  | a :: t => if a = 36 ∧ t.head? = some 123 then 36 :: 36 :: escL t else a :: escL t

/-- How many times a dollar sign and a brace stand in a text. -/
def begins : List UInt8 → Nat
  | [] => 0
  | a :: t => (if a = 36 ∧ t.head? = some 123 then 1 else 0) + begins t
/-- How many of them stand behind a dollar sign; p is the byte ahead. -/
def after : UInt8 → List UInt8 → Nat
  | _, [] => 0
  | p, a :: t => (if a = 36 ∧ t.head? = some 123 ∧ p = 36 then 1 else 0) + after a t

theorem escL_head (l : List UInt8) : (escL l).head? = l.head? := by
  cases l with
  | nil => rfl
  | cons a t =>
    unfold escL
    split
    · rename_i h; simp [h.1]
    · simp
theorem escL_length : ∀ l : List UInt8, (escL l).length = l.length + begins l
  | [] => rfl
  | a :: t => by
    have ih := escL_length t
    unfold escL begins
    split <;> simp only [List.length_cons] <;> omega
theorem begins_le : ∀ l : List UInt8, begins l ≤ l.length
  | [] => Nat.le_refl _
  | a :: t => by
    have ih := begins_le t
    unfold begins
    split <;> simp only [List.length_cons] <;> omega
theorem begins_esc : ∀ l : List UInt8, begins (escL l) = begins l
  | [] => rfl
  | a :: t => by
    have ih := begins_esc t
    by_cases h : a = 36 ∧ t.head? = some 123
    · rw [escL, if_pos h]
      simp only [begins, escL_head, ih, h.2]
      simp [h.1]
    · rw [escL, if_neg h]
      simp only [begins, escL_head, ih]
theorem after_le : ∀ (p : UInt8) (l : List UInt8), after p l ≤ begins l
  | _, [] => Nat.le_refl _
  | p, a :: t => by
    have ih := after_le a t
    unfold after begins
    by_cases h : a = 36 ∧ t.head? = some 123
    · rw [if_pos h]; split <;> omega
    · rw [if_neg h, if_neg (fun x => h ⟨x.1, x.2.1⟩)]; omega
theorem after_esc : ∀ (p : UInt8) (l : List UInt8), after p (escL l) = begins l
  | _, [] => rfl
  | p, a :: t => by
    by_cases h : a = 36 ∧ t.head? = some 123
    · have ih := after_esc 36 t
      rw [escL, if_pos h]
      simp only [after, begins, escL_head, ih, h.2]
      simp [h.1]
    · have ih := after_esc a t
      rw [escL, if_neg h]
      simp only [after, begins, escL_head, ih]
      rw [if_neg h, if_neg (fun x => h ⟨x.1, x.2.1⟩)]

/-! ### Go's ReplaceAll at these two texts -/
def dollar : List UInt8 := [36, 123]
theorem occ_iff (l : List UInt8) : (dollar.isPrefixOf l = true) ↔ ∃ t, l = 36 :: 123 :: t := by
  match l with
  | [] =>
    constructor
    · intro h
      simp [dollar] at h
    · rintro ⟨t, h⟩
      cases h
  | [a] =>
    constructor
    · intro h
      simp [dollar] at h
    · rintro ⟨t, h⟩
      cases h
  | a :: b :: t =>
    constructor
    · intro h
      simp only [dollar, List.isPrefixOf, Bool.and_eq_true, beq_iff_eq] at h
      exact ⟨t, by rw [← h.1, ← h.2.1]⟩
    · rintro ⟨u, h⟩
      injection h with h1 h2
      injection h2 with h2 h3
      subst h1 h2
      rfl
theorem head_iff (a : UInt8) (t : List UInt8) : (a = 36 ∧ t.head? = some 123) ↔ ∃ u, a :: t = 36 :: 123 :: u := by
  cases t with
  | nil => simp
  | cons b u => simp

theorem esc_hit (u : List UInt8) : escL (36 :: 123 :: u) = 36 :: 36 :: 123 :: escL u := by
  rw [escL, if_pos (by simp)]
  rw [escL, if_neg (fun h => absurd h.1 (by decide))]
theorem begins_hit (u : List UInt8) : begins (36 :: 123 :: u) = 1 + begins u := by
  rw [begins, if_pos (by simp), begins, if_neg (fun h => absurd h.1 (by decide))]; omega

/-- Ahead of the first instance nothing changes. -/
theorem esc_skip : ∀ (i : Nat) (l : List UInt8), i ≤ l.length → (∀ j, j < i → occAt l dollar j = false) → escL l = l.take i ++ escL (l.drop i) ∧ begins l = begins (l.drop i)
  | 0, l, _, _ => by simp
  | i + 1, [], h, _ => by simp at h
  | i + 1, a :: t, h, hno => by
    have h0 : ¬ (a = 36 ∧ t.head? = some 123) := by
      intro hh
      have := hno 0 (by omega)
      unfold occAt at this
      rw [List.drop_zero] at this
      have h1 := (occ_iff (a :: t)).2 ((head_iff a t).1 hh)
      rw [h1] at this
      cases this
    obtain ⟨e1, e2⟩ := esc_skip i t (by simpa using h) (fun j hj => by
      have := hno (j + 1) (by omega)
      unfold occAt at this ⊢
      simpa using this)
    constructor
    · rw [escL, if_neg h0, e1]; simp
    · rw [begins, if_neg h0, e2]; simp

theorem esc_none (l : List UInt8) (hno : ∀ j, j ≤ l.length → occAt l dollar j = false) : escL l = l ∧ begins l = 0 := by
  obtain ⟨e1, e2⟩ := esc_skip l.length l (Nat.le_refl _) (fun j hj => hno j (by omega))
  rw [e1, e2]
  simp [escL, begins]

theorem hit_form (l : List UInt8) (i : Nat) (ho : occAt l dollar i = true) : l.drop i = 36 :: 123 :: l.drop (i + 2) := by
  unfold occAt at ho
  obtain ⟨t, ht⟩ := (occ_iff _).1 ho
  rw [ht, ← List.drop_drop, ht]
  rfl

/-- Count finds every one. -/
theorem count_begins : ∀ (n : Nat) (l : List UInt8), l.length ≤ n → count l dollar = begins l := by
  intro n
  induction n with
  | zero =>
    intro l hl
    have : l = [] := List.eq_nil_of_length_eq_zero (by omega)
    subst this
    rfl
  | succ n ih =>
    intro l hl
    rcases index_spec l dollar with ⟨hm, hno⟩ | ⟨i, hi, hil, ho, hbef⟩
    · rw [count_miss hm, (esc_none l hno).2]
    · obtain ⟨e1, e2⟩ := esc_skip i l hil hbef
      have hf := hit_form l i ho
      have hlen : (l.drop i).length = l.length - i := List.length_drop
      have hlen2 : (l.drop (i + 2)).length = l.length - (i + 2) := List.length_drop
      have hlen3 : (l.drop i).length = (l.drop (i + 2)).length + 2 := by rw [hf]; rfl
      rw [e2, hf, begins_hit, count_hit (by decide) hi]
      rw [show i + dollar.length = i + 2 from rfl, ih _ (by omega)]

theorem rep_esc : ∀ (n : Nat) (l : List UInt8), l.length ≤ n → replaceK dollar [36, 36, 123] (begins l) l = escL l := by
  intro n
  induction n with
  | zero =>
    intro l hl
    have : l = [] := List.eq_nil_of_length_eq_zero (by omega)
    subst this
    rfl
  | succ n ih =>
    intro l hl
    rcases index_spec l dollar with ⟨hm, hno⟩ | ⟨i, hi, hil, ho, hbef⟩
    · rw [(esc_none l hno).2, (esc_none l hno).1]
      rfl
    · obtain ⟨e1, e2⟩ := esc_skip i l hil hbef
      have hf := hit_form l i ho
      have hlen : (l.drop i).length = l.length - i := List.length_drop
      have hlen2 : (l.drop (i + 2)).length = l.length - (i + 2) := List.length_drop
      have hlen3 : (l.drop i).length = (l.drop (i + 2)).length + 2 := by rw [hf]; rfl
      rw [e1, e2, hf, begins_hit, esc_hit]
      rw [show 1 + begins (l.drop (i + 2)) = begins (l.drop (i + 2)) + 1 from Nat.add_comm _ _, replaceK_hit _ _ _ _ i hi]
      rw [show i + dollar.length = i + 2 from rfl, ih _ (by omega)]
      simp

theorem replaceAll_esc (l : List UInt8) : replaceAll l dollar [36, 36, 123] = escL l := by
  unfold replaceAll replace
  rw [if_neg (by decide)]
  have : replaceNum l dollar (-1) = begins l := by
    unfold replaceNum
    rw [if_pos (.inl (by omega)), count_begins _ l (Nat.le_refl _)]
  rw [this, rep_esc _ l (Nat.le_refl _)]

end Go.Proofs.YtnhnondljackmaaDoor.utf
