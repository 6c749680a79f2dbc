/- Plain facts on literals as lists of bytes: what each byte becomes in a literal, what an item stands for, and that reading restores what was written. -/
import Derived.Lib.MapLaws
import Derived.Lib.ValidLaws
import Derived.Lib.RuneCountTail
import Derived.Lib.Small
namespace Go.Proofs.YthekabflbpfjoaaGreatDoor.lit
open Go.Lib

/-! ### validity and length, list by list -/
/-- The code point at the head is wrongly encoded. -/
def wrong (l : List UInt8) : Prop := (decodeL l).1 = 65533 ∧ (decodeL l).2 = 1
instance (l : List UInt8) : Decidable (wrong l) := by unfold wrong; exact inferInstance

theorem count_step (s : ByteArray) (k : Nat) (h : k < s.size) : runeCountFrom s (s.size - k) k = 1 + runeCountFrom s (s.size - (k + (Utf8.decode s k).2)) (k + (Utf8.decode s k).2) := by
  have hw := decode_width_pos s k h
  obtain ⟨n, hn⟩ : ∃ n, s.size - k = n + 1 := ⟨s.size - k - 1, by omega⟩
  rw [hn, runeCountFrom, if_pos h]
  rw [fuel_enough s n (s.size - (k + (Utf8.decode s k).2)) _ (by omega) (by omega)]

/-- How many code points. -/
def lenL (l : List UInt8) : Nat := runeCountL l
theorem lenL_nil : lenL [] = 0 := rfl
theorem lenL_from (s : ByteArray) (k : Nat) : lenL (s.data.toList.drop k) = runeCountFrom s (s.size - k) k := by
  have e : (⟨(s.data.toList.drop k).toArray⟩ : ByteArray) = s.extract k s.size := by
    apply ByteArray.ext
    apply Array.ext'
    simp
    rw [List.take_of_length_le (by simp)]
  unfold lenL runeCountL
  rw [e]
  unfold runeCount
  rw [tail_size, tail_count, Nat.add_zero]
theorem lenL_step (l : List UInt8) (hne : l ≠ []) : lenL l = 1 + lenL (l.drop (decodeL l).2) := by
  have hl : 0 < l.length := List.length_pos_iff.2 hne
  have hs : (⟨l.toArray⟩ : ByteArray).size = l.length := by simp [ByteArray.size]
  have h0 := count_step ⟨l.toArray⟩ 0 (by omega)
  have h1 := lenL_from ⟨l.toArray⟩ 0
  have h2 := lenL_from ⟨l.toArray⟩ (decodeL l).2
  simp only [List.drop_zero] at h1 h2
  rw [h1, h0, h2]
  show 1 + runeCountFrom _ (_ - (0 + (decodeL l).2)) (0 + (decodeL l).2) = _
  rw [Nat.zero_add]

/-- The bytes of a right code point decide it. -/
theorem decode_same (a b : List UInt8) (hne : a ≠ []) (h : ¬ wrong a) (hl : (decodeL a).2 ≤ b.length) (g : ∀ j, j < (decodeL a).2 → b.getD j 0 = a.getD j 0) : decodeL b = decodeL a := by
  have hla : 0 < a.length := List.length_pos_iff.2 hne
  unfold wrong at h
  rw [decodeL_N] at h hl g
  rw [decodeL_N, decodeL_N]
  rcases decodeN_shape a.length (a.getD 0 0).toNat (a.getD 1 0).toNat (a.getD 2 0).toNat (a.getD 3 0).toNat with ⟨c, e⟩ | ⟨c1, c2, c3, cv, e⟩ | ⟨c1, c2, c3, c4, cv, cs, e⟩ | ⟨c1, c2, c3, c4, c5, cv, cw, e⟩ | e
  · rw [e] at g
    rw [e, g 0 (by simp)]
    simp only [decodeN, if_pos c]
  · rw [e] at g hl
    rw [e, g 0 (by simp), g 1 (by simp)]
    have c0 : ¬ (a.getD 0 0).toNat < 128 := by omega
    simp only [decodeN, if_neg c0]
    rw [if_pos ⟨c1, hl, c3⟩, if_pos cv]
  · rw [e] at g hl
    rw [e, g 0 (by simp), g 1 (by simp), g 2 (by simp)]
    have c0 : ¬ (a.getD 0 0).toNat < 128 := by omega
    have c6 : ¬ ((a.getD 0 0).toNat / 32 = 6 ∧ (1 < b.length ∧ (a.getD 1 0).toNat / 64 = 2)) := by omega
    have hb := (a.getD 0 0).toNat_lt
    simp only at hl
    simp only [decodeN, if_neg c0]
    rw [if_neg c6, if_pos ⟨c1, ⟨by omega, c3⟩, hl, c4⟩, if_pos ⟨cv, by omega⟩]
  · rw [e] at g hl
    rw [e, g 0 (by simp), g 1 (by simp), g 2 (by simp), g 3 (by simp)]
    have c0 : ¬ (a.getD 0 0).toNat < 128 := by omega
    have c6 : ¬ ((a.getD 0 0).toNat / 32 = 6 ∧ (1 < b.length ∧ (a.getD 1 0).toNat / 64 = 2)) := by omega
    have c7 : ¬ ((a.getD 0 0).toNat / 16 = 14 ∧ (1 < b.length ∧ (a.getD 1 0).toNat / 64 = 2) ∧ (2 < b.length ∧ (a.getD 2 0).toNat / 64 = 2)) := by omega
    simp only at hl
    simp only [decodeN, if_neg c0]
    rw [if_neg c6, if_neg c7, if_pos ⟨c1, ⟨by omega, c3⟩, ⟨by omega, c4⟩, hl, c5⟩, if_pos ⟨cv, by omega⟩]
  · rw [e] at h
    exact absurd ⟨rfl, rfl⟩ h
/-- What follows a right code point does not change it. -/
theorem decode_app (a b : List UInt8) (hne : a ≠ []) (h : ¬ wrong a) : decodeL (a ++ b) = decodeL a := by
  have hle := decodeL_le a hne
  refine decode_same a (a ++ b) hne h (by rw [List.length_append]; omega) fun j hj => ?_
  simp [List.getD, List.getElem?_append_left (show j < a.length by omega)]
/-- A code point above 127 has bytes above 127 alone. -/
theorem high_bytes (l : List UInt8) (h : ¬ wrong l) (h0 : 128 ≤ (l.getD 0 0).toNat) : 128 ≤ (decodeL l).1 ∧ ∀ j, j < (decodeL l).2 → 128 ≤ (l.getD j 0).toNat := by
  unfold wrong at h
  rw [decodeL_N] at h ⊢
  rcases decodeN_shape l.length (l.getD 0 0).toNat (l.getD 1 0).toNat (l.getD 2 0).toNat (l.getD 3 0).toNat with ⟨c, e⟩ | ⟨c1, c2, c3, cv, e⟩ | ⟨c1, c2, c3, c4, cv, cs, e⟩ | ⟨c1, c2, c3, c4, c5, cv, cw, e⟩ | e
  · omega
  · rw [e]
    refine ⟨cv, fun j hj => ?_⟩
    match j, hj with
    | 0, _ => exact h0
    | 1, _ => omega
  · rw [e]
    refine ⟨by simp only; omega, fun j hj => ?_⟩
    match j, hj with
    | 0, _ => exact h0
    | 1, _ => omega
    | 2, _ => omega
  · rw [e]
    refine ⟨by simp only; omega, fun j hj => ?_⟩
    match j, hj with
    | 0, _ => exact h0
    | 1, _ => omega
    | 2, _ => omega
    | 3, _ => omega
  · rw [e] at h
    exact absurd ⟨rfl, rfl⟩ h

theorem drop_app (a b : List UInt8) (k : Nat) (h : k ≤ a.length) : (a ++ b).drop k = a.drop k ++ b := List.drop_append_of_le_length h

theorem join_both : ∀ (n : Nat) (a b : List UInt8), a.length ≤ n → validD a = true → validD (a ++ b) = validD b ∧ lenL (a ++ b) = lenL a + lenL b := by
  intro n
  induction n with
  | zero =>
    intro a b hl _
    have : a = [] := List.eq_nil_of_length_eq_zero (by omega)
    subst this
    simp [lenL_nil]
  | succ n ih =>
    intro a b hl hv
    by_cases hne : a = []
    · subst hne; simp [lenL_nil]
    · rw [validD_step a hne] at hv
      have hw : ¬ wrong a := by
        intro hw
        unfold wrong at hw
        rw [if_pos hw] at hv
        cases hv
      have hw' := hw
      unfold wrong at hw'
      rw [if_neg hw'] at hv
      have hd := decode_app a b hne hw
      have hle := decodeL_le a hne
      have hge := decodeL_width a
      have hne2 : a ++ b ≠ [] := by simp [hne]
      obtain ⟨i1, i2⟩ := ih (a.drop (decodeL a).2) b (by rw [List.length_drop]; omega) hv
      constructor
      · rw [validD_step _ hne2, hd, if_neg hw', drop_app a b _ hle, i1]
      · rw [lenL_step _ hne2, hd, drop_app a b _ hle, i2, lenL_step a hne]; omega
theorem join_valid (a b : List UInt8) (ha : validD a = true) : validD (a ++ b) = validD b := (join_both _ a b (Nat.le_refl _) ha).1
theorem join_len (a b : List UInt8) (ha : validD a = true) : lenL (a ++ b) = lenL a + lenL b := (join_both _ a b (Nat.le_refl _) ha).2

/-! ### writing -/
/-- A hexadecimal digit's byte. -/
def hexd (n : Nat) : UInt8 := if n < 10 then UInt8.ofNat (48 + n) else UInt8.ofNat (87 + n)
/-- A byte's number in hexadecimal, without leading zeros. -/
def hexs (n : Nat) : List UInt8 := if n < 16 then [hexd n] else [hexd (n / 16), hexd (n % 16)]
/-- The form of a byte in a literal. -/
def form (c : UInt8) : List UInt8 :=
  if c = 10 then [92, 110] else if c = 13 then [92, 114] else if c = 9 then [92, 116]
  else if c = 34 ∨ c = 92 then [92, c]
  else if c.toNat < 32 ∨ c.toNat = 127 then [92, 117, 123] ++ hexs c.toNat ++ [125]
  else [c]
def forms (l : List UInt8) : List UInt8 := l.flatMap form
/-- The literal. -/
def quoteL (l : List UInt8) : List UInt8 := 34 :: (forms l ++ [34])

theorem forms_nil : forms [] = [] := rfl
theorem forms_cons (c : UInt8) (l : List UInt8) : forms (c :: l) = form c ++ forms l := rfl
theorem forms_snoc (l : List UInt8) (c : UInt8) : forms (l ++ [c]) = forms l ++ form c := by simp [forms]
theorem forms_app (a b : List UInt8) : forms (a ++ b) = forms a ++ forms b := by simp [forms]
theorem form_len : ∀ c : UInt8, 1 ≤ (form c).length ∧ (form c).length ≤ 6 := by
  intro c
  unfold form hexs
  repeat' split
  all_goals simp
theorem forms_len (l : List UInt8) : l.length ≤ (forms l).length ∧ (forms l).length ≤ 6 * l.length := by
  induction l with
  | nil => simp [forms]
  | cons c t ih =>
    have := form_len c
    rw [forms_cons, List.length_append, List.length_cons]
    omega

/-- A byte that may stand in a literal. -/
def plain (c : UInt8) : Bool := decide (32 ≤ c.toNat) && !(c == 127)
set_option maxRecDepth 100000 in
theorem form_plain256 : ∀ n : Fin 256, (form (UInt8.ofNat n.val)).all plain = true := by decide +kernel
theorem form_plain (c : UInt8) : (form c).all plain = true := by
  have := form_plain256 ⟨c.toNat, c.toNat_lt⟩
  simpa using this
theorem forms_plain (l : List UInt8) : (forms l).all plain = true := by
  induction l with
  | nil => rfl
  | cons c t ih => rw [forms_cons, List.all_append, form_plain, ih]; rfl
theorem quote_plain (l : List UInt8) : (quoteL l).all plain = true := by
  unfold quoteL
  rw [List.all_cons, List.all_append, forms_plain]
  rfl
theorem quote_len (l : List UInt8) : l.length + 2 ≤ (quoteL l).length ∧ (quoteL l).length ≤ 6 * l.length + 2 := by
  have := forms_len l
  unfold quoteL
  rw [List.length_cons, List.length_append, List.length_singleton]
  omega

/-! ### reading -/
/-- A hexadecimal digit of an escape. -/
def isHex (c : UInt8) : Bool := (decide (48 ≤ c.toNat) && decide (c.toNat ≤ 57)) || (decide (97 ≤ c.toNat) && decide (c.toNat ≤ 102))
def hexVal (c : UInt8) : Nat := if c.toNat ≤ 57 then c.toNat - 48 else c.toNat - 87
/-- How many digits stand at the head, at most n. -/
def digs : Nat → List UInt8 → Nat
  | 0, _ => 0
  | _ + 1, [] => 0
  | n + 1, c :: t => if isHex c then 1 + digs n t else 0
def hval (l : List UInt8) : Nat := l.foldl (fun v c => 16 * v + hexVal c) 0

/-- The number of the byte at place j (0 beyond the end). -/
def bt (l : List UInt8) (j : Nat) : Nat := (l.getD j 0).toNat

/-- What an item stands for, its number of bytes, the error. -/
structure It where
  r : Int
  k : Int
  e : Int

/-- The escape with a number, of which the digits at the head of l's fourth byte are n. -/
def numAt (l : List UInt8) (n : Nat) : It :=
  if l.length = 3 + n then ⟨0, 0, 40⟩
  else if ¬ bt l (3 + n) = 125 ∨ n = 0 ∨ (1 < n ∧ bt l 3 = 48) ∨ validRune (hval ((l.drop 3).take n)) = false then ⟨0, 0, 2⟩
  else ⟨hval ((l.drop 3).take n), (n : Int) + 4, 0⟩
def num (l : List UInt8) : It :=
  if l.length = 2 then ⟨0, 0, 40⟩
  else if ¬ bt l 2 = 123 then ⟨0, 0, 2⟩
  else numAt l (digs 6 (l.drop 3))
def esc (l : List UInt8) : It :=
  if l.length = 1 then ⟨0, 0, 40⟩
  else if bt l 1 = 110 then ⟨10, 2, 0⟩
  else if bt l 1 = 114 then ⟨13, 2, 0⟩
  else if bt l 1 = 116 then ⟨9, 2, 0⟩
  else if bt l 1 = 34 ∨ bt l 1 = 92 then ⟨(bt l 1 : Int), 2, 0⟩
  else if bt l 1 = 117 then num l
  else ⟨0, 0, 2⟩
def ctl (r : Nat) : Prop := r < 32 ∨ r = 127
instance (r : Nat) : Decidable (ctl r) := by unfold ctl; exact inferInstance
def item (l : List UInt8) : It :=
  if bt l 0 = 92 then esc l
  else if ctl (decodeL l).1 ∨ wrong l then ⟨0, 0, 2⟩
  else ⟨((decodeL l).1 : Int), ((decodeL l).2 : Int), 0⟩

theorem digs_le : ∀ (n : Nat) (l : List UInt8), digs n l ≤ n ∧ digs n l ≤ l.length
  | 0, _ => by simp [digs]
  | n + 1, [] => by simp [digs]
  | n + 1, c :: t => by
    have := digs_le n t
    unfold digs
    split <;> simp only [List.length_cons] <;> omega
theorem hexVal_lt : ∀ c : UInt8, isHex c = true → hexVal c < 16 := by
  intro c h
  unfold isHex at h
  unfold hexVal
  simp only [Bool.or_eq_true, Bool.and_eq_true, decide_eq_true_eq] at h
  split <;> omega
theorem hval_snoc (l : List UInt8) (c : UInt8) : hval (l ++ [c]) = 16 * hval l + hexVal c := by simp [hval]
theorem hval_nil : hval [] = 0 := rfl

theorem num_size (l : List UInt8) (h2 : 2 ≤ l.length) (h : (num l).e = 0) : 1 ≤ (num l).k ∧ (num l).k ≤ l.length := by
  have hd := digs_le 6 (l.drop 3)
  have hdl : (l.drop 3).length = l.length - 3 := List.length_drop
  revert h
  unfold num
  split
  · intro h; cases h
  split
  · intro h; cases h
  unfold numAt
  split
  · intro h; cases h
  split
  · intro h; cases h
  rename_i h2' h3 h4 h5
  intro _
  simp only
  omega
theorem esc_size (l : List UInt8) (h1 : 1 ≤ l.length) (h : (esc l).e = 0) : 1 ≤ (esc l).k ∧ (esc l).k ≤ l.length := by
  revert h
  unfold esc
  split
  · intro h; cases h
  repeat' split
  all_goals first
    | (intro _; simp only; omega)
    | (intro h; exact num_size l (by omega) h)
    | (intro h; cases h)
/-- An item has at least one byte, and no more than there are. -/
theorem item_size (l : List UInt8) (hne : l ≠ []) (h : (item l).e = 0) : 1 ≤ (item l).k ∧ (item l).k ≤ l.length := by
  have hl : 0 < l.length := List.length_pos_iff.2 hne
  have hle := decodeL_le l hne
  have hge := decodeL_width l
  revert h
  unfold item
  split
  · intro h; exact esc_size l hl h
  split
  · intro h; cases h
  · intro _; simp only; omega

/-- Reading on behind the quote: p bytes are read, acc is the text so far. -/
def unqGo (l : List UInt8) (p : Nat) (acc : List UInt8) : List UInt8 × Int × Int :=
  match l with
  | [] => ([], 0, 40)
  | c :: t =>
    if c.toNat = 34 then (if 4096 < acc.length then ([], 0, 3) else (acc, (p : Int) + 1, 0))
    else if ¬ (item (c :: t)).e = 0 then ([], 0, (item (c :: t)).e)
    else unqGo (t.drop ((item (c :: t)).k.toNat - 1)) (p + (item (c :: t)).k.toNat) (acc ++ encodeRune (item (c :: t)).r)
termination_by l.length
decreasing_by simp only [List.length_drop, List.length_cons]; omega

/-- What Unquote returns. -/
def unq (l : List UInt8) : List UInt8 × Int × Int :=
  if l = [] then ([], 0, 40) else if ¬ bt l 0 = 34 then ([], 0, 2) else unqGo (l.drop 1) 1 []

theorem unqGo_nil (p : Nat) (acc : List UInt8) : unqGo [] p acc = ([], 0, 40) := by rw [unqGo]
theorem unqGo_quote (l : List UInt8) (p : Nat) (acc : List UInt8) (hne : l ≠ []) (h : bt l 0 = 34) : unqGo l p acc = if 4096 < acc.length then ([], 0, 3) else (acc, (p : Int) + 1, 0) := by
  cases l with
  | nil => exact absurd rfl hne
  | cons c t =>
    rw [unqGo, if_pos (show c.toNat = 34 from h)]
theorem unqGo_bad (l : List UInt8) (p : Nat) (acc : List UInt8) (hne : l ≠ []) (h : ¬ bt l 0 = 34) (he : ¬ (item l).e = 0) : unqGo l p acc = ([], 0, (item l).e) := by
  cases l with
  | nil => exact absurd rfl hne
  | cons c t =>
    rw [unqGo, if_neg (show ¬ c.toNat = 34 from h), if_pos he]
theorem unqGo_step (l : List UInt8) (p : Nat) (acc : List UInt8) (hne : l ≠ []) (h : ¬ bt l 0 = 34) (he : (item l).e = 0) :
    unqGo l p acc = unqGo (l.drop (item l).k.toNat) (p + (item l).k.toNat) (acc ++ encodeRune (item l).r) := by
  have hs := item_size l hne he
  cases l with
  | nil => exact absurd rfl hne
  | cons c t =>
    rw [unqGo, if_neg (show ¬ c.toNat = 34 from h), if_neg (fun x => x he)]
    obtain ⟨n, hn⟩ : ∃ n, (item (c :: t)).k.toNat = n + 1 := ⟨(item (c :: t)).k.toNat - 1, by omega⟩
    rw [hn]
    rfl

/-! ### back -/
theorem hexd_hex : ∀ n : Fin 16, isHex (hexd n.val) = true ∧ hexVal (hexd n.val) = n.val ∧ ((hexd n.val).toNat = 48 ↔ n.val = 0) := by decide +kernel
theorem digs_one (a : UInt8) (rest : List UInt8) (ha : isHex a = true) : digs 6 (a :: 125 :: rest) = 1 := by
  rw [digs, if_pos ha, digs, if_neg (by decide)]
theorem digs_two (a b : UInt8) (rest : List UInt8) (ha : isHex a = true) (hb : isHex b = true) : digs 6 (a :: b :: 125 :: rest) = 2 := by
  rw [digs, if_pos ha, digs, if_pos hb, digs, if_neg (by decide)]

/-- Any byte below 128 but the ones that a literal does not bear: read back from its form. -/
theorem item_form (c : UInt8) (rest : List UInt8) (hc : c.toNat < 128) : item (form c ++ rest) = ⟨(c.toNat : Int), ((form c).length : Int), 0⟩ := by
  unfold form
  split
  · subst c; simp [item, bt, esc]
  split
  · subst c; simp [item, bt, esc]
  split
  · subst c; simp [item, bt, esc]
  split
  · rename_i h; rcases h with rfl | rfl <;> simp [item, bt, esc]
  rename_i h10 h13 h9 h34
  split
  · rename_i hx
    have hv : validRune ((c.toNat : Nat) : Int) = true := by
      unfold validRune
      rw [decide_eq_true_eq]
      omega
    unfold hexs
    split
    · rename_i h16
      have hh := hexd_hex ⟨c.toNat, h16⟩
      simp only at hh
      have e : ([92, 117, 123] ++ [hexd c.toNat] ++ [125] ++ rest : List UInt8) = 92 :: 117 :: 123 :: hexd c.toNat :: 125 :: rest := by simp
      rw [e]
      have hd := digs_one (hexd c.toNat) rest hh.1
      have hvv : hval [hexd c.toNat] = c.toNat := by simp [hval, hh.2.1]
      simp [item, bt, esc, num, numAt, hd, hvv, hv]
    · rename_i h16
      have hh1 := hexd_hex ⟨c.toNat / 16, by omega⟩
      have hh2 := hexd_hex ⟨c.toNat % 16, by omega⟩
      simp only at hh1 hh2
      have e : ([92, 117, 123] ++ [hexd (c.toNat / 16), hexd (c.toNat % 16)] ++ [125] ++ rest : List UInt8) = 92 :: 117 :: 123 :: hexd (c.toNat / 16) :: hexd (c.toNat % 16) :: 125 :: rest := by simp
      rw [e]
      have hd := digs_two (hexd (c.toNat / 16)) (hexd (c.toNat % 16)) rest hh1.1 hh2.1
      have hvv : hval [hexd (c.toNat / 16), hexd (c.toNat % 16)] = c.toNat := by simp [hval, hh1.2.1, hh2.2.1]; omega
      have hz : ¬ (hexd (c.toNat / 16)).toNat = 48 := fun x => by have := hh1.2.2.1 x; omega
      simp [item, bt, esc, num, numAt, hd, hvv, hv, hz]
  · rename_i hx
    have h92 : ¬ bt ([c] ++ rest) 0 = 92 := by
      intro h
      apply h34
      right
      exact UInt8.toNat_inj.1 (show c.toNat = (92 : UInt8).toNat from h)
    have hd : decodeL ([c] ++ rest) = (c.toNat, 1) := decodeL_ascii c rest hc
    unfold item
    rw [if_neg h92, hd, if_neg]
    · rfl
    · unfold ctl wrong
      rw [hd]
      simp only
      omega
theorem form_quote (c : UInt8) (rest : List UInt8) : ¬ bt (form c ++ rest) 0 = 34 := by
  unfold form
  repeat' split
  all_goals simp [bt]
  rename_i h _
  intro hx
  apply h
  left
  exact UInt8.toNat_inj.1 (show c.toNat = (34 : UInt8).toNat from hx)
theorem encode_ascii (c : UInt8) (hc : c.toNat < 128) : encodeRune (c.toNat : Int) = [c] := by
  unfold encodeRune
  rw [encodeRuneZ_one (by omega) (by omega)]
  simp
theorem forms_high : ∀ l : List UInt8, (∀ j, j < l.length → 128 ≤ (l.getD j 0).toNat) → forms l = l
  | [], _ => rfl
  | c :: t, h => by
    have h0 : 128 ≤ c.toNat := h 0 (by simp)
    rw [forms_cons, forms_high t (fun j hj => by have := h (j + 1) (by simpa using hj); simpa using this)]
    unfold form
    have g : ∀ d : UInt8, d.toNat < 128 → c ≠ d := fun d hd e => by rw [e] at h0; omega
    rw [if_neg (g 10 (by decide)), if_neg (g 13 (by decide)), if_neg (g 9 (by decide)), if_neg (fun x => x.elim (g 34 (by decide)) (g 92 (by decide))), if_neg (by omega)]
    rfl

theorem back_go : ∀ (n : Nat) (l more : List UInt8) (p : Nat) (acc : List UInt8), l.length ≤ n → validD l = true →
    unqGo (forms l ++ 34 :: more) p acc = unqGo (34 :: more) (p + (forms l).length) (acc ++ l) := by
  intro n
  induction n with
  | zero =>
    intro l more p acc hl _
    have : l = [] := List.eq_nil_of_length_eq_zero (by omega)
    subst this
    simp [forms]
  | succ n ih =>
    intro l more p acc hl hv
    by_cases hne : l = []
    · subst hne; simp [forms]
    have hlen : 0 < l.length := List.length_pos_iff.2 hne
    rw [validD_step l hne] at hv
    have hw : ¬ wrong l := by
      intro hw
      unfold wrong at hw
      rw [if_pos hw] at hv
      cases hv
    have hw' := hw
    unfold wrong at hw'
    rw [if_neg hw'] at hv
    have hle := decodeL_le l hne
    have hge := decodeL_width l
    by_cases h0 : bt l 0 < 128
    · cases l with
      | nil => exact absurd rfl hne
      | cons c t =>
        have hc : c.toNat < 128 := h0
        have hd := decodeL_ascii c t hc
        rw [hd] at hv
        have hit := item_form c (forms t ++ 34 :: more) hc
        have hn2 : form c ++ (forms t ++ 34 :: more) ≠ [] := by simp
        rw [forms_cons, List.append_assoc, unqGo_step _ p acc hn2 (form_quote _ _) (by rw [hit]), hit]
        simp only [Int.toNat_natCast]
        rw [List.drop_left, encode_ascii c hc, ih t more _ _ (by simpa using hl) (by simpa using hv), List.length_append, List.append_assoc, Nat.add_assoc]
        rfl
    · have hb := high_bytes l hw (by unfold bt at h0; omega)
      have hen := encode_decode l hne hw'
      obtain ⟨k, hk⟩ : ∃ k, (decodeL l).2 = k := ⟨_, rfl⟩
      obtain ⟨r, hr⟩ : ∃ r, (decodeL l).1 = r := ⟨_, rfl⟩
      rw [hk] at hv hle hge hb hen
      rw [hr] at hb hen
      have ht : (l.take k).length = k := by rw [List.length_take]; omega
      have hgt : ∀ j, j < k → (l.take k).getD j 0 = l.getD j 0 := fun j hj => by simp [List.getD, hj]
      have hf : forms (l.take k) = l.take k := forms_high _ fun j hj => by rw [hgt j (by omega)]; exact hb.2 j (by omega)
      have hsplit : forms l = l.take k ++ forms (l.drop k) := by
        have h := forms_app (l.take k) (l.drop k)
        rw [List.take_append_drop, hf] at h
        exact h
      have hdd : decodeL (l.take k ++ (forms (l.drop k) ++ 34 :: more)) = decodeL l := by
        refine decode_same l _ hne hw ?_ fun j hj => ?_
        · rw [hk, List.length_append]; omega
        · rw [hk] at hj
          rw [← hgt j hj]
          simp [List.getD, List.getElem?_append_left (show j < (l.take k).length by omega)]
      have hn2 : l.take k ++ (forms (l.drop k) ++ 34 :: more) ≠ [] := by simp
      have hbt : bt (l.take k ++ (forms (l.drop k) ++ 34 :: more)) 0 = bt l 0 := by
        unfold bt
        rw [← hgt 0 (by omega)]
        simp [List.getD, List.getElem?_append_left (show 0 < (l.take k).length by omega)]
      have hit : item (l.take k ++ (forms (l.drop k) ++ 34 :: more)) = ⟨(r : Int), (k : Int), 0⟩ := by
        unfold item
        rw [hbt, if_neg (by omega), hdd, if_neg]
        · rw [hr, hk]
        · unfold ctl wrong
          rw [hdd, hr, hk]
          rw [hr, hk] at hw'
          omega
      rw [hsplit, List.append_assoc, unqGo_step _ p acc hn2 (by rw [hbt]; omega) (by rw [hit]), hit]
      simp only [Int.toNat_natCast]
      have hdl : (l.take k ++ (forms (l.drop k) ++ 34 :: more)).drop k = forms (l.drop k) ++ 34 :: more := by
        rw [List.drop_append_of_le_length (by omega), List.drop_of_length_le (by omega)]; rfl
      rw [hdl, hen, ih _ more _ _ (by rw [List.length_drop]; omega) hv, List.length_append, List.append_assoc, List.take_append_drop, ht, Nat.add_assoc]

/-- Reading restores a valid string from its literal, whatever follows. -/
theorem unq_quote (l more : List UInt8) (hv : validD l = true) (hl : l.length ≤ 4096) : unq (quoteL l ++ more) = (l, ((quoteL l).length : Int), 0) := by
  unfold unq
  rw [if_neg (by simp [quoteL]), if_neg (fun x => x (by simp [quoteL, bt]))]
  have e : (quoteL l ++ more).drop 1 = forms l ++ 34 :: more := by simp [quoteL]
  rw [e, back_go _ l more 1 [] (Nat.le_refl _) hv, unqGo_quote _ _ _ (by simp) (by simp [bt])]
  rw [if_neg (by simp; omega)]
  simp only [List.nil_append, Prod.mk.injEq, and_true, true_and]
  unfold quoteL
  rw [List.length_cons, List.length_append, List.length_singleton]
  omega

end Go.Proofs.YthekabflbpfjoaaGreatDoor.lit
