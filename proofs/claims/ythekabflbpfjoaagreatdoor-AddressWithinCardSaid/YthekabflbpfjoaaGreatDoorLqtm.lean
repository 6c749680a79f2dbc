/- Plain facts on literals as lists of bytes: what each byte becomes in a literal, what an item stands for, and that reading restores what was written; What the library's calls need of the world, what a call leaves of it, and the small functions of package strlit; Rows of bytes that a call owns: what append does to them; strconv.AppendInt at base 16, for a byte's number: the digits go in behind what the row holds; Quote of package strlit: what it returns for any bytes. -/
import Derived.Lib.MapLaws
import Derived.Lib.ValidLaws
import Derived.Lib.RuneCountTail
import Derived.Lib.Small
import Derived.Test.YthekabflbpfjoaaGreatDoorShelf
import Derived.WalkKit
import Derived.WalkSpells
import Derived.WalkLawsBesides
import Derived.Handy
import Derived.Lib.Hide
import Derived.BigQuiet
import Derived.Deep.QuietTactic
import Derived.OwnWalk
import Derived.Lib.AppendStr
import Derived.Lib.SmallJoins
import Derived.Laws.IdiomStrings
import Derived.Laws.BytesArg
namespace Go.Proofs.YthekabflbpfjoaaGreatDoor.lit
open Go.Lib

/-! ### validity and length, list by list -/
/-- The code point at the head is wrongly encoded. -/
def wrong (l : List UInt8) : Prop := (decodeL l).1 = 65533 ∧ (decodeL l).2 = 1
instance (l : List UInt8) : Decidable (wrong l) := by unfold wrong; exact inferInstance

theorem count_step (s : ByteArray) (k : Nat) (h : k < s.size) : runeCountFrom s (s.size - k) k = 1 + runeCountFrom s (s.size - (k + (Utf8.decode s k).2)) (k + (Utf8.decode s k).2) := by
  have hw := decode_width_pos s k h
  obtain ⟨n, hn⟩ : ∃ n, s.size - k = n + 1 := ⟨s.size - k - 1, by omega⟩
  rw [hn, runeCountFrom, if_pos h]
  rw [fuel_enough s n (s.size - (k + (Utf8.decode s k).2)) _ (by omega) (by omega)]

/-- How many code points. -/
def lenL (l : List UInt8) : Nat := runeCountL l
theorem lenL_nil : lenL [] = 0 := rfl
theorem lenL_from (s : ByteArray) (k : Nat) : lenL (s.data.toList.drop k) = runeCountFrom s (s.size - k) k := by
  have e : (⟨(s.data.toList.drop k).toArray⟩ : ByteArray) = s.extract k s.size := by
    apply ByteArray.ext
    apply Array.ext'
    simp
    rw [List.take_of_length_le (by simp)]
  unfold lenL runeCountL
  rw [e]
  unfold runeCount
  rw [tail_size, tail_count, Nat.add_zero]
theorem lenL_step (l : List UInt8) (hne : l ≠ []) : lenL l = 1 + lenL (l.drop (decodeL l).2) := by
  have hl : 0 < l.length := List.length_pos_iff.2 hne
  have hs : (⟨l.toArray⟩ : ByteArray).size = l.length := by simp [ByteArray.size]
  have h0 := count_step ⟨l.toArray⟩ 0 (by omega)
  have h1 := lenL_from ⟨l.toArray⟩ 0
  have h2 := lenL_from ⟨l.toArray⟩ (decodeL l).2
  simp only [List.drop_zero] at h1 h2
  rw [h1, h0, h2]
  show 1 + runeCountFrom _ (_ - (0 + (decodeL l).2)) (0 + (decodeL l).2) = _
  rw [Nat.zero_add]

/-- The bytes of a right code point decide it. -/
theorem decode_same (a b : List UInt8) (hne : a ≠ []) (h : ¬ wrong a) (hl : (decodeL a).2 ≤ b.length) (g : ∀ j, j < (decodeL a).2 → b.getD j 0 = a.getD j 0) : decodeL b = decodeL a := by
  have hla : 0 < a.length := List.length_pos_iff.2 hne
  unfold wrong at h
  rw [decodeL_N] at h hl g
  rw [decodeL_N, decodeL_N]
  rcases decodeN_shape a.length (a.getD 0 0).toNat (a.getD 1 0).toNat (a.getD 2 0).toNat (a.getD 3 0).toNat with ⟨c, e⟩ | ⟨c1, c2, c3, cv, e⟩ | ⟨c1, c2, c3, c4, cv, cs, e⟩ | ⟨c1, c2, c3, c4, c5, cv, cw, e⟩ | e
  · rw [e] at g
    rw [e, g 0 (by simp)]
    simp only [decodeN, if_pos c]
  · rw [e] at g hl
    rw [e, g 0 (by simp), g 1 (by simp)]
    have c0 : ¬ (a.getD 0 0).toNat < 128 := by omega
    simp only [decodeN, if_neg c0]
    rw [if_pos ⟨c1, hl, c3⟩, if_pos cv]
  · rw [e] at g hl
    rw [e, g 0 (by simp), g 1 (by simp), g 2 (by simp)]
    have c0 : ¬ (a.getD 0 0).toNat < 128 := by omega
    have c6 : ¬ ((a.getD 0 0).toNat / 32 = 6 ∧ (1 < b.length ∧ (a.getD 1 0).toNat / 64 = 2)) := by omega
    have hb := (a.getD 0 0).toNat_lt
    simp only at hl
    simp only [decodeN, if_neg c0]
    rw [if_neg c6, if_pos ⟨c1, ⟨by omega, c3⟩, hl, c4⟩, if_pos ⟨cv, by omega⟩]
  · rw [e] at g hl
    rw [e, g 0 (by simp), g 1 (by simp), g 2 (by simp), g 3 (by simp)]
    have c0 : ¬ (a.getD 0 0).toNat < 128 := by omega
    have c6 : ¬ ((a.getD 0 0).toNat / 32 = 6 ∧ (1 < b.length ∧ (a.getD 1 0).toNat / 64 = 2)) := by omega
    have c7 : ¬ ((a.getD 0 0).toNat / 16 = 14 ∧ (1 < b.length ∧ (a.getD 1 0).toNat / 64 = 2) ∧ (2 < b.length ∧ (a.getD 2 0).toNat / 64 = 2)) := by omega
    simp only at hl
    simp only [decodeN, if_neg c0]
    rw [if_neg c6, if_neg c7, if_pos ⟨c1, ⟨by omega, c3⟩, ⟨by omega, c4⟩, hl, c5⟩, if_pos ⟨cv, by omega⟩]
  · rw [e] at h
    exact absurd ⟨rfl, rfl⟩ h
/-- What follows a right code point does not change it. -/
theorem decode_app (a b : List UInt8) (hne : a ≠ []) (h : ¬ wrong a) : decodeL (a ++ b) = decodeL a := by
  have hle := decodeL_le a hne
  refine decode_same a (a ++ b) hne h (by rw [List.length_append]; omega) fun j hj => ?_
  simp [List.getD, List.getElem?_append_left (show j < a.length by omega)]
/-- A code point above 127 has bytes above 127 alone. -/
theorem high_bytes (l : List UInt8) (h : ¬ wrong l) (h0 : 128 ≤ (l.getD 0 0).toNat) : 128 ≤ (decodeL l).1 ∧ ∀ j, j < (decodeL l).2 → 128 ≤ (l.getD j 0).toNat := by
  unfold wrong at h
  rw [decodeL_N] at h ⊢
  rcases decodeN_shape l.length (l.getD 0 0).toNat (l.getD 1 0).toNat (l.getD 2 0).toNat (l.getD 3 0).toNat with ⟨c, e⟩ | ⟨c1, c2, c3, cv, e⟩ | ⟨c1, c2, c3, c4, cv, cs, e⟩ | ⟨c1, c2, c3, c4, c5, cv, cw, e⟩ | e
  · omega
  · rw [e]
    refine ⟨cv, fun j hj => ?_⟩
    match j, hj with
    | 0, _ => exact h0
    | 1, _ => omega
  · rw [e]
    refine ⟨by simp only; omega, fun j hj => ?_⟩
    match j, hj with
    | 0, _ => exact h0
    | 1, _ => omega
    | 2, _ => omega
  · rw [e]
    refine ⟨by simp only; omega, fun j hj => ?_⟩
    match j, hj with
    | 0, _ => exact h0
    | 1, _ => omega
    | 2, _ => omega
    | 3, _ => omega
  · rw [e] at h
    exact absurd ⟨rfl, rfl⟩ h

theorem drop_app (a b : List UInt8) (k : Nat) (h : k ≤ a.length) : (a ++ b).drop k = a.drop k ++ b := List.drop_append_of_le_length h

theorem join_both : ∀ (n : Nat) (a b : List UInt8), a.length ≤ n → validD a = true → validD (a ++ b) = validD b ∧ lenL (a ++ b) = lenL a + lenL b := by
  intro n
  induction n with
  | zero =>
    intro a b hl _
    have : a = [] := List.eq_nil_of_length_eq_zero (by omega)
    subst this
    simp [lenL_nil]
  | succ n ih =>
    intro a b hl hv
    by_cases hne : a = []
    · subst hne; simp [lenL_nil]
    · rw [validD_step a hne] at hv
      have hw : ¬ wrong a := by
        intro hw
        unfold wrong at hw
        rw [if_pos hw] at hv
        cases hv
      have hw' := hw
      unfold wrong at hw'
      rw [if_neg hw'] at hv
      have hd := decode_app a b hne hw
      have hle := decodeL_le a hne
      have hge := decodeL_width a
      have hne2 : a ++ b ≠ [] := by simp [hne]
      obtain ⟨i1, i2⟩ := ih (a.drop (decodeL a).2) b (by rw [List.length_drop]; omega) hv
      constructor
      · rw [validD_step _ hne2, hd, if_neg hw', drop_app a b _ hle, i1]
      · rw [lenL_step _ hne2, hd, drop_app a b _ hle, i2, lenL_step a hne]; omega
theorem join_valid (a b : List UInt8) (ha : validD a = true) : validD (a ++ b) = validD b := (join_both _ a b (Nat.le_refl _) ha).1
theorem join_len (a b : List UInt8) (ha : validD a = true) : lenL (a ++ b) = lenL a + lenL b := (join_both _ a b (Nat.le_refl _) ha).2

/-! ### writing -/
/-- A hexadecimal digit's byte. -/
def hexd (n : Nat) : UInt8 := if n < 10 then UInt8.ofNat (48 + n) else UInt8.ofNat (87 + n)
/-- A byte's number in hexadecimal, without leading zeros. -/
def hexs (n : Nat) : List UInt8 := if n < 16 then [hexd n] else [hexd (n / 16), hexd (n % 16)]
/-- The form of a byte in a literal. -/
def form (c : UInt8) : List UInt8 :=
  if c = 10 then [92, 110] else if c = 13 then [92, 114] else if c = 9 then [92, 116]
  else if c = 34 ∨ c = 92 then [92, c]
  else if c.toNat < 32 ∨ c.toNat = 127 then [92, 117, 123] ++ hexs c.toNat ++ [125]
  else [c]
def forms (l : List UInt8) : List UInt8 := l.flatMap form
/-- The literal. -/
def quoteL (l : List UInt8) : List UInt8 := 34 :: (forms l ++ [34])

theorem forms_nil : forms [] = [] := rfl
theorem forms_cons (c : UInt8) (l : List UInt8) : forms (c :: l) = form c ++ forms l := rfl
theorem forms_snoc (l : List UInt8) (c : UInt8) : forms (l ++ [c]) = forms l ++ form c := by simp [forms]
theorem forms_app (a b : List UInt8) : forms (a ++ b) = forms a ++ forms b := by simp [forms]
theorem form_len : ∀ c : UInt8, 1 ≤ (form c).length ∧ (form c).length ≤ 6 := by
  intro c
  unfold form hexs
  repeat' split
  all_goals simp
theorem forms_len (l : List UInt8) : l.length ≤ (forms l).length ∧ (forms l).length ≤ 6 * l.length := by
  induction l with
  | nil => simp [forms]
  | cons c t ih =>
    have := form_len c
    rw [forms_cons, List.length_append, List.length_cons]
    omega

/-- A byte that may stand in a literal. -/
def plain (c : UInt8) : Bool := decide (32 ≤ c.toNat) && !(c == 127)
set_option maxRecDepth 100000 in
theorem form_plain256 : ∀ n : Fin 256, (form (UInt8.ofNat n.val)).all plain = true := by decide +kernel
theorem form_plain (c : UInt8) : (form c).all plain = true := by
  have := form_plain256 ⟨c.toNat, c.toNat_lt⟩
  simpa using this
theorem forms_plain (l : List UInt8) : (forms l).all plain = true := by
  induction l with
  | nil => rfl
  | cons c t ih => rw [forms_cons, List.all_append, form_plain, ih]; rfl
theorem quote_plain (l : List UInt8) : (quoteL l).all plain = true := by
  unfold quoteL
  rw [List.all_cons, List.all_append, forms_plain]
  rfl
theorem quote_len (l : List UInt8) : l.length + 2 ≤ (quoteL l).length ∧ (quoteL l).length ≤ 6 * l.length + 2 := by
  have := forms_len l
  unfold quoteL
  rw [List.length_cons, List.length_append, List.length_singleton]
  omega

/-! ### reading -/
/-- A hexadecimal digit of an escape. -/
def isHex (c : UInt8) : Bool := (decide (48 ≤ c.toNat) && decide (c.toNat ≤ 57)) || (decide (97 ≤ c.toNat) && decide (c.toNat ≤ 102))
def hexVal (c : UInt8) : Nat := if c.toNat ≤ 57 then c.toNat - 48 else c.toNat - 87
/-- How many digits stand at the head, at most n. -/
def digs : Nat → List UInt8 → Nat
  | 0, _ => 0
  | _ + 1, [] => 0
  | n + 1, c :: t => if isHex c then 1 + digs n t else 0
def hval (l : List UInt8) : Nat := l.foldl (fun v c => 16 * v + hexVal c) 0

/-- The number of the byte at place j (0 beyond the end). -/
def bt (l : List UInt8) (j : Nat) : Nat := (l.getD j 0).toNat

/-- What an item stands for, its number of bytes, the error. -/
structure It where
  r : Int
  k : Int
  e : Int

/-- The escape with a number, of which the digits at the head of l's fourth byte are n. -/
def numAt (l : List UInt8) (n : Nat) : It :=
  if l.length = 3 + n then ⟨0, 0, 40⟩
  else if ¬ bt l (3 + n) = 125 ∨ n = 0 ∨ (1 < n ∧ bt l 3 = 48) ∨ validRune (hval ((l.drop 3).take n)) = false then ⟨0, 0, 2⟩
  else ⟨hval ((l.drop 3).take n), (n : Int) + 4, 0⟩
def num (l : List UInt8) : It :=
  if l.length = 2 then ⟨0, 0, 40⟩
  else if ¬ bt l 2 = 123 then ⟨0, 0, 2⟩
  else numAt l (digs 6 (l.drop 3))
def esc (l : List UInt8) : It :=
  if l.length = 1 then ⟨0, 0, 40⟩
  else if bt l 1 = 110 then ⟨10, 2, 0⟩
  else if bt l 1 = 114 then ⟨13, 2, 0⟩
  else if bt l 1 = 116 then ⟨9, 2, 0⟩
  else if bt l 1 = 34 ∨ bt l 1 = 92 then ⟨(bt l 1 : Int), 2, 0⟩
  else if bt l 1 = 117 then num l
  else ⟨0, 0, 2⟩
def ctl (r : Nat) : Prop := r < 32 ∨ r = 127
instance (r : Nat) : Decidable (ctl r) := by unfold ctl; exact inferInstance
def item (l : List UInt8) : It :=
  if bt l 0 = 92 then esc l
  else if ctl (decodeL l).1 ∨ wrong l then ⟨0, 0, 2⟩
  else ⟨((decodeL l).1 : Int), ((decodeL l).2 : Int), 0⟩

theorem digs_le : ∀ (n : Nat) (l : List UInt8), digs n l ≤ n ∧ digs n l ≤ l.length
  | 0, _ => by simp [digs]
  | n + 1, [] => by simp [digs]
  | n + 1, c :: t => by
    have := digs_le n t
    unfold digs
    split <;> simp only [List.length_cons] <;> omega
theorem hexVal_lt : ∀ c : UInt8, isHex c = true → hexVal c < 16 := by
  intro c h
  unfold isHex at h
  unfold hexVal
  simp only [Bool.or_eq_true, Bool.and_eq_true, decide_eq_true_eq] at h
  split <;> omega
theorem hval_snoc (l : List UInt8) (c : UInt8) : hval (l ++ [c]) = 16 * hval l + hexVal c := by simp [hval]
theorem hval_nil : hval [] = 0 := rfl

theorem num_size (l : List UInt8) (h2 : 2 ≤ l.length) (h : (num l).e = 0) : 1 ≤ (num l).k ∧ (num l).k ≤ l.length := by
  have hd := digs_le 6 (l.drop 3)
  have hdl : (l.drop 3).length = l.length - 3 := List.length_drop
  revert h
  unfold num
  split
  · intro h; cases h
  split
  · intro h; cases h
  unfold numAt
  split
  · intro h; cases h
  split
  · intro h; cases h
  rename_i h2' h3 h4 h5
  intro _
  simp only
  omega
theorem esc_size (l : List UInt8) (h1 : 1 ≤ l.length) (h : (esc l).e = 0) : 1 ≤ (esc l).k ∧ (esc l).k ≤ l.length := by
  revert h
  unfold esc
  split
  · intro h; cases h
  repeat' split
  all_goals first
    | (intro _; simp only; omega)
    | (intro h; exact num_size l (by omega) h)
    | (intro h; cases h)
/-- An item has at least one byte, and no more than there are. -/
theorem item_size (l : List UInt8) (hne : l ≠ []) (h : (item l).e = 0) : 1 ≤ (item l).k ∧ (item l).k ≤ l.length := by
  have hl : 0 < l.length := List.length_pos_iff.2 hne
  have hle := decodeL_le l hne
  have hge := decodeL_width l
  revert h
  unfold item
  split
  · intro h; exact esc_size l hl h
  split
  · intro h; cases h
  · intro _; simp only; omega

/-- Reading on behind the quote: p bytes are read, acc is the text so far. -/
def unqGo (l : List UInt8) (p : Nat) (acc : List UInt8) : List UInt8 × Int × Int :=
  match l with
  | [] => ([], 0, 40)
  | c :: t =>
    if c.toNat = 34 then (if 4096 < acc.length then ([], 0, 3) else (acc, (p : Int) + 1, 0))
    else if ¬ (item (c :: t)).e = 0 then ([], 0, (item (c :: t)).e)
    else unqGo (t.drop ((item (c :: t)).k.toNat - 1)) (p + (item (c :: t)).k.toNat) (acc ++ encodeRune (item (c :: t)).r)
termination_by l.length
decreasing_by simp only [List.length_drop, List.length_cons]; omega

/-- What Unquote returns. -/
def unq (l : List UInt8) : List UInt8 × Int × Int :=
  if l = [] then ([], 0, 40) else if ¬ bt l 0 = 34 then ([], 0, 2) else unqGo (l.drop 1) 1 []

theorem unqGo_nil (p : Nat) (acc : List UInt8) : unqGo [] p acc = ([], 0, 40) := by rw [unqGo]
theorem unqGo_quote (l : List UInt8) (p : Nat) (acc : List UInt8) (hne : l ≠ []) (h : bt l 0 = 34) : unqGo l p acc = if 4096 < acc.length then ([], 0, 3) else (acc, (p : Int) + 1, 0) := by
  cases l with
  | nil => exact absurd rfl hne
  | cons c t =>
    rw [unqGo, if_pos (show c.toNat = 34 from h)]
theorem unqGo_bad (l : List UInt8) (p : Nat) (acc : List UInt8) (hne : l ≠ []) (h : ¬ bt l 0 = 34) (he : ¬ (item l).e = 0) : unqGo l p acc = ([], 0, (item l).e) := by
  cases l with
  | nil => exact absurd rfl hne
  | cons c t =>
    rw [unqGo, if_neg (show ¬ c.toNat = 34 from h), if_pos he]
theorem unqGo_step (l : List UInt8) (p : Nat) (acc : List UInt8) (hne : l ≠ []) (h : ¬ bt l 0 = 34) (he : (item l).e = 0) :
    unqGo l p acc = unqGo (l.drop (item l).k.toNat) (p + (item l).k.toNat) (acc ++ encodeRune (item l).r) := by
  have hs := item_size l hne he
  cases l with
  | nil => exact absurd rfl hne
  | cons c t =>
    rw [unqGo, if_neg (show ¬ c.toNat = 34 from h), if_neg (fun x => x he)]
    obtain ⟨n, hn⟩ : ∃ n, (item (c :: t)).k.toNat = n + 1 := ⟨(item (c :: t)).k.toNat - 1, by omega⟩
    rw [hn]
    rfl

/-! ### back -/
theorem hexd_hex : ∀ n : Fin 16, isHex (hexd n.val) = true ∧ hexVal (hexd n.val) = n.val ∧ ((hexd n.val).toNat = 48 ↔ n.val = 0) := by decide +kernel
theorem digs_one (a : UInt8) (rest : List UInt8) (ha : isHex a = true) : digs 6 (a :: 125 :: rest) = 1 := by
  rw [digs, if_pos ha, digs, if_neg (by decide)]
theorem digs_two (a b : UInt8) (rest : List UInt8) (ha : isHex a = true) (hb : isHex b = true) : digs 6 (a :: b :: 125 :: rest) = 2 := by
  rw [digs, if_pos ha, digs, if_pos hb, digs, if_neg (by decide)]

/-- Any byte below 128 but the ones that a literal does not bear: read back from its form. -/
theorem item_form (c : UInt8) (rest : List UInt8) (hc : c.toNat < 128) : item (form c ++ rest) = ⟨(c.toNat : Int), ((form c).length : Int), 0⟩ := by
  unfold form
  split
  · subst c; simp [item, bt, esc]
  split
  · subst c; simp [item, bt, esc]
  split
  · subst c; simp [item, bt, esc]
  split
  · rename_i h; rcases h with rfl | rfl <;> simp [item, bt, esc]
  rename_i h10 h13 h9 h34
  split
  · rename_i hx
    have hv : validRune ((c.toNat : Nat) : Int) = true := by
      unfold validRune
      rw [decide_eq_true_eq]
      omega
    unfold hexs
    split
    · rename_i h16
      have hh := hexd_hex ⟨c.toNat, h16⟩
      simp only at hh
      have e : ([92, 117, 123] ++ [hexd c.toNat] ++ [125] ++ rest : List UInt8) = 92 :: 117 :: 123 :: hexd c.toNat :: 125 :: rest := by simp
      rw [e]
      have hd := digs_one (hexd c.toNat) rest hh.1
      have hvv : hval [hexd c.toNat] = c.toNat := by simp [hval, hh.2.1]
      simp [item, bt, esc, num, numAt, hd, hvv, hv]
    · rename_i h16
      have hh1 := hexd_hex ⟨c.toNat / 16, by omega⟩
      have hh2 := hexd_hex ⟨c.toNat % 16, by omega⟩
      simp only at hh1 hh2
      have e : ([92, 117, 123] ++ [hexd (c.toNat / 16), hexd (c.toNat % 16)] ++ [125] ++ rest : List UInt8) = 92 :: 117 :: 123 :: hexd (c.toNat / 16) :: hexd (c.toNat % 16) :: 125 :: rest := by simp
      rw [e]
      have hd := digs_two (hexd (c.toNat / 16)) (hexd (c.toNat % 16)) rest hh1.1 hh2.1
      have hvv : hval [hexd (c.toNat / 16), hexd (c.toNat % 16)] = c.toNat := by simp [hval, hh1.2.1, hh2.2.1]; omega
      have hz : ¬ (hexd (c.toNat / 16)).toNat = 48 := fun x => by have := hh1.2.2.1 x; omega
      simp [item, bt, esc, num, numAt, hd, hvv, hv, hz]
  · rename_i hx
    have h92 : ¬ bt ([c] ++ rest) 0 = 92 := by
      intro h
      apply h34
      right
      exact UInt8.toNat_inj.1 (show c.toNat = (92 : UInt8).toNat from h)
    have hd : decodeL ([c] ++ rest) = (c.toNat, 1) := decodeL_ascii c rest hc
    unfold item
    rw [if_neg h92, hd, if_neg]
    · rfl
    · unfold ctl wrong
      rw [hd]
      simp only
      omega
theorem form_quote (c : UInt8) (rest : List UInt8) : ¬ bt (form c ++ rest) 0 = 34 := by
  unfold form
  repeat' split
  all_goals simp [bt]
  rename_i h _
  intro hx
  apply h
  left
  exact UInt8.toNat_inj.1 (show c.toNat = (34 : UInt8).toNat from hx)
theorem encode_ascii (c : UInt8) (hc : c.toNat < 128) : encodeRune (c.toNat : Int) = [c] := by
  unfold encodeRune
  rw [encodeRuneZ_one (by omega) (by omega)]
  simp
theorem forms_high : ∀ l : List UInt8, (∀ j, j < l.length → 128 ≤ (l.getD j 0).toNat) → forms l = l
  | [], _ => rfl
  | c :: t, h => by
    have h0 : 128 ≤ c.toNat := h 0 (by simp)
    rw [forms_cons, forms_high t (fun j hj => by have := h (j + 1) (by simpa using hj); simpa using this)]
    unfold form
    have g : ∀ d : UInt8, d.toNat < 128 → c ≠ d := fun d hd e => by rw [e] at h0; omega
    rw [if_neg (g 10 (by decide)), if_neg (g 13 (by decide)), if_neg (g 9 (by decide)), if_neg (fun x => x.elim (g 34 (by decide)) (g 92 (by decide))), if_neg (by omega)]
    rfl

theorem back_go : ∀ (n : Nat) (l more : List UInt8) (p : Nat) (acc : List UInt8), l.length ≤ n → validD l = true →
    unqGo (forms l ++ 34 :: more) p acc = unqGo (34 :: more) (p + (forms l).length) (acc ++ l) := by
  intro n
  induction n with
  | zero =>
    intro l more p acc hl _
    have : l = [] := List.eq_nil_of_length_eq_zero (by omega)
    subst this
    simp [forms]
  | succ n ih =>
    intro l more p acc hl hv
    by_cases hne : l = []
    · subst hne; simp [forms]
    have hlen : 0 < l.length := List.length_pos_iff.2 hne
    rw [validD_step l hne] at hv
    have hw : ¬ wrong l := by
      intro hw
      unfold wrong at hw
      rw [if_pos hw] at hv
      cases hv
    have hw' := hw
    unfold wrong at hw'
    rw [if_neg hw'] at hv
    have hle := decodeL_le l hne
    have hge := decodeL_width l
    by_cases h0 : bt l 0 < 128
    · cases l with
      | nil => exact absurd rfl hne
      | cons c t =>
        have hc : c.toNat < 128 := h0
        have hd := decodeL_ascii c t hc
        rw [hd] at hv
        have hit := item_form c (forms t ++ 34 :: more) hc
        have hn2 : form c ++ (forms t ++ 34 :: more) ≠ [] := by simp
        rw [forms_cons, List.append_assoc, unqGo_step _ p acc hn2 (form_quote _ _) (by rw [hit]), hit]
        simp only [Int.toNat_natCast]
        rw [List.drop_left, encode_ascii c hc, ih t more _ _ (by simpa using hl) (by simpa using hv), List.length_append, List.append_assoc, Nat.add_assoc]
        rfl
    · have hb := high_bytes l hw (by unfold bt at h0; omega)
      have hen := encode_decode l hne hw'
      obtain ⟨k, hk⟩ : ∃ k, (decodeL l).2 = k := ⟨_, rfl⟩
      obtain ⟨r, hr⟩ : ∃ r, (decodeL l).1 = r := ⟨_, rfl⟩
      rw [hk] at hv hle hge hb hen
      rw [hr] at hb hen
      have ht : (l.take k).length = k := by rw [List.length_take]; omega
      have hgt : ∀ j, j < k → (l.take k).getD j 0 = l.getD j 0 := fun j hj => by simp [List.getD, hj]
      have hf : forms (l.take k) = l.take k := forms_high _ fun j hj => by rw [hgt j (by omega)]; exact hb.2 j (by omega)
      have hsplit : forms l = l.take k ++ forms (l.drop k) := by
        have h := forms_app (l.take k) (l.drop k)
        rw [List.take_append_drop, hf] at h
        exact h
      have hdd : decodeL (l.take k ++ (forms (l.drop k) ++ 34 :: more)) = decodeL l := by
        refine decode_same l _ hne hw ?_ fun j hj => ?_
        · rw [hk, List.length_append]; omega
        · rw [hk] at hj
          rw [← hgt j hj]
          simp [List.getD, List.getElem?_append_left (show j < (l.take k).length by omega)]
      have hn2 : l.take k ++ (forms (l.drop k) ++ 34 :: more) ≠ [] := by simp
      have hbt : bt (l.take k ++ (forms (l.drop k) ++ 34 :: more)) 0 = bt l 0 := by
        unfold bt
        rw [← hgt 0 (by omega)]
        simp [List.getD, List.getElem?_append_left (show 0 < (l.take k).length by omega)]
      have hit : item (l.take k ++ (forms (l.drop k) ++ 34 :: more)) = ⟨(r : Int), (k : Int), 0⟩ := by
        unfold item
        rw [hbt, if_neg (by omega), hdd, if_neg]
        · rw [hr, hk]
        · unfold ctl wrong
          rw [hdd, hr, hk]
          rw [hr, hk] at hw'
          omega
      rw [hsplit, List.append_assoc, unqGo_step _ p acc hn2 (by rw [hbt]; omega) (by rw [hit]), hit]
      simp only [Int.toNat_natCast]
      have hdl : (l.take k ++ (forms (l.drop k) ++ 34 :: more)).drop k = forms (l.drop k) ++ 34 :: more := by
        rw [List.drop_append_of_le_length (by omega), List.drop_of_length_le (by omega)]; rfl
      rw [hdl, hen, ih _ more _ _ (by rw [List.length_drop]; omega) hv, List.length_append, List.append_assoc, List.take_append_drop, ht, Nat.add_assoc]

/-- Reading restores a valid string from its literal, whatever follows. -/
theorem unq_quote (l more : List UInt8) (hv : validD l = true) (hl : l.length ≤ 4096) : unq (quoteL l ++ more) = (l, ((quoteL l).length : Int), 0) := by
  unfold unq
  rw [if_neg (by simp [quoteL]), if_neg (fun x => x (by simp [quoteL, bt]))]
  have e : (quoteL l ++ more).drop 1 = forms l ++ 34 :: more := by simp [quoteL]
  rw [e, back_go _ l more 1 [] (Nat.le_refl _) hv, unqGo_quote _ _ _ (by simp) (by simp [bt])]
  rw [if_neg (by simp; omega)]
  simp only [List.nil_append, Prod.mk.injEq, and_true, true_and]
  unfold quoteL
  rw [List.length_cons, List.length_append, List.length_singleton]
  omega

end Go.Proofs.YthekabflbpfjoaaGreatDoor.lit

namespace Go.Proofs.YthekabflbpfjoaaGreatDoor.lit
open Go.RowKit

/-- What a call does to the world at most: what was there is as it was. -/
def Q (w w' : World) : Prop := Below w.heap.size w w'
theorem Q.refl (w : World) : Q w w := Below.refl _ _
theorem Q.trans {a b c : World} (h : Q a b) (k : Q b c) : Q a c := Below.trans h (Below.mono k h.size)
theorem Q.drewN (w : World) (n : Nat) : Q w (w.drewN n) := ⟨rfl, rfl, rfl, by simp, fun _ _ => rfl⟩

/-- The tables and the variable of the library that are read. -/
structure Fx (w : World) : Prop where
  tabs : Lib.Utf8Tabs 1 2 w
  zeros : w.cell? ⟨5, 15, none⟩ = some (.int .u8 4)
  most : ∃ m, w.cell? ⟨0, 0, none⟩ = some (.int .i64 m)
  old : 6 ≤ w.heap.size
theorem fx_below {B : Nat} {w w' : World} (h : Below B w w') (hB : 6 ≤ B) (f : Fx w) : Fx w' := by
  refine ⟨⟨fun c hc => (h.cell (show 1 < B by omega)).trans (f.tabs.1 c hc), fun i hi => ⟨(h.cell (show 2 < B by omega)).trans (f.tabs.2 i hi).1, (h.cell (show 2 < B by omega)).trans (f.tabs.2 i hi).2⟩⟩, ?_, ?_, Nat.le_trans f.old h.size⟩
  · rw [Below.cell h (show 5 < B by omega)]; exact f.zeros
  · obtain ⟨m, hm⟩ := f.most
    exact ⟨m, by rw [Below.cell h (show 0 < B by omega)]; exact hm⟩
theorem Q.fx {w w' : World} (h : Q w w') (f : Fx w) : Fx w' := fx_below h f.old f

theorem control_yes (r : Int) (w : World) (h0 : 0 ≤ r) (h1 : r ≤ 1114111) (h : r < 32 ∨ r = 127) :
    Calls Tryz.prog 82 #[.int .i32 r] w fun e w' => e = .returned (.bool true) ∧ w = w' := by
  by_cases hr : r < 32
  · clear h
    go_enter Tryz.func82, Tryz.ntmps82
    go_wp2_with fail
    go_ret
    exact ⟨rfl, rfl⟩
  · obtain rfl : r = 127 := by omega
    clear h
    go_enter Tryz.func82, Tryz.ntmps82
    go_wp2_with fail
    go_ret
    exact ⟨rfl, rfl⟩
theorem control_no (r : Int) (w : World) (h0 : 32 ≤ r) (h1 : r ≤ 1114111) (h : ¬ r = 127) :
    Calls Tryz.prog 82 #[.int .i32 r] w fun e w' => e = .returned (.bool false) ∧ w = w' := by
  go_enter Tryz.func82, Tryz.ntmps82
  go_wp2_with fail
  go_ret
  refine ⟨?_, rfl⟩
  show Ending.returned (Value.bool (decide (r < 32) || r == 127)) = _
  rw [decide_eq_false (show ¬ r < 32 by omega), beq_eq_false_iff_ne.2 h]
  rfl

theorem isHex_iff (c : UInt8) : isHex c = true ↔ (48 ≤ c.toNat ∧ c.toNat ≤ 57) ∨ (97 ≤ c.toNat ∧ c.toNat ≤ 102) := by
  unfold isHex
  simp
theorem digit_any (c : UInt8) (w : World) :
    Calls Tryz.prog 140 #[.int .u8 (c.toNat : Int)] w fun e w' => e = .returned (.bool (isHex c)) ∧ w = w' := by
  have hc := c.toNat_lt
  by_cases h : isHex c = true
  · rw [h]
    have h' := (isHex_iff c).1 h
    clear h
    by_cases h1 : (c.toNat : Int) ≤ 57
    · have h0 : 48 ≤ (c.toNat : Int) := by omega
      clear h'
      go_enter Tryz.func140, Tryz.ntmps140
      go_wp2_with fail
      go_ret
      exact ⟨rfl, rfl⟩
    · have h0 : 48 ≤ (c.toNat : Int) := by omega
      have h2 : 97 ≤ (c.toNat : Int) := by omega
      have h3 : (c.toNat : Int) ≤ 102 := by omega
      clear h'
      go_enter Tryz.func140, Tryz.ntmps140
      go_wp2_with fail
      go_ret
      exact ⟨rfl, rfl⟩
  · have h' : ¬ ((48 ≤ c.toNat ∧ c.toNat ≤ 57) ∨ (97 ≤ c.toNat ∧ c.toNat ≤ 102)) := fun x => h ((isHex_iff c).2 x)
    rw [Bool.eq_false_iff.2 h]
    clear h
    by_cases h0 : 48 ≤ (c.toNat : Int)
    · have h1 : ¬ (c.toNat : Int) ≤ 57 := by omega
      by_cases h2 : 97 ≤ (c.toNat : Int)
      · have h3 : ¬ (c.toNat : Int) ≤ 102 := by omega
        clear h'
        go_enter Tryz.func140, Tryz.ntmps140
        go_wp2_with fail
        go_ret
        exact ⟨rfl, rfl⟩
      · clear h'
        go_enter Tryz.func140, Tryz.ntmps140
        go_wp2_with fail
        go_ret
        exact ⟨rfl, rfl⟩
    · have h2 : ¬ 97 ≤ (c.toNat : Int) := by omega
      clear h'
      go_enter Tryz.func140, Tryz.ntmps140
      go_wp2_with fail
      go_ret
      exact ⟨rfl, rfl⟩
theorem digit_value (c : UInt8) (w : World) (h : isHex c = true) :
    Calls Tryz.prog 141 #[.int .u8 (c.toNat : Int)] w fun e w' => e = .returned (.int .i32 (hexVal c)) ∧ w = w' := by
  have h' := (isHex_iff c).1 h
  clear h
  unfold hexVal
  by_cases h1 : (c.toNat : Int) ≤ 57
  · have h0 : 48 ≤ (c.toNat : Int) := by omega
    have e : ((if c.toNat ≤ 57 then c.toNat - 48 else c.toNat - 87 : Nat) : Int) = (c.toNat : Int) - 48 := by split <;> omega
    rw [e]
    clear h' e
    go_enter Tryz.func141, Tryz.ntmps141
    go_wp2_with fail
    go_ret
    exact ⟨rfl, rfl⟩
  · have h2 : 97 ≤ (c.toNat : Int) := by omega
    have h3 : (c.toNat : Int) ≤ 102 := by omega
    have e : ((if c.toNat ≤ 57 then c.toNat - 48 else c.toNat - 87 : Nat) : Int) = (c.toNat : Int) - 97 + 10 := by split <;> omega
    rw [e]
    clear h' e
    go_enter Tryz.func141, Tryz.ntmps141
    go_wp2_with fail
    go_ret
    exact ⟨rfl, rfl⟩

end Go.Proofs.YthekabflbpfjoaaGreatDoor.lit

namespace Go.Proofs.YthekabflbpfjoaaGreatDoor.lit
open Go.RowKit

/-- v is a slice of the bytes l, in memory that was taken from block B on. -/
def Row (B : Nat) (v : Value) (l : List UInt8) (w : World) : Prop := w.ownsRow B 5 1 v l.length (Lib.byteCells l)
theorem Row.nil (B : Nat) (w : World) : Row B (.slice none 0 0) [] w := World.ownsRow_nil _ _ _ _
theorem Row.low {B B' : Nat} {v : Value} {l : List UInt8} {w : World} (h : Row B v l w) (hb : B' ≤ B) : Row B' v l w := Joins.ownsRow_le h hb

theorem info_byte : (Tryz.prog.info? 5).map (fun i => (i.zero, i.size, i.bytes)) = some (some (.int .u8 0), 1, 1) := by kernel_rfl

theorem byteCells_app (l m : List UInt8) : Lib.byteCells (l ++ m) = Lib.byteCells l ++ Lib.byteCells m := by simp [Lib.byteCells]

theorem wpList_row {w : World} {ops : Array Oper} {rest : List Oper} {o : Oper} {a : Act} {Q : Exit → Act → World → Prop} (hgd : o.guard = none) (s x : Operand)
    (ho : o.op = .call { callee := .builtin .append, args := #[s, x], argTypes := #[49, 49] })
    (B : Nat) (v : Value) (l m : List UInt8) (hs : a.eval s = v) (hown : Row B v l w) (ad : Addr) (c : Nat) (hx : a.eval x = .slice (some ad) m.length c)
    (hnews : ∀ j u, (Lib.byteCells m)[j]? = some u → w.cell? (ad.add j) = some u) (hlim : l.length + m.length ≤ 140737488355328) (hbase : B ≤ w.heap.size)
    (h : ∀ v' w', Row B v' (l ++ m) w' → Below B w w' → wpList Tryz.prog ops Q rest (a.put o.dst v') w') : wpList Tryz.prog ops Q (o :: rest) a w := by
  obtain ⟨i0, hi, hz0, hz1, hz2⟩ := info_parts info_byte
  refine wpList_append_own w hgd s x 49 ho B 5 i0 (.int .u8 0) 1 1 Tryz.underlying49 hi hz0 hz1 hz2 rfl (by decide) v l.length (Lib.byteCells l) hs hown ad m.length c (Lib.byteCells m) hx (by rw [Lib.byteCells_length, Nat.mul_one]) hnews ?_ (by unfold maxLen; omega) (by omega) hbase ?_
  · intro u hu
    simp only [Lib.byteCells, List.mem_map] at hu
    obtain ⟨b, _, rfl⟩ := hu
    rfl
  · intro v' w' h1 h2 _
    refine h v' w' ?_ ((Below.refl B w).grown h2 hbase (fun k hk => (hown.lt k hk).1))
    unfold Row
    rw [List.length_append, byteCells_app]
    exact h1
theorem wpList_row_string {w : World} {ops : Array Oper} {rest : List Oper} {o : Oper} {a : Act} {Q : Exit → Act → World → Prop} (hgd : o.guard = none) (s x : Operand)
    (ho : o.op = .call { callee := .builtin .append, args := #[s, x], argTypes := #[49, 9] })
    (B : Nat) (v : Value) (l : List UInt8) (hs : a.eval s = v) (hown : Row B v l w) (m : ByteArray) (hx : a.eval x = .string m)
    (hlim : l.length + m.size ≤ 140737488355328) (hbase : B ≤ w.heap.size)
    (h : ∀ v' w', Row B v' (l ++ m.data.toList) w' → Below B w w' → wpList Tryz.prog ops Q rest (a.put o.dst v') w') : wpList Tryz.prog ops Q (o :: rest) a w := by
  obtain ⟨i0, hi, hz0, hz1, hz2⟩ := info_parts info_byte
  refine Lib.wpList_append_own_string w hgd s x 49 9 ho B 5 i0 Tryz.underlying49 Tryz.underlying9 hi hz0 hz1 hz2 v l.length (Lib.byteCells l) hs hown m hx (by unfold maxLen; omega) (by omega) hbase ?_
  intro v' w' h1 h2 _
  refine h v' w' ?_ ((Below.refl B w).grown h2 hbase (fun k hk => (hown.lt k hk).1))
  unfold Row
  rw [List.length_append, byteCells_app]
  have e : m.data.toList.length = m.size := by simp
  rw [e]
  exact h1

/-- The cells of a block that was just taken. -/
theorem new_cells (w : World) (cs : Array Value) (t : TypeId) (off : Nat) (m : List UInt8) (h : ∀ (j : Nat) (hj : j < m.length), cs[off + j]? = some (.int .u8 (m[j].toNat : Int))) :
    ∀ j u, (Lib.byteCells m)[j]? = some u → (w.alloc (.cells cs t)).cell? ((⟨w.heap.size, off, none⟩ : Addr).add j) = some u := by
  intro j u hj
  simp only [Lib.byteCells, List.getElem?_map] at hj
  have hl : j < m.length := by
    rw [Option.map_eq_some_iff] at hj
    obtain ⟨b, hb, _⟩ := hj
    exact (List.getElem?_eq_some_iff.1 hb).1
  rw [List.getElem?_eq_getElem hl] at hj
  simp only [Option.map_some, Option.some.injEq] at hj
  subst hj
  have e : ((⟨w.heap.size, off, none⟩ : Addr).add j) = ⟨w.heap.size, off + j, none⟩ := by simp [Addr.add]
  rw [e, World.cell?_alloc_new]
  exact h j hl

/-- Its shape. -/
theorem Row.shape {B : Nat} {v : Value} {l : List UInt8} {w : World} (h : Row B v l w) : ∃ a c, v = .slice a l.length c := by
  rcases h.2 with ⟨h1, h2⟩ | ⟨g, cap, cur, hv, _⟩
  · exact ⟨none, 0, by rw [h1, h2]⟩
  · exact ⟨_, cap, hv⟩
/-- As a string. -/
theorem Row.text {B : Nat} {v : Value} {l : List UInt8} {w : World} (h : Row B v l w) : (convert 49 9 v).run Tryz.prog w = .ok (.string ⟨l.toArray⟩) w := by
  rcases h.2 with ⟨h1, h2⟩ | ⟨g, cap, cur, hv, _⟩
  · subst h1
    have : l = [] := List.eq_nil_of_length_eq_zero h2
    subst this
    exact run_convert_bytes_nil w 49 5 Tryz.underlying49 Tryz.underlying5 0 0 9 Tryz.underlying9
  · have hg : v.ownBlock = some g := by rw [hv]; rfl
    have hc := World.ownsRow.cells h hg
    rw [hv]
    refine run_convert_bytes_back w 49 9 5 ⟨g, 0, none⟩ cap l Tryz.underlying49 Tryz.underlying5 Tryz.underlying9 fun j hj => ?_
    refine hc j _ ?_
    simp [Lib.byteCells, List.getElem?_eq_getElem hj]
/-- One that was just laid down. -/
theorem Row.made (w : World) (l : List UInt8) (hl : l.length ≤ 1000000) : Row w.heap.size (.slice (some ⟨w.heap.size, 0, none⟩) l.length l.length) l (w.alloc (.cells (Lib.byteCells l).toArray 5)) := by
  have := World.ownsRow_lit (base := w.heap.size) (e := 5) (size := 1) w (Lib.byteCells l).toArray l.length (Nat.le_refl _) (by unfold maxLen; omega) (by rw [List.size_toArray, Lib.byteCells_length, Nat.mul_one])
  exact this
theorem Row.stays {B : Nat} {v : Value} {l : List UInt8} {w w' : World} (h : Row B v l w) (hq : Q w w') : Row B v l w' := by
  refine ⟨h.1, ?_⟩
  rcases h.2 with h2 | ⟨g, cap, cur, hv, hb, hc, hrest⟩
  · exact .inl h2
  · refine .inr ⟨g, cap, cur, hv, hb, ?_, hrest⟩
    have hlt : g < w.heap.size := by
      rcases Nat.lt_or_ge g w.heap.size with h' | h'
      · exact h'
      · rw [Array.getElem?_eq_none h'] at hc
        cases hc
    rw [hq.block g hlt]
    exact hc

end Go.Proofs.YthekabflbpfjoaaGreatDoor.lit

namespace Go.Proofs.YthekabflbpfjoaaGreatDoor.lit
open Go.RowKit

theorem power16 (w : World) : Calls Tryz.prog 119 #[.int .i64 16] w fun e w' => e = .returned (.bool true) ∧ w = w' := by
  go_enter Tryz.func119, Tryz.ntmps119
  go_wp2_with fail
  go_ret
  exact ⟨rfl, rfl⟩
theorem zeros16 (w : World) (f : Fx w) : Calls Tryz.prog 131 #[.int .u64 16] w fun e w' => e = .returned (.int .i64 4) ∧ w = w' := by
  have hz : w.cell? ⟨5, (IntKind.u64.wrap (bits BinOp.and IntKind.u64 16 (IntKind.u64.wrap (-16)) * 285870213051353865) / 288230376151711744).toNat, none⟩ = some (.int .u8 4) := by
    rw [show (IntKind.u64.wrap (bits BinOp.and IntKind.u64 16 (IntKind.u64.wrap (-16)) * 285870213051353865) / 288230376151711744).toNat = 15 by decide +kernel]
    exact f.zeros
  clear f
  go_enter Tryz.func131, Tryz.ntmps131
  go_wp2_with fail
  go_ret
  exact ⟨rfl, rfl⟩
theorem trailing16 (w : World) (f : Fx w) : Calls Tryz.prog 120 #[.int .u64 16] w fun e w' => e = .returned (.int .i64 4) ∧ w = w' := by
  go_enter Tryz.func120, Tryz.ntmps120
  go_wp2_with fail
  refine (zeros16 _ f).mono ?_; rintro e w' ⟨rfl, rfl⟩
  go_wp2_with fail
  go_ret
  exact ⟨rfl, rfl⟩
/-- The digits' text of the library. -/
def digitsB : ByteArray := ⟨#[48, 49, 50, 51, 52, 53, 54, 55, 56, 57, 97, 98, 99, 100, 101, 102, 103, 104, 105, 106, 107, 108, 109, 110, 111, 112, 113, 114, 115, 116, 117, 118, 119, 120, 121, 122]⟩
theorem digitsB_at : ∀ n : Fin 16, digitsB[n.val]'(by have := n.isLt; show n.val < 36; omega) = hexd n.val := by decide +kernel
theorem zeros65 : Tryz.zeroCells129.size = 65 := by kernel_rfl

theorem digit_at (u : Nat) (hu : u < 16) (h : u < (⟨#[48, 49, 50, 51, 52, 53, 54, 55, 56, 57, 97, 98, 99, 100, 101, 102, 103, 104, 105, 106, 107, 108, 109, 110, 111, 112, 113, 114, 115, 116, 117, 118, 119, 120, 121, 122]⟩ : ByteArray).size) :
    (⟨#[48, 49, 50, 51, 52, 53, 54, 55, 56, 57, 97, 98, 99, 100, 101, 102, 103, 104, 105, 106, 107, 108, 109, 110, 111, 112, 113, 114, 115, 116, 117, 118, 119, 120, 121, 122]⟩ : ByteArray)[u]'h = hexd u := digitsB_at ⟨u, hu⟩

set_option maxHeartbeats 1000000 in
theorem bits16_lo (B u : Nat) (hu : u < 16) (sv : Value) (l : List UInt8) (w : World) (f : Fx w) (hown : Row B sv l w) (hBw : B ≤ w.heap.size) (hlim : l.length + 20 ≤ 140737488355328) :
    Calls Tryz.prog 110 #[sv, .int .u64 u, .int .i64 16, .bool false, .bool true] w fun e w' => ∃ v', e = .returned (.tuple #[v', .string ⟨#[]⟩]) ∧ Row B v' (l ++ hexs u) w' ∧ Below B w w' := by
  have F := Lib.hid f
  have O := Lib.hid hown
  clear f hown
  rw [show hexs u = [hexd u] by unfold hexs; rw [if_pos hu]]
  go_enter Tryz.func110, Tryz.ntmps110
  go_wp2_with fail
  refine (power16 _).mono ?_; rintro e w' ⟨rfl, rfl⟩
  go_wp2_with fail
  have q0 : Q w (w.alloc (Obj.cells Tryz.zeroCells129 129)) := Below.alloc (Below.refl _ _) (Nat.le_refl _) _
  refine (trailing16 _ (q0.fx F.out)).mono ?_
  rintro e w' ⟨rfl, rfl⟩
  clear F
  go_wp2_with fail
  go_loopw [1, 13] (fun a i wr => a = .int .u64 u ∧ i = .int .i64 65 ∧ wr = w.alloc (Obj.cells Tryz.zeroCells129 129)) (fun _ _ _ => 0)
  case atStart => exact ⟨rfl, rfl, rfl⟩
  case round =>
    obtain ⟨rfl, rfl, rfl⟩ := hrel
    have hlo : ¬ 16 ≤ (u : Int) := by omega
    go_wp2_with (at_builtin; refine wpList_row rfl _ _ rfl B _ l [hexd u] rfl (O.out.alloc _) ⟨w.heap.size, 64, none⟩ 1 rfl ?c1 ?c2 ?c3 ?_)
    case c1 =>
      refine new_cells w _ _ 64 [hexd u] fun j hj => ?_
      obtain rfl : j = 0 := by simpa using hj
      rw [digit_at u hu]
      show (Tryz.zeroCells129.setIfInBounds 64 _)[64]? = _
      rw [Array.getElem?_setIfInBounds_self, if_pos (by rw [zeros65]; decide)]
      rfl
    case c2 => simp only [List.length_singleton]; omega
    case c3 => simp; omega
    intro v' w1 hr hb
    go_wp2_with fail
    go_ret2
    exact ⟨v', rfl, hr, (Below.alloc (Below.refl B w) hBw _).trans hb⟩

set_option maxRecDepth 100000 in
theorem and15 : ∀ X : Fin 256, bits .and .u64 ((X.val : Nat) : Int) 15 = ((X.val % 16 : Nat) : Int) := by decide +kernel

set_option maxHeartbeats 2000000 in
theorem bits16_hi (B u : Nat) (hu : 16 ≤ u) (hu2 : u < 256) (sv : Value) (l : List UInt8) (w : World) (f : Fx w) (hown : Row B sv l w) (hBw : B ≤ w.heap.size) (hlim : l.length + 20 ≤ 140737488355328) :
    Calls Tryz.prog 110 #[sv, .int .u64 u, .int .i64 16, .bool false, .bool true] w fun e w' => ∃ v', e = .returned (.tuple #[v', .string ⟨#[]⟩]) ∧ Row B v' (l ++ hexs u) w' ∧ Below B w w' := by
  have F := Lib.hid f
  have O := Lib.hid hown
  clear f hown
  rw [show hexs u = [hexd (u / 16), hexd (u % 16)] by unfold hexs; rw [if_neg (by omega)]]
  go_enter Tryz.func110, Tryz.ntmps110
  go_wp2_with fail
  refine (power16 _).mono ?_; rintro e w' ⟨rfl, rfl⟩
  go_wp2_with fail
  have q0 : Q w (w.alloc (Obj.cells Tryz.zeroCells129 129)) := Below.alloc (Below.refl _ _) (Nat.le_refl _) _
  refine (trailing16 _ (q0.fx F.out)).mono ?_
  rintro e w' ⟨rfl, rfl⟩
  clear F
  go_wp2_with fail
  go_loopw [1, 13] (fun a i wr => (a = .int .u64 u ∧ i = .int .i64 65 ∧ wr = w.alloc (Obj.cells Tryz.zeroCells129 129)) ∨ (a = .int .u64 ((u / 16 : Nat) : Int) ∧ i = .int .i64 64 ∧ wr = w.alloc (Obj.cells (Tryz.zeroCells129.setIfInBounds 64 (.int .u8 ((hexd (u % 16)).toNat : Int))) 129))) (fun a _ _ => (intOf a).toNat)
  case atStart => exact .inl ⟨rfl, rfl, rfl⟩
  case round =>
    rcases hrel with ⟨rfl, rfl, rfl⟩ | ⟨rfl, rfl, rfl⟩
    · have hlo : 16 ≤ (u : Int) := by omega
      have hand : bits .and .u64 (u : Int) 15 = ((u % 16 : Nat) : Int) := and15 ⟨u, hu2⟩
      go_wp2_with fail
      refine ⟨.inr ⟨by rw [Int.natCast_ediv]; rfl, rfl, ?_⟩, by simp [intOf]; omega⟩
      rw [digit_at (u % 16) (by omega)]
    · have hlo : ¬ 16 ≤ (((u / 16 : Nat) : Int)) := by omega
      go_wp2_with (at_builtin; refine wpList_row rfl _ _ rfl B _ l [hexd (u / 16), hexd (u % 16)] rfl (O.out.alloc _) ⟨w.heap.size, 63, none⟩ 2 rfl ?c1 ?c2 ?c3 ?_)
      case c1 =>
        refine new_cells w _ _ 63 _ fun j hj => ?_
        rw [digit_at (u / 16) (by omega)]
        match j, hj with
        | 0, _ =>
          show (Array.setIfInBounds _ 63 _)[63]? = _
          rw [Array.getElem?_setIfInBounds_self, if_pos (by rw [Array.size_setIfInBounds, zeros65]; decide)]
          rfl
        | 1, _ =>
          show (Array.setIfInBounds _ 63 _)[64]? = _
          rw [Array.getElem?_setIfInBounds_ne (by decide), Array.getElem?_setIfInBounds_self, if_pos (by rw [zeros65]; decide)]
          rfl
      case c2 => simp; omega
      case c3 => simp; omega
      intro v' w1 hr hb
      go_wp2_with fail
      go_ret2
      exact ⟨v', rfl, hr, (Below.alloc (Below.refl B w) hBw _).trans hb⟩
theorem bits16 (B u : Nat) (hu : u < 256) (sv : Value) (l : List UInt8) (w : World) (f : Fx w) (hown : Row B sv l w) (hBw : B ≤ w.heap.size) (hlim : l.length + 20 ≤ 140737488355328) :
    Calls Tryz.prog 110 #[sv, .int .u64 u, .int .i64 16, .bool false, .bool true] w fun e w' => ∃ v', e = .returned (.tuple #[v', .string ⟨#[]⟩]) ∧ Row B v' (l ++ hexs u) w' ∧ Below B w w' := by
  by_cases h : u < 16
  · exact bits16_lo B u h sv l w f hown hBw hlim
  · exact bits16_hi B u (by omega) hu sv l w f hown hBw hlim
theorem uint16 (B u : Nat) (hu : u < 256) (sv : Value) (l : List UInt8) (w : World) (f : Fx w) (hown : Row B sv l w) (hBw : B ≤ w.heap.size) (hlim : l.length + 20 ≤ 140737488355328) :
    Calls Tryz.prog 111 #[sv, .int .u64 u, .int .i64 16] w fun e w' => ∃ v', e = .returned v' ∧ Row B v' (l ++ hexs u) w' ∧ Below B w w' := by
  have F := Lib.hid f
  have O := Lib.hid hown
  clear f hown
  go_enter Tryz.func111, Tryz.ntmps111
  go_wp2_with fail
  refine (bits16 B u hu sv l _ F.out O.out hBw hlim).mono ?_
  rintro e w' ⟨v', rfl, hr, hb⟩
  go_wp2_with fail
  go_ret
  exact ⟨v', rfl, hr, hb⟩
theorem int16a (B u : Nat) (hu : u < 256) (sv : Value) (l : List UInt8) (w : World) (f : Fx w) (hown : Row B sv l w) (hBw : B ≤ w.heap.size) (hlim : l.length + 20 ≤ 140737488355328) :
    Calls Tryz.prog 97 #[sv, .int .i64 u, .int .i64 16] w fun e w' => ∃ v', e = .returned v' ∧ Row B v' (l ++ hexs u) w' ∧ Below B w w' := by
  have F := Lib.hid f
  have O := Lib.hid hown
  clear f hown
  go_enter Tryz.func97, Tryz.ntmps97
  go_wp2_with fail
  refine (uint16 B u hu sv l _ F.out O.out hBw hlim).mono ?_
  rintro e w' ⟨v', rfl, hr, hb⟩
  go_wp2_with fail
  go_ret
  exact ⟨v', rfl, hr, hb⟩
theorem append16 (B u : Nat) (hu : u < 256) (sv : Value) (l : List UInt8) (w : World) (f : Fx w) (hown : Row B sv l w) (hBw : B ≤ w.heap.size) (hlim : l.length + 20 ≤ 140737488355328) :
    Calls Tryz.prog 83 #[sv, .int .i64 u, .int .i64 16] w fun e w' => ∃ v', e = .returned v' ∧ Row B v' (l ++ hexs u) w' ∧ Below B w w' := by
  have F := Lib.hid f
  have O := Lib.hid hown
  clear f hown
  go_enter Tryz.func83, Tryz.ntmps83
  go_wp2_with fail
  refine (int16a B u hu sv l _ F.out O.out hBw hlim).mono ?_
  rintro e w' ⟨v', rfl, hr, hb⟩
  go_wp2_with fail
  go_ret
  exact ⟨v', rfl, hr, hb⟩

end Go.Proofs.YthekabflbpfjoaaGreatDoor.lit

namespace Go.Proofs.YthekabflbpfjoaaGreatDoor.lit
open Go.RowKit

set_option maxHeartbeats 2000000 in
/-- One byte: its form goes in behind what the row holds. -/
theorem append_form (B : Nat) (c : UInt8) (sv : Value) (l : List UInt8) (w : World) (f : Fx w) (hown : Row B sv l w) (hB6 : 6 ≤ B) (hBw : B ≤ w.heap.size) (hlim : l.length + 40 ≤ 140737488355328) :
    Calls Tryz.prog 63 #[sv, .int .u8 (c.toNat : Int)] w fun e w' => ∃ v', e = .returned v' ∧ Row B v' (l ++ form c) w' ∧ Below B w w' := by
  have F := Lib.hid f
  have O := Lib.hid hown
  clear f hown
  have hc := c.toNat_lt
  by_cases h10 : c = 10
  · subst h10
    go_enter Tryz.func63, Tryz.ntmps63
    go_wp2_with (at_builtin; refine wpList_row_string rfl _ _ rfl B _ l rfl O.out ⟨#[92, 110]⟩ rfl ?c2 ?c3 ?_)
    case c2 => show l.length + 2 ≤ _; omega
    case c3 => exact hBw
    intro v' w1 hr hb
    go_wp2_with fail
    go_ret
    exact ⟨v', rfl, hr, hb⟩
  by_cases h13 : c = 13
  · subst h13
    go_enter Tryz.func63, Tryz.ntmps63
    go_wp2_with (at_builtin; refine wpList_row_string rfl _ _ rfl B _ l rfl O.out ⟨#[92, 114]⟩ rfl ?c2 ?c3 ?_)
    case c2 => show l.length + 2 ≤ _; omega
    case c3 => exact hBw
    intro v' w1 hr hb
    go_wp2_with fail
    go_ret
    exact ⟨v', rfl, hr, hb⟩
  by_cases h9 : c = 9
  · subst h9
    go_enter Tryz.func63, Tryz.ntmps63
    go_wp2_with (at_builtin; refine wpList_row_string rfl _ _ rfl B _ l rfl O.out ⟨#[92, 116]⟩ rfl ?c2 ?c3 ?_)
    case c2 => show l.length + 2 ≤ _; omega
    case c3 => exact hBw
    intro v' w1 hr hb
    go_wp2_with fail
    go_ret
    exact ⟨v', rfl, hr, hb⟩
  by_cases h34 : c = 34
  · subst h34
    go_enter Tryz.func63, Tryz.ntmps63
    go_wp2_with (at_builtin; refine wpList_row rfl _ _ rfl B _ l [92, 34] rfl (O.out.alloc _) ⟨w.heap.size, 0, none⟩ 2 rfl ?c1 ?c2 ?c3 ?_)
    case c1 =>
      refine new_cells w _ _ 0 _ fun j hj => ?_
      match j, hj with
      | 0, _ => rfl
      | 1, _ => rfl
    case c2 => show l.length + 2 ≤ _; omega
    case c3 => simp; omega
    intro v' w1 hr hb
    go_wp2_with fail
    go_ret
    exact ⟨v', rfl, hr, (Below.alloc (Below.refl B w) hBw _).trans hb⟩
  by_cases h92 : c = 92
  · subst h92
    go_enter Tryz.func63, Tryz.ntmps63
    go_wp2_with (at_builtin; refine wpList_row rfl _ _ rfl B _ l [92, 92] rfl (O.out.alloc _) ⟨w.heap.size, 0, none⟩ 2 rfl ?c1 ?c2 ?c3 ?_)
    case c1 =>
      refine new_cells w _ _ 0 _ fun j hj => ?_
      match j, hj with
      | 0, _ => rfl
      | 1, _ => rfl
    case c2 => show l.length + 2 ≤ _; omega
    case c3 => simp; omega
    intro v' w1 hr hb
    go_wp2_with fail
    go_ret
    exact ⟨v', rfl, hr, (Below.alloc (Below.refl B w) hBw _).trans hb⟩
  have g : ∀ d : UInt8, ¬ c = d → ¬ (c.toNat : Int) = (d.toNat : Int) := fun d hd e => hd (UInt8.toNat_inj.1 (by omega))
  have g10 : ¬ (c.toNat : Int) = 10 := g 10 h10
  have g13 : ¬ (c.toNat : Int) = 13 := g 13 h13
  have g9 : ¬ (c.toNat : Int) = 9 := g 9 h9
  have g34 : ¬ (c.toNat : Int) = 34 := g 34 h34
  have g92 : ¬ (c.toNat : Int) = 92 := g 92 h92
  have ef : form c = if c.toNat < 32 ∨ c.toNat = 127 then [92, 117, 123] ++ hexs c.toNat ++ [125] else [c] := by
    unfold form
    rw [if_neg h10, if_neg h13, if_neg h9, if_neg (fun x => x.elim h34 h92)]
  rw [ef]
  clear ef g h10 h13 h9 h34 h92
  by_cases hx : c.toNat < 32 ∨ c.toNat = 127
  · rw [if_pos hx]
    have HX := Lib.hid hx
    clear hx
    go_enter Tryz.func63, Tryz.ntmps63
    go_wp2_with fail
    refine (control_yes _ _ (by omega) (by omega) (by have := HX.out; omega)).mono ?_; rintro e w' ⟨rfl, rfl⟩
    go_wp2_with (at_builtin; refine wpList_row_string rfl _ _ rfl B _ l rfl O.out ⟨#[92, 117, 123]⟩ rfl ?c2 ?c3 ?_)
    case c2 => show l.length + 3 ≤ _; omega
    case c3 => exact hBw
    intro v1 w1 hr1 hb1
    have hs1 := hb1.size
    go_wp2_with fail
    refine (append16 B c.toNat hc v1 _ w1 (fx_below hb1 hB6 F.out) hr1 (by omega) (by rw [List.length_append]; show l.length + 3 + 20 ≤ _; omega)).mono ?_
    rintro e w2 ⟨v2, rfl, hr2, hb2⟩
    have hs2 := hb2.size
    go_wp2_with (at_builtin; refine wpList_row rfl _ _ rfl B _ _ [125] rfl (hr2.alloc _) ⟨w2.heap.size, 0, none⟩ 1 rfl ?d1 ?d2 ?d3 ?_)
    case d1 =>
      refine new_cells w2 _ _ 0 _ fun j hj => ?_
      match j, hj with
      | 0, _ => rfl
    case d2 =>
      have : (hexs c.toNat).length ≤ 2 := by unfold hexs; split <;> simp
      rw [List.length_append, List.length_append]
      show l.length + 3 + (hexs c.toNat).length + 1 ≤ _
      omega
    case d3 => simp; omega
    intro v3 w3 hr3 hb3
    go_wp2_with fail
    go_ret
    refine ⟨v3, rfl, ?_, (hb1.trans hb2).trans ((Below.alloc (Below.refl B w2) (by omega) _).trans hb3)⟩
    simpa [List.append_assoc] using hr3
  · rw [if_neg hx]
    go_enter Tryz.func63, Tryz.ntmps63
    go_wp2_with fail
    refine (control_no _ _ (by omega) (by omega) (by omega)).mono ?_; rintro e w' ⟨rfl, rfl⟩
    go_wp2_with (at_builtin; refine wpList_row rfl _ _ rfl B _ l [c] rfl (O.out.alloc _) ⟨w.heap.size, 0, none⟩ 1 rfl ?d1 ?d2 ?d3 ?_)
    case d1 =>
      refine new_cells w _ _ 0 _ fun j hj => ?_
      obtain rfl : j = 0 := by simpa using hj
      rfl
    case d2 => show l.length + 1 ≤ _; omega
    case d3 => simp; omega
    intro v' w1 hr hb
    go_wp2_with fail
    go_ret
    exact ⟨v', rfl, hr, (Below.alloc (Below.refl B w) hBw _).trans hb⟩

set_option maxHeartbeats 2000000 in
/-- What Quote returns, for any bytes. -/
theorem quote_any (s : ByteArray) (w : World) (f : Fx w) (hs : s.size ≤ 1000000) :
    Calls Tryz.prog 36 #[.string s] w fun e w' => e = .returned (.string ⟨(quoteL s.data.toList).toArray⟩) ∧ Q w w' := by
  have F := Lib.hid f
  have ho := f.old
  clear f
  go_enter Tryz.func36, Tryz.ntmps36
  go_wp2_with fail
  have mk := Lib.hid (Row.made w [34] (by simp))
  go_loopw [3, 4] (fun v i wr => ∃ k : Nat, k ≤ s.size ∧ i = .int .i64 k ∧ Hid (Row w.heap.size v (34 :: forms (s.data.toList.take k)) wr) ∧ Hid (Below w.heap.size w wr)) (fun _ i _ => s.size - (intOf i).toNat)
  case atStart => exact ⟨0, Nat.zero_le _, rfl, mk, Lib.hid ((Below.refl _ _).alloc (Nat.le_refl _) _)⟩
  case round =>
    obtain ⟨k, hk, rfl, hr, hb⟩ := hrel
    have hsz := hb.out.size
    have hfl := (forms_len (s.data.toList.take k)).2
    have htk : (s.data.toList.take k).length = k := by rw [List.length_take]; simp; omega
    by_cases hlt : k < s.size
    · go_wp2_with fail
      refine (append_form w.heap.size s[k] _ _ wr (fx_below hb.out ho F.out) hr.out ho hsz (by rw [List.length_cons]; omega)).mono ?_
      rintro e w2 ⟨v2, rfl, hr2, hb2⟩
      have R2 := Lib.hid hr2
      have B2 := Lib.hid (hb.out.trans hb2)
      clear hr2 hb2
      go_wp2_with fail
      go_roundw
      case rel =>
        refine ⟨k + 1, hlt, by go_num, ?_, B2⟩
        have e1 : s.data.toList.take (k + 1) = s.data.toList.take k ++ [s[k]] := by
          rw [List.take_succ_eq_append_getElem (by simpa using hlt)]
          rfl
        rw [e1, forms_snoc]
        exact R2
      case measure => simp [intOf]; omega
    · obtain rfl : s.size = k := by omega
      go_wp2_with (at_builtin; refine wpList_row rfl _ _ rfl w.heap.size _ _ [34] rfl (hr.out.alloc _) ⟨wr.heap.size, 0, none⟩ 1 rfl ?d1 ?d2 ?d3 ?_)
      case d1 =>
        refine new_cells wr _ _ 0 _ fun j hj => ?_
        obtain rfl : j = 0 := by simpa using hj
        rfl
      case d2 => simp only [List.length_cons, List.length_nil]; omega
      case d3 => simp; omega
      intro v3 w3 hr3 hb3
      have ht := hr3.text
      have R3 := Lib.hid hr3
      have B3 := Lib.hid hb3
      clear hr3 hb3
      go_wp2_with fail
      go_ret
      refine ⟨?_, ?_⟩
      · have e1 : s.data.toList.take s.size = s.data.toList := List.take_of_length_le (by simp)
        rw [e1]
        rfl
      · exact hb.out.trans (((Below.refl _ _).alloc hsz _).trans B3.out)
end Go.Proofs.YthekabflbpfjoaaGreatDoor.lit
