/- Addresses, plain: identifiers, keys, their texts, and what is read of a text. -/
import Derived.Test.YthekabflbpfjoaaGreatDoorPrsm
import Derived.Test.YthekabflbpfjoaaGreatDoorLqtm
import Derived.Lib.ValidAsc
namespace Go.Proofs.YthekabflbpfjoaaGreatDoor.adr
open Go.Proofs.YthekabflbpfjoaaGreatDoor

def letter (c : UInt8) : Bool := (decide (97 ≤ c.toNat) && decide (c.toNat ≤ 122)) || (decide (65 ≤ c.toNat) && decide (c.toNat ≤ 90))
def idc (c : UInt8) : Bool := letter c || txt.digit c || c == 95
def word (l : List UInt8) : List UInt8 := l.takeWhile idc
/-- The number of the first byte (0 of none). -/
def hd (l : List UInt8) : Nat := (l.getD 0 0).toNat
def isId (l : List UInt8) : Bool := !l.isEmpty && decide (l.length ≤ 64) && !txt.digit (l.getD 0 0) && l.all idc
def words : List (List UInt8) := [[109, 111, 100, 117, 108, 101], [100, 97, 116, 97], [118, 97, 114], [108, 111, 99, 97, 108], [111, 117, 116, 112, 117, 116], [101, 97, 99, 104], [99, 111, 117, 110, 116], [114, 101, 109, 111, 116, 101], [112, 97, 116, 104], [115, 101, 108, 102], [99, 104, 97, 110, 103, 101]]
def isTy (l : List UInt8) : Bool := !words.contains l && isId l

structure K where
  kind : Int
  num : Int
  str : ByteArray
def K.zero : K := ⟨0, 0, ⟨#[]⟩⟩
structure St where
  name : ByteArray
  key : K
structure Rs where
  data : Bool
  type : ByteArray
  name : ByteArray
  key : K
structure Ad where
  mods : List St
  res : Rs

def okS (l : List UInt8) : Bool := decide (l.length ≤ 4096) && Lib.validD l
def okK (k : K) : Bool :=
  if k.kind = 0 then decide (k.num = 0) && decide (k.str.size = 0)
  else if k.kind = 1 then decide (0 ≤ k.num) && decide (k.num ≤ 9007199254740992) && decide (k.str.size = 0)
  else if k.kind = 2 then decide (k.num = 0) && okS k.str.data.toList
  else false
/-- The text of a key. -/
def fK (k : K) : List UInt8 :=
  if okK k = false then []
  else if k.kind = 1 then 91 :: (Lib.itoa k.num ++ [93])
  else if k.kind = 2 then 91 :: (lit.quoteL k.str.data.toList ++ [93])
  else []
def modB : List UInt8 := [109, 111, 100, 117, 108, 101, 46]
def dataB : List UInt8 := [100, 97, 116, 97, 46]
/-- The text of a step, without a dot behind it. -/
def tS (s : St) : List UInt8 := modB ++ (s.name.data.toList ++ fK s.key)
def tSs : List St → List UInt8
  | [] => []
  | s :: t => tS s ++ (46 :: tSs t)
def tR (r : Rs) : List UInt8 := (if r.data then dataB else []) ++ (r.type.data.toList ++ (46 :: (r.name.data.toList ++ fK r.key)))
def tA (a : Ad) : List UInt8 := tSs a.mods ++ tR a.res
def chkN (n : ByteArray) (k : K) : Int := if isId n.data.toList = false then 7 else if okK k = false then 1 else 0
def chkS : List St → Int
  | [] => 0
  | s :: t => if chkN s.name s.key = 0 then chkS t else chkN s.name s.key
def chkR (r : Rs) : Int := if isTy r.type.data.toList = false then 7 else chkN r.name r.key
def chk (a : Ad) : Int := if 16 < a.mods.length then 4 else if chkS a.mods = 0 then chkR a.res else chkS a.mods
def fA (a : Ad) : List UInt8 := if chk a = 0 then tA a else []

/-! ### reading -/
def rdS (t : List UInt8) : Option (K × List UInt8) :=
  if (lit.unq t).2.2 = 0 ∧ (t.drop (lit.unq t).2.1.toNat).head? = some 93 ∧ lit.quoteL (lit.unq t).1 = t.take (lit.unq t).2.1.toNat then some (⟨2, 0, ⟨(lit.unq t).1.toArray⟩⟩, t.drop ((lit.unq t).2.1.toNat + 1)) else none
def cutD (c : UInt8) (t : List UInt8) : List UInt8 := t.takeWhile (fun x => x != c)
def rdN (t : List UInt8) : Option (K × List UInt8) :=
  if num.pe (cutD 93 t) = 0 ∧ (cutD 93 t).length < t.length ∧ 0 ≤ num.pv (cutD 93 t) then some (⟨1, num.pv (cutD 93 t), ⟨#[]⟩⟩, t.drop ((cutD 93 t).length + 1)) else none
def rdK : List UInt8 → Option (K × List UInt8)
  | [] => some (K.zero, [])
  | c :: t => if c = 91 then (if t.head? = some 34 then rdS t else rdN t) else some (K.zero, c :: t)
def rdNm (l : List UInt8) : Option (St × List UInt8) :=
  if isId (word l) = true then (rdK (l.drop (word l).length)).map fun x => (⟨⟨(word l).toArray⟩, x.1⟩, x.2) else none
def rdR' (d : Bool) (s : List UInt8) : Option Rs :=
  match rdNm (s.drop ((cutD 46 s).length + 1)) with
  | some (st, []) => if isTy (cutD 46 s) = true then some ⟨d, ⟨(cutD 46 s).toArray⟩, st.name, st.key⟩ else none
  | _ => none
def rdR (l : List UInt8) : Option Rs := rdR' (Lib.hasPrefix l dataB) (Lib.trimPrefix l dataB)
/-- At most k steps, and what is left where another one follows. -/
def chunk : Nat → List UInt8 → Option (List St × Option Rs × List UInt8)
  | k, l =>
    if Lib.hasPrefix l modB = false then (rdR l).map fun r => ([], some r, [])
    else match k with
    | 0 => some ([], none, l)
    | k + 1 =>
      match rdNm (Lib.trimPrefix l modB) with
      | none => none
      | some (st, []) => some ([st], none, [])
      | some (st, c :: r) => if c = 46 then (chunk k r).map fun x => (st :: x.1, x.2) else none
/-- Any number of steps (fewer than the fuel). -/
def place : Nat → List UInt8 → Option (List St × Option Rs)
  | 0, _ => none
  | f + 1, l =>
    if Lib.hasPrefix l modB = false then (rdR l).map fun r => ([], some r)
    else match rdNm (Lib.trimPrefix l modB) with
      | none => none
      | some (st, []) => some ([st], none)
      | some (st, c :: r) => if c = 46 then (place f r).map fun x => (st :: x.1, x.2) else none

/-! ### bytes -/
theorem ba_mk (s : ByteArray) : (⟨s.data.toList.toArray⟩ : ByteArray) = s := rfl
theorem ba_list (l : List UInt8) : (⟨l.toArray⟩ : ByteArray).data.toList = l := by simp
theorem ba_ext {a b : ByteArray} (h : a.data.toList = b.data.toList) : a = b := by
  cases a with | mk a => cases b with | mk b => exact congrArg _ (Array.toList_inj.1 h)
theorem ba_empty {s : ByteArray} (h : s.size = 0) : s = ⟨#[]⟩ := ba_ext (List.eq_nil_of_length_eq_zero (by simpa using h))
theorem ba_size (l : List UInt8) : (⟨l.toArray⟩ : ByteArray).size = l.length := by simp [ByteArray.size]

theorem idc_dot : idc 46 = false := by decide
theorem idc_open : idc 91 = false := by decide
theorem takeWhile_app {p : UInt8 → Bool} {a b : List UInt8} (h : a.all p = true) (hb : ∀ c, b.head? = some c → p c = false) : (a ++ b).takeWhile p = a := by
  induction a with
  | nil =>
    cases b with
    | nil => rfl
    | cons c t => simp [hb c rfl]
  | cons c t ih =>
    rw [List.all_cons, Bool.and_eq_true] at h
    simp [h.1, ih h.2]
theorem takeWhile_all {p : UInt8 → Bool} (l : List UInt8) : (l.takeWhile p).all p = true := by
  induction l with
  | nil => rfl
  | cons c t ih =>
    simp only [List.takeWhile]
    split
    · simp_all
    · rfl
theorem takeWhile_split {p : UInt8 → Bool} (l : List UInt8) : l = l.takeWhile p ++ l.drop (l.takeWhile p).length := by
  induction l with
  | nil => rfl
  | cons c t ih =>
    simp only [List.takeWhile]
    split
    · simp only [List.length_cons, List.drop_succ_cons, List.cons_append]
      exact congrArg _ ih
    · rfl
theorem takeWhile_stop {p : UInt8 → Bool} (l : List UInt8) : ∀ c, (l.drop (l.takeWhile p).length).head? = some c → p c = false := by
  induction l with
  | nil => intro c h; simp at h
  | cons a t ih =>
    intro c h
    simp only [List.takeWhile] at h
    split at h
    · simp only [List.length_cons, List.drop_succ_cons] at h
      exact ih c h
    · rename_i hp
      simp only [List.length_nil, List.drop_zero, List.head?_cons, Option.some.injEq] at h
      subst h
      simpa using hp

theorem isId_iff (l : List UInt8) : isId l = true ↔ l ≠ [] ∧ l.length ≤ 64 ∧ txt.digit (l.getD 0 0) = false ∧ l.all idc = true := by
  unfold isId
  simp only [Bool.and_eq_true, decide_eq_true_eq, Bool.not_eq_true', List.isEmpty_eq_false_iff]
  constructor
  · rintro ⟨⟨⟨a, b⟩, c⟩, d⟩; exact ⟨a, b, c, d⟩
  · rintro ⟨a, b, c, d⟩; exact ⟨⟨⟨a, b⟩, c⟩, d⟩
theorem isTy_iff (l : List UInt8) : isTy l = true ↔ l ∉ words ∧ isId l = true := by
  unfold isTy
  simp [Bool.and_eq_true]
theorem isId_all {l : List UInt8} (h : isId l = true) : l.all idc = true := ((isId_iff l).1 h).2.2.2
theorem isTy_id {l : List UInt8} (h : isTy l = true) : isId l = true := ((isTy_iff l).1 h).2

/-! ### keys -/
/-- What may follow a name with its key. -/
def ends (l : List UInt8) : Prop := ∀ c, l.head? = some c → c = 46
theorem ends_idc {l : List UInt8} (h : ends l) : ∀ c, l.head? = some c → idc c = false := fun c hc => by rw [h c hc]; exact idc_dot
theorem okK_cases (k : K) (h : okK k = true) : (k = K.zero) ∨ (k.kind = 1 ∧ 0 ≤ k.num ∧ k.num ≤ 9007199254740992 ∧ k.str = ⟨#[]⟩) ∨ (k.kind = 2 ∧ k.num = 0 ∧ okS k.str.data.toList = true) := by
  unfold okK at h
  obtain ⟨kd, n, s⟩ := k
  simp only at h ⊢
  split at h
  · simp only [Bool.and_eq_true, decide_eq_true_eq] at h
    left
    rename_i e
    unfold K.zero
    rw [e, h.1, ba_empty h.2]
  split at h
  · simp only [Bool.and_eq_true, decide_eq_true_eq] at h
    rename_i _ e
    exact .inr (.inl ⟨e, h.1.1, h.1.2, ba_empty h.2⟩)
  split at h
  · simp only [Bool.and_eq_true, decide_eq_true_eq] at h
    rename_i _ _ e
    exact .inr (.inr ⟨e, h.1, h.2⟩)
  · cases h
theorem okS_iff (l : List UInt8) : okS l = true ↔ l.length ≤ 4096 ∧ Lib.validD l = true := by simp [okS]
theorem okK_zero : okK K.zero = true := by decide
theorem okK_num {n : Int} (h0 : 0 ≤ n) (h1 : n ≤ 9007199254740992) : okK ⟨1, n, ⟨#[]⟩⟩ = true := by
  unfold okK
  rw [if_neg (show ¬ (1 : Int) = 0 by decide), if_pos rfl, decide_eq_true h0, decide_eq_true h1]
  rfl
theorem okK_str {l : List UInt8} (h : okS l = true) : okK ⟨2, 0, ⟨l.toArray⟩⟩ = true := by simp [okK, h]
theorem fK_zero : fK K.zero = [] := by decide
theorem fK_num {n : Int} (h0 : 0 ≤ n) (h1 : n ≤ 9007199254740992) : fK ⟨1, n, ⟨#[]⟩⟩ = 91 :: (Lib.itoa n ++ [93]) := by
  unfold fK
  rw [okK_num h0 h1, if_neg (by decide), if_pos rfl]
theorem fK_str {s : ByteArray} (h : okS s.data.toList = true) : fK ⟨2, 0, s⟩ = 91 :: (lit.quoteL s.data.toList ++ [93]) := by
  unfold fK
  have : okK ⟨2, 0, s⟩ = true := by have := okK_str h; rwa [ba_mk] at this
  rw [this, if_neg (by decide), if_neg (by show ¬ (2 : Int) = 1; decide), if_pos rfl]

theorem cutD_app {c : UInt8} {a b : List UInt8} (h : a.all (fun x => x != c) = true) : cutD c (a ++ c :: b) = a :=
  takeWhile_app h fun x hx => by
    simp only [List.head?_cons, Option.some.injEq] at hx
    subst hx
    simp
theorem itoa_digits (n : Int) (h : 0 ≤ n) : (Lib.itoa n).all txt.digit = true := by
  unfold Lib.itoa
  rw [if_neg (by omega), List.all_eq_true]
  exact txt.dd_all _
theorem digit_ne {c : UInt8} (h : txt.digit c = true) : c ≠ 93 ∧ c ≠ 45 ∧ c ≠ 34 := by
  have := (txt.digit_iff c).1 h
  refine ⟨?_, ?_, ?_⟩ <;> (rintro rfl; simp at this)
theorem itoa_ne (n : Int) (h : 0 ≤ n) : (Lib.itoa n).all (fun x => x != 93) = true := by
  have := itoa_digits n h
  rw [List.all_eq_true] at this ⊢
  intro x hx
  simpa using (digit_ne (this x hx)).1
theorem itoa_head (n : Int) (h : 0 ≤ n) : (Lib.itoa n).head? ≠ some 34 := by
  intro e
  have := itoa_digits n h
  rw [List.all_eq_true] at this
  exact (digit_ne (this 34 (List.mem_of_head? e))).2.2 rfl
theorem itoa_nil (n : Int) (h : 0 ≤ n) : Lib.itoa n ≠ [] := by
  unfold Lib.itoa
  rw [if_neg (by omega)]
  exact txt.dd_ne _

theorem rdK_open (t : List UInt8) : rdK (91 :: t) = if t.head? = some 34 then rdS t else rdN t := by
  show (if (91 : UInt8) = 91 then (if t.head? = some 34 then rdS t else rdN t) else some (K.zero, 91 :: t)) = _
  rw [if_pos rfl]
/-- A key is read back from its text, whatever follows that may follow. -/
theorem rdK_back (k : K) (rest : List UInt8) (h : okK k = true) (hr : ends rest) : rdK (fK k ++ rest) = some (k, rest) := by
  rcases okK_cases k h with rfl | ⟨h1, h2, h3, h4⟩ | ⟨h1, h2, h3⟩
  · rw [fK_zero, List.nil_append]
    cases rest with
    | nil => rfl
    | cons c t =>
      have : c = 46 := hr c rfl
      subst this
      rfl
  · obtain ⟨kd, n, s⟩ := k
    simp only at h1 h2 h3 h4
    subst h1 h4
    rw [fK_num h2 h3, List.cons_append, List.append_assoc, List.singleton_append]
    have hp := (num.parse_itoa n).1 ⟨by omega, h3⟩
    have hc : cutD 93 (Lib.itoa n ++ 93 :: rest) = Lib.itoa n := cutD_app (itoa_ne n h2)
    have hh : ¬ (Lib.itoa n ++ 93 :: rest).head? = some 34 := by
      intro e
      apply itoa_head n h2
      rw [← e]
      cases hx : Lib.itoa n with
      | nil => exact absurd hx (itoa_nil n h2)
      | cons a b => rfl
    rw [rdK_open, if_neg hh]
    unfold rdN
    rw [hc, hp.1, hp.2, if_pos ⟨rfl, by rw [List.length_append, List.length_cons]; omega, h2⟩]
    have : (Lib.itoa n ++ 93 :: rest).drop ((Lib.itoa n).length + 1) = rest := by
      rw [List.drop_append, List.drop_eq_nil_of_le (by omega), show (Lib.itoa n).length + 1 - (Lib.itoa n).length = 1 by omega]
      rfl
    rw [this]
  · obtain ⟨kd, n, s⟩ := k
    simp only at h1 h2 h3
    subst h1 h2
    rw [fK_str h3, List.cons_append, List.append_assoc, List.singleton_append]
    obtain ⟨hl, hv⟩ := (okS_iff _).1 h3
    have hu := lit.unq_quote s.data.toList (93 :: rest) hv hl
    have hq : (lit.quoteL s.data.toList ++ 93 :: rest).head? = some 34 := by simp [lit.quoteL]
    rw [rdK_open, if_pos hq]
    unfold rdS
    rw [hu]
    simp only [Int.toNat_natCast]
    have e1 : (lit.quoteL s.data.toList ++ 93 :: rest).drop (lit.quoteL s.data.toList).length = 93 :: rest := List.drop_left
    have e2 : (lit.quoteL s.data.toList ++ 93 :: rest).take (lit.quoteL s.data.toList).length = lit.quoteL s.data.toList := List.take_left
    have e3 : (lit.quoteL s.data.toList ++ 93 :: rest).drop ((lit.quoteL s.data.toList).length + 1) = rest := by
      rw [← List.drop_drop, e1]; rfl
    rw [e1, e2, e3, if_pos ⟨trivial, rfl, rfl⟩]
theorem fK_head (k : K) (rest : List UInt8) (h : okK k = true) (hr : ends rest) : ∀ c, (fK k ++ rest).head? = some c → idc c = false := by
  intro c hc
  rcases okK_cases k h with rfl | ⟨h1, h2, h3, h4⟩ | ⟨h1, h2, h3⟩
  · rw [fK_zero, List.nil_append] at hc
    exact ends_idc hr c hc
  all_goals
    have : c = 91 := by
      unfold fK at hc
      rw [h, if_neg (by decide), h1] at hc
      simpa using hc.symm
    rw [this]
    exact idc_open
theorem rdNm_back (s : St) (rest : List UInt8) (h : chkN s.name s.key = 0) (hr : ends rest) : rdNm (s.name.data.toList ++ (fK s.key ++ rest)) = some (s, rest) := by
  unfold chkN at h
  split at h
  · cases h
  split at h
  · cases h
  rename_i h1 h2
  rw [Bool.not_eq_false] at h1 h2
  have hw : word (s.name.data.toList ++ (fK s.key ++ rest)) = s.name.data.toList := takeWhile_app (isId_all h1) (fK_head _ _ h2 hr)
  unfold rdNm
  rw [hw, if_pos h1, List.drop_left, rdK_back _ _ h2 hr]
  rfl

end Go.Proofs.YthekabflbpfjoaaGreatDoor.adr
