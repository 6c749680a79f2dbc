/- Package number, what package address calls of it: Valid and Format; Plain facts on decimal numerals as lists of bytes: which lists are numerals of natural numbers, and what they are worth; Contracts of isNatural and Parse of package number; Contract of Parse of package number: what it returns for every text; Plain facts on decimal numerals: the digits of a number are a numeral that is worth the number; a numeral is made of the digits of what it is worth; What Parse of package number says of the text of a number, and of a text that it takes. -/
import Derived.Test.YthekabflbpfjoaaGreatDoorChecked
import Derived.Test.YthekabflbpfjoaaGreatDoorShelf
import Derived.Lib.SmallJoins
import Derived.WalkKit
import Derived.WalkSpells
import Derived.WalkLawsBesides
import Derived.Handy
import Derived.Lib.Hide
import Derived.BigQuiet
import Derived.Deep.QuietTactic
import Derived.Lib.ItoaNum
import Derived.Lib.Strings
import Derived.Lib.ItoaLen
namespace Go.Proofs.YthekabflbpfjoaaGreatDoor.num
open Go.RowKit

/-- Not valid: outside -2^53 .. 2^53. -/
def bad (n : Int) : Prop := n < -9007199254740992 ∨ 9007199254740992 < n
/-- Valid. -/
def good (n : Int) : Prop := -9007199254740992 ≤ n ∧ n ≤ 9007199254740992

set_option maxHeartbeats 400000 in
theorem valid_yes (n : Int) (w : World) (h0 : -9007199254740992 ≤ n) (h1 : n ≤ 9007199254740992) :
    Calls Tryz.prog 60 #[.int .i64 n] w fun e w' => e = .returned (.bool true) ∧ w = w' := by
  go_enter Tryz.func60, Tryz.ntmps60
  go_wp2
  go_ret
  exact ⟨rfl, rfl⟩

set_option maxHeartbeats 400000 in
theorem valid_no (n : Int) (w : World) (h : bad n) :
    Calls Tryz.prog 60 #[.int .i64 n] w fun e w' => e = .returned (.bool false) ∧ w = w' := by
  rcases h with h | h
  · go_enter Tryz.func60, Tryz.ntmps60
    go_wp2
    go_ret
    exact ⟨rfl, rfl⟩
  · have h0 : -9007199254740992 ≤ n := by omega
    have hd : decide (n ≤ 9007199254740992) = false := by simp; omega
    go_enter Tryz.func60, Tryz.ntmps60
    go_wp2
    go_ret
    exact ⟨rfl, rfl⟩


theorem grow_below (w : World) (k : Nat) (os : Array Obj) : Below w.heap.size w (Sort.grow (w.drewN k) os) :=
  ⟨rfl, rfl, rfl, by simp, fun j hj => by rw [Sort.heap_grow_old _ _ (by simpa using hj)]; rfl⟩

def Tab (w : World) : Prop := Lib.TabIs Tryz.prog w "internal/strconv.uint64pow10" .u64 Lib.pow10Tab
theorem Tab.out {w : World} (h : Tab w) : Lib.TabIs Tryz.prog w "internal/strconv.uint64pow10" .u64 Lib.pow10Tab := h

set_option maxHeartbeats 400000 in
theorem format_any (n : Int) (w : World) (h0 : -9223372036854775808 ≤ n) (h1 : n ≤ 9223372036854775807) (ht : Tab w) :
    Calls Tryz.prog 35 #[.int .i64 n] w fun e w' => e = .returned (.string ⟨(Lib.itoa n).toArray⟩) ∧ Below w.heap.size w w' := by
  have HT := Lib.hid ht; clear ht
  go_enter Tryz.func35, Tryz.ntmps35
  go_wp2_with (go_at_call 62; ((with_reducible refine (Tryz.strconv_Itoa n h0 h1 _ HT.out.out).mono ?_); rintro e w' ⟨rfl, k, os, rfl⟩))
  go_ret
  exact ⟨rfl, grow_below _ _ _⟩


end Go.Proofs.YthekabflbpfjoaaGreatDoor.num

namespace Go.Proofs.YthekabflbpfjoaaGreatDoor.txt

def digit (c : UInt8) : Bool := decide (48 ≤ c.toNat) && decide (c.toNat ≤ 57)
theorem digit_iff (c : UInt8) : digit c = true ↔ 48 ≤ c.toNat ∧ c.toNat ≤ 57 := by simp [digit]

/-- A numeral of a natural number, without leading zeros. -/
def natL (l : List UInt8) : Bool := !l.isEmpty && !(decide (1 < l.length) && l.head? == some 48) && l.all digit

/-- What a list of digits is worth. -/
def val (l : List UInt8) : Nat := l.foldl (fun n c => 10 * n + (c.toNat - 48)) 0

theorem val_nil : val [] = 0 := rfl
theorem val_snoc (l : List UInt8) (c : UInt8) : val (l ++ [c]) = 10 * val l + (c.toNat - 48) := by simp [val]
theorem val_take (l : List UInt8) (k : Nat) (h : k < l.length) : val (l.take (k + 1)) = 10 * val (l.take k) + (l[k].toNat - 48) := by
  rw [List.take_succ_eq_append_getElem h, val_snoc]
theorem val_mono (l : List UInt8) (k m : Nat) (hk : k ≤ m) : val (l.take k) ≤ val (l.take m) := by
  induction m with
  | zero => rw [show k = 0 by omega]; exact Nat.le_refl _
  | succ m ih =>
    by_cases he : k = m + 1
    · rw [he]; exact Nat.le_refl _
    · have h1 := ih (by omega)
      by_cases hm : m < l.length
      · rw [val_take l m hm]; omega
      · rw [List.take_of_length_le (i := m + 1) (by omega)]
        rw [List.take_of_length_le (i := m) (by omega)] at h1
        exact h1
theorem val_le (l : List UInt8) (k : Nat) : val (l.take k) ≤ val l := by
  by_cases h : k ≤ l.length
  · have := val_mono l k l.length h
    rwa [List.take_length] at this
  · rw [List.take_of_length_le (by omega)]; exact Nat.le_refl _

theorem natL_nil : natL [] = false := rfl
theorem natL_zero (l : List UInt8) (h : 1 < l.length) (h0 : l[0] = 48) : natL l = false := by
  cases l with
  | nil => simp at h
  | cons c t =>
    simp only [List.getElem_cons_zero] at h0
    subst h0
    have ht : t ≠ [] := by intro e; subst e; simp at h
    simp only [List.length_cons] at h
    have h1 : 1 < t.length + 1 := by omega
    simp [natL, ht]
theorem natL_not (l : List UInt8) (k : Nat) (h : k < l.length) (hc : digit l[k] = false) : natL l = false := by
  have : l.all digit = false := by
    rw [List.all_eq_false]
    exact ⟨l[k], List.getElem_mem h, by simp [hc]⟩
  simp [natL, this]
theorem natL_yes (l : List UInt8) (h : 0 < l.length) (h0 : 1 < l.length → l[0] ≠ 48) (ha : ∀ (k : Nat) (hk : k < l.length), digit l[k] = true) : natL l = true := by
  have h1 : l.all digit = true := by
    rw [List.all_eq_true]
    intro x hx
    obtain ⟨k, hk, rfl⟩ := List.getElem_of_mem hx
    exact ha k hk
  cases l with
  | nil => simp at h
  | cons c t =>
    simp only [natL, h1, Bool.and_true]
    by_cases ht : t = []
    · subst ht; simp
    · have hp : 0 < t.length := List.length_pos_iff.2 ht
      have := h0 (by simp; omega)
      simp only [List.getElem_cons_zero] at this
      simp [this]

theorem natL_digit (l : List UInt8) (h : natL l = true) (k : Nat) (hk : k < l.length) : 48 ≤ l[k].toNat ∧ l[k].toNat ≤ 57 := by
  simp only [natL, Bool.and_eq_true] at h
  exact (digit_iff _).1 (List.all_eq_true.1 h.2 _ (List.getElem_mem hk))
theorem natL_pos (l : List UInt8) (h : natL l = true) : 0 < l.length := by
  cases l with
  | nil => simp [natL] at h
  | cons c t => simp
theorem natL_head (l : List UInt8) (h : natL l = true) (h1 : 1 < l.length) : l[0] ≠ 48 := by
  intro h0
  rw [natL_zero l h1 h0] at h
  cases h

end Go.Proofs.YthekabflbpfjoaaGreatDoor.txt

namespace Go.Proofs.YthekabflbpfjoaaGreatDoor.num
open Go.RowKit
open Go.Proofs.YthekabflbpfjoaaGreatDoor.txt

theorem toList_data (s : ByteArray) : s.toList = s.data.toList := ByteArray.toList_eq s
theorem empty_yes (s : ByteArray) (h : s.size = 0) : s.toList = [] := by rw [toList_data]; exact List.eq_nil_of_length_eq_zero (by simpa using h)
theorem empty_no (s : ByteArray) (h : 0 < s.size) : s.toList.isEmpty = false := by
  rw [toList_data]
  have : s.data.toList.length = s.size := by simp
  cases hl : s.data.toList with
  | nil => rw [hl] at this; simp at this; omega
  | cons => rfl

set_option maxHeartbeats 400000 in
theorem nat_empty (s : ByteArray) (w : World) (h : s.toList = []) :
    Calls Tryz.prog 127 #[.string s] w fun e w' => e = .returned (.bool false) ∧ w = w' := by
  have h' : s.toList.isEmpty = true := by rw [h]; rfl
  go_enter Tryz.func127, Tryz.ntmps127
  go_wp2
  go_ret
  exact ⟨rfl, rfl⟩

set_option maxHeartbeats 400000 in
theorem nat_zero (s : ByteArray) (w : World) (he : s.toList.isEmpty = false) (h1 : 1 < s.size) (hs : s.size ≤ maxLen) (h0 : ((s[0].toNat : Int) == 48) = true) :
    Calls Tryz.prog 127 #[.string s] w fun e w' => e = .returned (.bool false) ∧ w = w' := by
  unfold maxLen at hs
  go_enter Tryz.func127, Tryz.ntmps127
  go_wp2
  go_ret
  exact ⟨rfl, rfl⟩

def Digits (s : ByteArray) (k : Nat) : Prop := ∀ (j : Nat) (hj : j < s.size), j < k → 48 ≤ s[j].toNat ∧ s[j].toNat ≤ 57

theorem Digits.step {s : ByteArray} {k : Nat} (h : Digits s k) (hk : k < s.size) (c0 : 48 ≤ s[k].toNat) (c1 : s[k].toNat ≤ 57) : Digits s (k + 1) := by
  intro j hj hlt
  by_cases e : j = k
  · subst e; exact ⟨c0, c1⟩
  · exact h j hj (by omega)
theorem nat_no (s : ByteArray) (k : Nat) (hk : k < s.size) (h : s[k].toNat < 48 ∨ 57 < s[k].toNat) : natL s.data.toList = false := by
  refine natL_not _ k (by simpa using hk) ?_
  have e : (s.data.toList[k]'(by simpa using hk)) = s[k] := rfl
  rw [e]
  cases hd : digit s[k] with
  | false => rfl
  | true => have := (digit_iff _).1 hd; omega
theorem nat_yes (s : ByteArray) (h : 0 < s.size) (h0 : 1 < s.size → ∀ h : 0 < s.size, ((s[0].toNat : Int) == 48) = false) (hd : Digits s s.size) : natL s.data.toList = true := by
  refine natL_yes _ (by simpa using h) ?_ ?_
  · intro h1 he
    have h1' : 1 < s.size := by simpa using h1
    have e : (s.data.toList[0]'(by simpa using h)) = s[0] := rfl
    rw [e] at he
    have := h0 h1' h
    rw [he] at this
    exact absurd this (by decide)
  · intro k hk
    have hk' : k < s.size := by simpa using hk
    exact (digit_iff _).2 (hd k hk' hk')

set_option maxHeartbeats 1000000 in
theorem nat_loop (s : ByteArray) (w : World) (he : s.toList.isEmpty = false) (hs : s.size ≤ maxLen) (h0 : s.size ≤ 1 ∨ ∃ h : 0 < s.size, 1 < s.size ∧ ((s[0].toNat : Int) == 48) = false) (hy : Hid (Digits s s.size → natL s.data.toList = true)) (hno : Hid (∀ (k : Nat) (hk : k < s.size), s[k].toNat < 48 ∨ 57 < s[k].toNat → natL s.data.toList = false)) :
    Calls Tryz.prog 127 #[.string s] w fun e w' => e = .returned (.bool (natL s.data.toList)) ∧ w = w' := by
  unfold maxLen at hs
  generalize natL s.data.toList = z at *
  rcases h0 with h0 | ⟨hp, h1, h0⟩
  all_goals
    go_enter Tryz.func127, Tryz.ntmps127
    go_wp2
    go_loop [3] (fun i => ∃ k : Nat, k ≤ s.size ∧ i = .int .i64 k ∧ Digits s k) (fun i => s.size - (intOf i).toNat)
    case atStart => exact ⟨0, Nat.zero_le _, rfl, fun j hj hk => absurd hk (by omega)⟩
    case round =>
      obtain ⟨k, hk, rfl, hd⟩ := hrel
      have HD := Lib.hid hd
      clear hd
      by_cases hlt : k < s.size
      · by_cases c0 : s[k].toNat < 48
        · have hz := Lib.hid (hno.out k hlt (.inl c0))
          have c1 : (s[k].toNat : Int) < 48 := by omega
          go_wp2
          go_ret
          exact ⟨by rw [hz.out]; rfl, rfl⟩
        · by_cases c2 : 57 < s[k].toNat
          · have hz := Lib.hid (hno.out k hlt (.inr c2))
            have c1 : 48 ≤ (s[k].toNat : Int) := by omega
            have c3 : 57 < (s[k].toNat : Int) := by omega
            go_wp2
            go_ret
            exact ⟨by rw [hz.out]; rfl, rfl⟩
          · have c1 : 48 ≤ (s[k].toNat : Int) := by omega
            have c3 : (s[k].toNat : Int) ≤ 57 := by omega
            go_wp2
            go_round
            case rel => exact ⟨k + 1, by omega, by go_num, HD.out.step hlt (by omega) (by omega)⟩
            case measure => simp [intOf]; omega
      · have hz := Lib.hid (hy.out (by rw [show s.size = k by omega]; exact HD.out))
        go_wp2
        go_ret
        exact ⟨by rw [hz.out]; rfl, rfl⟩

theorem nat_any (s : ByteArray) (w : World) (hs : s.size ≤ maxLen) :
    Calls Tryz.prog 127 #[.string s] w fun e w' => e = .returned (.bool (natL s.data.toList)) ∧ w = w' := by
  by_cases h : s.size = 0
  · have e : natL s.data.toList = false := by
      rw [← toList_data, empty_yes s h]; rfl
    rw [e]
    exact nat_empty s w (empty_yes s h)
  · have hp : 0 < s.size := by omega
    by_cases h1 : 1 < s.size
    · cases h0 : ((s[0].toNat : Int) == 48) with
      | true =>
        have e : natL s.data.toList = false := by
          refine natL_zero _ (by simpa using h1) ?_
          have e' : (s.data.toList[0]'(by simpa using hp)) = s[0] := rfl
          rw [e']
          have := beq_iff_eq.1 h0
          exact UInt8.toNat_inj.1 (by show s[0].toNat = 48; omega)
        rw [e]
        exact nat_zero s w (empty_no s hp) h1 hs h0
      | false => exact nat_loop s w (empty_no s hp) hs (.inr ⟨hp, h1, h0⟩) (Lib.hid fun hd => nat_yes s hp (fun _ _ => h0) hd) (Lib.hid fun k hk hc => nat_no s k hk hc)
    · exact nat_loop s w (empty_no s hp) hs (.inl (by omega)) (Lib.hid fun hd => nat_yes s hp (fun h => absurd h h1) hd) (Lib.hid fun k hk hc => nat_no s k hk hc)

end Go.Proofs.YthekabflbpfjoaaGreatDoor.num

namespace Go.Proofs.YthekabflbpfjoaaGreatDoor.num
open Go.RowKit
open Go.Proofs.YthekabflbpfjoaaGreatDoor.txt

set_option maxHeartbeats 400000 in
theorem parse_no (s D : ByteArray) (neg : Bool) (w : World) (hs : D.size ≤ maxLen)
  (hcut : Hid (∀ w, Calls Tryz.prog 65 #[.string s, .string ⟨#[45]⟩] w fun e w' => e = .returned (.tuple #[.string D, .bool neg]) ∧ w = w'))
  (hn : natL D.data.toList = false) :
    Calls Tryz.prog 114 #[.string s] w fun e w' => e = .returned (.tuple #[.int .i64 0, .int .i64 2]) ∧ w = w' := by
  have HS := Lib.hid hs
  unfold maxLen at hs
  have HN := Lib.hid hn
  clear hn
  go_enter Tryz.func114, Tryz.ntmps114
  go_wp2_with fail
  refine (hcut.out _).mono ?_; rintro e w' ⟨rfl, rfl⟩
  go_wp2_with fail
  refine (nat_any D _ HS.out).mono ?_; rintro e w' ⟨rfl, rfl⟩
  rw [HN.out]
  go_wp2_with fail
  go_ret2
  exact ⟨rfl, rfl⟩

set_option maxHeartbeats 400000 in
theorem parse_minus (s D : ByteArray) (w : World) (hs : D.size ≤ maxLen)
  (hcut : Hid (∀ w, Calls Tryz.prog 65 #[.string s, .string ⟨#[45]⟩] w fun e w' => e = .returned (.tuple #[.string D, .bool true]) ∧ w = w'))
  (hn : natL D.data.toList = true) (hz : (D.toList == [48]) = true) :
    Calls Tryz.prog 114 #[.string s] w fun e w' => e = .returned (.tuple #[.int .i64 0, .int .i64 2]) ∧ w = w' := by
  have HS := Lib.hid hs
  unfold maxLen at hs
  have HN := Lib.hid hn
  clear hn
  go_enter Tryz.func114, Tryz.ntmps114
  go_wp2_with fail
  refine (hcut.out _).mono ?_; rintro e w' ⟨rfl, rfl⟩
  go_wp2_with fail
  refine (nat_any D _ HS.out).mono ?_; rintro e w' ⟨rfl, rfl⟩
  rw [HN.out]
  go_wp2_with fail
  go_ret2
  exact ⟨rfl, rfl⟩

/-- The value of the first k digits. -/
def upTo (D : ByteArray) (k : Nat) : Nat := val (D.data.toList.take k)
theorem upTo_zero (D : ByteArray) : upTo D 0 = 0 := rfl
theorem upTo_step (D : ByteArray) (k : Nat) (h : k < D.size) : upTo D (k + 1) = 10 * upTo D k + (D[k].toNat - 48) := by
  unfold upTo; rw [val_take _ k (by simpa using h)]; rfl
theorem upTo_le (D : ByteArray) (k m : Nat) (h : k ≤ m) : upTo D k ≤ upTo D m := val_mono _ _ _ h
theorem upTo_all (D : ByteArray) : upTo D D.size = val D.data.toList := by
  unfold upTo; rw [List.take_of_length_le (by simp)]
theorem nat_bytes (D : ByteArray) (h : natL D.data.toList = true) (k : Nat) (hk : k < D.size) : 48 ≤ (D[k].toNat : Int) ∧ (D[k].toNat : Int) ≤ 57 := by
  have := natL_digit _ h k (by simpa using hk)
  have e : (D.data.toList[k]'(by simpa using hk)) = D[k] := rfl
  rw [e] at this
  omega

set_option maxHeartbeats 2000000 in
theorem parse_loop (s D : ByteArray) (neg : Bool) (w : World) (hs : D.size ≤ maxLen)
  (hcut : Hid (∀ w, Calls Tryz.prog 65 #[.string s, .string ⟨#[45]⟩] w fun e w' => e = .returned (.tuple #[.string D, .bool neg]) ∧ w = w'))
  (hn : natL D.data.toList = true) (hz : neg = false ∨ (neg = true ∧ (D.toList == [48]) = false)) :
    Calls Tryz.prog 114 #[.string s] w fun e w' => e = .returned (if upTo D D.size ≤ 9007199254740992 then .tuple #[.int .i64 (if neg then -(upTo D D.size : Int) else (upTo D D.size : Int)), .int .i64 0] else .tuple #[.int .i64 0, .int .i64 5]) ∧ w = w' := by
  have HS := Lib.hid hs
  unfold maxLen at hs
  have HN := Lib.hid hn
  clear hn
  rcases hz with rfl | ⟨rfl, hz⟩
  all_goals
    go_enter Tryz.func114, Tryz.ntmps114
    go_wp2_with fail
    refine (hcut.out _).mono ?_; rintro e w' ⟨rfl, rfl⟩
    go_wp2_with fail
    refine (nat_any D _ HS.out).mono ?_; rintro e w' ⟨rfl, rfl⟩
    rw [HN.out]
    go_wp2_with fail
    go_loop [6, 7] (fun n i => ∃ k : Nat, k ≤ D.size ∧ i = .int .i64 k ∧ n = .int .i64 (upTo D k) ∧ upTo D k ≤ 9007199254740992) (fun _ i => D.size - (intOf i).toNat)
    case atStart => exact ⟨0, Nat.zero_le _, rfl, rfl, by rw [upTo_zero]; omega⟩
    case round =>
      obtain ⟨k, hk, rfl, rfl, hv⟩ := hrel
      by_cases hlt : k < D.size
      · obtain ⟨c0, c1⟩ := nat_bytes D HN.out k hlt
        have st := Lib.hid (upTo_step D k hlt)
        have mo := Lib.hid (upTo_le D (k + 1) D.size hlt)
        by_cases hb : upTo D (k + 1) ≤ 9007199254740992
        · have g0 : -9007199254740992 ≤ (10 * (upTo D k : Int) + ((D[k].toNat : Int) - 48)) := by omega
          have g1 : (10 * (upTo D k : Int) + ((D[k].toNat : Int) - 48)) ≤ 9007199254740992 := by have := st.out; omega
          have hb' := Lib.hid hb
          clear hb
          go_wp2_with (go_at_call 60; ((with_reducible refine (valid_yes _ _ ?_ ?_).mono ?_); omega; omega; rintro e w' ⟨rfl, rfl⟩))
          go_round
          case rel => exact ⟨k + 1, by omega, by go_num, by rw [st.out]; congr 1; omega, hb'.out⟩
          case measure => simp [intOf]; omega
        · have hx : bad (10 * (upTo D k : Int) + ((D[k].toNat : Int) - 48)) := by have := st.out; unfold bad; omega
          have HX := Lib.hid hx
          have hfin := Lib.hid (show ¬ upTo D D.size ≤ 9007199254740992 by have := mo.out; omega)
          have hb' := Lib.hid hb
          clear hb hx
          go_wp2_with (go_at_call 60; ((with_reducible refine (valid_no _ _ HX.out).mono ?_); rintro e w' ⟨rfl, rfl⟩))
          go_ret2
          first | exact ⟨rfl, rfl⟩ | exact ⟨by rw [if_neg hfin.out]; rfl, rfl⟩
      · obtain rfl : D.size = k := by omega
        have hfin := Lib.hid hv
        go_wp2_with fail
        go_ret2
        first | exact ⟨rfl, rfl⟩ | exact ⟨by rw [if_pos hfin.out]; rfl, rfl⟩

/-- What Parse returns for a text: its number or 0, and the error. -/
def pv (l : List UInt8) : Int :=
  if natL (Lib.trimPrefix l [45]) = false ∨ (Lib.hasPrefix l [45] = true ∧ Lib.trimPrefix l [45] = [48]) then 0
  else if val (Lib.trimPrefix l [45]) ≤ 9007199254740992 then (if Lib.hasPrefix l [45] then -(val (Lib.trimPrefix l [45]) : Int) else (val (Lib.trimPrefix l [45]) : Int)) else 0
def pe (l : List UInt8) : Int :=
  if natL (Lib.trimPrefix l [45]) = false ∨ (Lib.hasPrefix l [45] = true ∧ Lib.trimPrefix l [45] = [48]) then 2
  else if val (Lib.trimPrefix l [45]) ≤ 9007199254740992 then 0 else 5

theorem trim_le (l p : List UInt8) : (Lib.trimPrefix l p).length ≤ l.length := by
  unfold Lib.trimPrefix; split
  · simp
  · exact Nat.le_refl _
theorem parse_any (s : ByteArray) (w : World) (hs : s.size ≤ maxLen) :
    Calls Tryz.prog 114 #[.string s] w fun e w' => e = .returned (.tuple #[.int .i64 (pv s.data.toList), .int .i64 (pe s.data.toList)]) ∧ w = w' := by
  have hcut : ∀ w, Calls Tryz.prog 65 #[.string s, .string ⟨#[45]⟩] w fun e w' => e = .returned (.tuple #[.string ⟨(Lib.trimPrefix s.data.toList [45]).toArray⟩, .bool (Lib.hasPrefix s.data.toList [45])]) ∧ w = w' := fun w =>
    (Tryz.strings_CutPrefix s ⟨#[45]⟩ w).mono fun _ _ ⟨he, hw⟩ => ⟨he, hw.symm⟩
  have hl : (⟨(Lib.trimPrefix s.data.toList [45]).toArray⟩ : ByteArray).size ≤ maxLen := by
    have := trim_le s.data.toList [45]
    have e : (⟨(Lib.trimPrefix s.data.toList [45]).toArray⟩ : ByteArray).size = (Lib.trimPrefix s.data.toList [45]).length := by simp [ByteArray.size]
    have e2 : s.data.toList.length = s.size := by simp
    omega
  have hd : (⟨(Lib.trimPrefix s.data.toList [45]).toArray⟩ : ByteArray).data.toList = Lib.trimPrefix s.data.toList [45] := by simp
  unfold pv pe
  generalize Lib.trimPrefix s.data.toList [45] = d at *
  generalize Lib.hasPrefix s.data.toList [45] = neg at *
  generalize hD : (⟨d.toArray⟩ : ByteArray) = D at *
  subst hd
  cases hn : natL D.data.toList with
  | false =>
    rw [if_pos (.inl rfl), if_pos (.inl rfl)]
    exact parse_no s D neg w hl (Lib.hid hcut) hn
  | true =>
    by_cases hz : neg = true ∧ D.data.toList = [48]
    · rw [if_pos (.inr hz), if_pos (.inr hz)]
      obtain ⟨rfl, hz⟩ := hz
      exact parse_minus s D w hl (Lib.hid hcut) hn (by rw [toList_data, hz]; rfl)
    · have hnot : ¬ (true = false ∨ (neg = true ∧ D.data.toList = [48])) := by
        rintro (h | h)
        · cases h
        · exact hz h
      rw [if_neg hnot, if_neg hnot]
      have hz' : neg = false ∨ (neg = true ∧ (D.toList == [48]) = false) := by
        cases neg with
        | false => exact .inl rfl
        | true =>
          refine .inr ⟨rfl, ?_⟩
          rw [toList_data]
          cases hq : (D.data.toList == [48]) with
          | false => rfl
          | true => exact absurd ⟨rfl, by simpa using hq⟩ hz
      refine (parse_loop s D neg w hl (Lib.hid hcut) hn hz').mono ?_
      rintro e w' ⟨he, hw⟩
      refine ⟨?_, hw⟩
      rw [he, upTo_all]
      by_cases hv : val D.data.toList ≤ 9007199254740992
      · rw [if_pos hv, if_pos hv, if_pos hv]
      · rw [if_neg hv, if_neg hv, if_neg hv]

end Go.Proofs.YthekabflbpfjoaaGreatDoor.num

namespace Go.Proofs.YthekabflbpfjoaaGreatDoor.txt
open Go.Lib

theorem dd_small (u : Nat) (h : u < 10) : decDigits u = [UInt8.ofNat (48 + u)] := by rw [decDigits, dif_pos h]
theorem dd_big (u : Nat) (h : ¬ u < 10) : decDigits u = decDigits (u / 10) ++ [UInt8.ofNat (48 + u % 10)] := by rw [decDigits, dif_neg h]
theorem byte_digit (d : Nat) (h : d < 10) : (UInt8.ofNat (48 + d)).toNat = 48 + d := by rw [UInt8.toNat_ofNat']; omega

theorem dd_val (u : Nat) : val (decDigits u) = u := by
  induction u using Nat.strongRecOn with
  | ind u ih =>
    by_cases h : u < 10
    · rw [dd_small u h]
      have := byte_digit u h
      simp only [val, List.foldl_cons, List.foldl_nil, this]
      omega
    · rw [dd_big u h, val_snoc, ih (u / 10) (by omega), byte_digit _ (by omega)]
      omega
theorem dd_ne (u : Nat) : decDigits u ≠ [] := by
  by_cases h : u < 10
  · rw [dd_small u h]; simp
  · rw [dd_big u h]; simp
theorem dd_all (u : Nat) : ∀ c ∈ decDigits u, digit c = true := by
  induction u using Nat.strongRecOn with
  | ind u ih =>
    by_cases h : u < 10
    · rw [dd_small u h]
      intro c hc
      simp only [List.mem_singleton] at hc
      subst hc
      have := byte_digit u h
      exact (digit_iff _).2 (by omega)
    · rw [dd_big u h]
      intro c hc
      simp only [List.mem_append, List.mem_singleton] at hc
      rcases hc with hc | rfl
      · exact ih (u / 10) (by omega) c hc
      · have := byte_digit (u % 10) (by omega)
        exact (digit_iff _).2 (by omega)
theorem dd_head (u : Nat) (h0 : 0 < u) : (decDigits u).head? ≠ some 48 := by
  induction u using Nat.strongRecOn with
  | ind u ih =>
    by_cases h : u < 10
    · rw [dd_small u h]
      intro hc
      simp only [List.head?_cons, Option.some.injEq] at hc
      have := byte_digit u h
      rw [hc] at this
      simp at this
      omega
    · rw [dd_big u h]
      have := ih (u / 10) (by omega) (by omega)
      have hn := dd_ne (u / 10)
      cases hd : decDigits (u / 10) with
      | nil => exact absurd hd hn
      | cons c t => rw [hd] at this; simpa using this
theorem dd_nat (u : Nat) : natL (decDigits u) = true := by
  have h1 : (decDigits u).all digit = true := List.all_eq_true.2 (dd_all u)
  have h2 : (decDigits u).isEmpty = false := by cases h : decDigits u with | nil => exact absurd h (dd_ne u) | cons => rfl
  unfold natL
  rw [h1, h2]
  by_cases hu : u < 10
  · rw [dd_small u hu]; simp
  · have := dd_head u (by omega)
    have h3 : ((decDigits u).head? == some 48) = false := by simpa using this
    rw [h3]; simp

/-- A numeral without its last digit. -/
theorem natL_init (l : List UInt8) (c : UInt8) (h : natL (l ++ [c]) = true) (hl : l ≠ []) : natL l = true ∧ 48 ≤ c.toNat ∧ c.toNat ≤ 57 ∧ l.head? ≠ some 48 := by
  have hp : 0 < l.length := List.length_pos_iff.2 hl
  have hc := natL_digit _ h l.length (by simp)
  have hh := natL_head _ h (by simp; omega)
  have e1 : (l ++ [c])[l.length]'(by simp) = c := by simp
  have e2 : (l ++ [c])[0]'(by simp) = l[0] := List.getElem_append_left (by omega)
  rw [e1] at hc
  rw [e2] at hh
  refine ⟨natL_yes l hp (fun _ => hh) ?_, hc.1, hc.2, ?_⟩
  · intro k hk
    have := natL_digit _ h k (by simp; omega)
    have e3 : (l ++ [c])[k]'(by simp; omega) = l[k] := List.getElem_append_left hk
    rw [e3] at this
    exact (digit_iff _).2 this
  · cases l with
    | nil => exact absurd rfl hl
    | cons x t => simp only [List.head?_cons]; exact fun e => hh (by simpa using e)

theorem nat_pos (l : List UInt8) : natL l = true → l.head? ≠ some 48 → 10 ^ (l.length - 1) ≤ val l := by
  induction h : l.length generalizing l with
  | zero => intro hn; have := natL_pos l hn; omega
  | succ n ih =>
    intro hn hh
    have hne : l ≠ [] := by intro e; subst e; simp at h
    obtain ⟨d, c, rfl⟩ : ∃ d c, l = d ++ [c] := ⟨_, _, (List.dropLast_concat_getLast hne).symm⟩
    by_cases hd : d = []
    · subst hd
      have hl : n = 0 := by simpa using h.symm
      subst hl
      have := natL_digit _ hn 0 (by simp)
      simp only [List.nil_append, List.getElem_cons_zero] at this
      have h48 : c ≠ 48 := by intro e; subst e; exact hh rfl
      have h49 : c.toNat ≠ 48 := fun e => h48 (UInt8.toNat_inj.1 e)
      simp only [List.nil_append, val, List.foldl_cons, List.foldl_nil]
      omega
    · obtain ⟨h1, h2, h3, h4⟩ := natL_init d c hn hd
      have hlen : d.length = n := by simpa using h
      have := ih d hlen h1 h4
      rw [val_snoc]
      have hn1 : 0 < d.length := List.length_pos_iff.2 hd
      have e : n + 1 - 1 = (n - 1) + 1 := by omega
      rw [e, Nat.pow_succ]
      omega

theorem dd_of (l : List UInt8) : natL l = true → decDigits (val l) = l := by
  induction h : l.length generalizing l with
  | zero => intro hn; have := natL_pos l hn; omega
  | succ n ih =>
    intro hn
    have hne : l ≠ [] := by intro e; subst e; simp at h
    obtain ⟨d, c, rfl⟩ : ∃ d c, l = d ++ [c] := ⟨_, _, (List.dropLast_concat_getLast hne).symm⟩
    by_cases hd : d = []
    · subst hd
      have := natL_digit _ hn 0 (by simp)
      simp only [List.nil_append, List.getElem_cons_zero] at this
      simp only [List.nil_append, val, List.foldl_cons, List.foldl_nil]
      rw [dd_small _ (by omega)]
      congr 1
      apply UInt8.toNat_inj.1
      rw [byte_digit _ (by omega)]
      omega
    · obtain ⟨h1, h2, h3, h4⟩ := natL_init d c hn hd
      have hlen : d.length = n := by simpa using h
      have hv := ih d hlen h1
      have hp := nat_pos d h1 h4
      have hq : 1 ≤ val d := Nat.le_trans (Nat.pow_pos (by omega)) hp
      rw [val_snoc, dd_big _ (by omega)]
      rw [show (10 * val d + (c.toNat - 48)) / 10 = val d by omega, hv]
      congr 2
      apply UInt8.toNat_inj.1
      rw [byte_digit _ (by omega)]
      omega

end Go.Proofs.YthekabflbpfjoaaGreatDoor.txt

namespace Go.Proofs.YthekabflbpfjoaaGreatDoor.num
open Go.RowKit
open Go.Proofs.YthekabflbpfjoaaGreatDoor.txt

theorem cut_neg (d : List UInt8) : Lib.hasPrefix (45 :: d) [45] = true ∧ Lib.trimPrefix (45 :: d) [45] = d := by
  have h : Lib.hasPrefix (45 :: d) [45] = true := by simp [Lib.hasPrefix]
  exact ⟨h, by unfold Lib.trimPrefix; rw [if_pos h]; rfl⟩
theorem cut_pos (l : List UInt8) (h : l.head? ≠ some 45) : Lib.hasPrefix l [45] = false ∧ Lib.trimPrefix l [45] = l := by
  have h' : Lib.hasPrefix l [45] = false := by
    cases l with
    | nil => rfl
    | cons c t =>
      simp only [List.head?_cons, ne_eq, Option.some.injEq] at h
      simp only [Lib.hasPrefix, List.isPrefixOf, Bool.and_true]
      rw [beq_eq_false_iff_ne]
      exact fun e => h e.symm
  exact ⟨h', by unfold Lib.trimPrefix; rw [if_neg (by rw [h']; decide)]⟩
theorem cut_is (l : List UInt8) (h : Lib.hasPrefix l [45] = true) : l = 45 :: Lib.trimPrefix l [45] := by
  cases l with
  | nil => simp [Lib.hasPrefix] at h
  | cons c t =>
    have hc : (45 : UInt8) = c := by simpa [Lib.hasPrefix] using h
    subst hc
    rw [(cut_neg t).2]
theorem cut_not (l : List UInt8) (h : Lib.hasPrefix l [45] = false) : Lib.trimPrefix l [45] = l := by
  unfold Lib.trimPrefix; rw [if_neg (by rw [h]; decide)]

theorem dd_head45 (u : Nat) : (Lib.decDigits u).head? ≠ some 45 := by
  intro h
  have hm : (45 : UInt8) ∈ Lib.decDigits u := List.mem_of_head? h
  have := (digit_iff _).1 (dd_all u _ hm)
  simp at this

/-- What Parse returns for the text of a number. -/
theorem parse_itoa (n : Int) : (good n → pv (Lib.itoa n) = n ∧ pe (Lib.itoa n) = 0) ∧ (bad n → pv (Lib.itoa n) = 0 ∧ pe (Lib.itoa n) = 5) := by
  unfold Lib.itoa good bad
  by_cases hn : n < 0
  · rw [if_pos hn]
    obtain ⟨h1, h2⟩ := cut_neg (Lib.decDigits n.natAbs)
    unfold pv pe
    rw [h1, h2, dd_val]
    have h3 : ¬ (natL (Lib.decDigits n.natAbs) = false ∨ (true = true ∧ Lib.decDigits n.natAbs = [48])) := by
      rintro (h | ⟨_, h⟩)
      · rw [dd_nat] at h; cases h
      · exact dd_head n.natAbs (by omega) (by rw [h]; rfl)
    rw [if_neg h3, if_neg h3]
    refine ⟨fun h => ?_, fun h => ?_⟩
    · have hc : n.natAbs ≤ 9007199254740992 := by omega
      rw [if_pos hc, if_pos hc, if_pos rfl]; exact ⟨by omega, rfl⟩
    · have hc : ¬ n.natAbs ≤ 9007199254740992 := by omega
      rw [if_neg hc, if_neg hc]; exact ⟨rfl, rfl⟩
  · rw [if_neg hn]
    obtain ⟨h1, h2⟩ := cut_pos (Lib.decDigits n.toNat) (dd_head45 _)
    unfold pv pe
    rw [h1, h2, dd_val]
    have h3 : ¬ (natL (Lib.decDigits n.toNat) = false ∨ (false = true ∧ Lib.decDigits n.toNat = [48])) := by
      rintro (h | ⟨h, _⟩)
      · rw [dd_nat] at h; cases h
      · cases h
    rw [if_neg h3, if_neg h3]
    refine ⟨fun h => ?_, fun h => ?_⟩
    · have hc : n.toNat ≤ 9007199254740992 := by omega
      rw [if_pos hc, if_pos hc, if_neg (by decide)]; exact ⟨by omega, rfl⟩
    · have hc : ¬ n.toNat ≤ 9007199254740992 := by omega
      rw [if_neg hc, if_neg hc]; exact ⟨rfl, rfl⟩

/-- A text that Parse takes is the text of a valid number; else the number is 0 and the error one of two. -/
theorem parse_cases (l : List UInt8) : (pe l = 0 ∧ good (pv l) ∧ Lib.itoa (pv l) = l) ∨ (pe l = 2 ∧ pv l = 0) ∨ (pe l = 5 ∧ pv l = 0) := by
  unfold pv pe
  by_cases h : natL (Lib.trimPrefix l [45]) = false ∨ (Lib.hasPrefix l [45] = true ∧ Lib.trimPrefix l [45] = [48])
  · rw [if_pos h, if_pos h]; exact .inr (.inl ⟨rfl, rfl⟩)
  · rw [if_neg h, if_neg h]
    by_cases hv : val (Lib.trimPrefix l [45]) ≤ 9007199254740992
    · rw [if_pos hv, if_pos hv]
      refine .inl ⟨rfl, ?_⟩
      have hn : natL (Lib.trimPrefix l [45]) = true := by
        cases hx : natL (Lib.trimPrefix l [45]) with
        | true => rfl
        | false => exact absurd (.inl hx) h
      have hd := dd_of _ hn
      cases hp : Lib.hasPrefix l [45] with
      | true =>
        rw [if_pos rfl]
        have hz : val (Lib.trimPrefix l [45]) ≠ 0 := by
          intro e
          rw [e] at hd
          refine h (.inr ⟨hp, ?_⟩)
          rw [← hd, dd_small 0 (by omega)]; rfl
        refine ⟨⟨by omega, by omega⟩, ?_⟩
        unfold Lib.itoa
        rw [if_pos (by omega), show (-(val (Lib.trimPrefix l [45]) : Int)).natAbs = val (Lib.trimPrefix l [45]) by omega, hd]
        exact (cut_is l hp).symm
      | false =>
        rw [if_neg (by decide)]
        refine ⟨⟨by omega, by omega⟩, ?_⟩
        unfold Lib.itoa
        rw [if_neg (by omega), Int.toNat_natCast, hd]
        exact cut_not l hp
    · rw [if_neg hv, if_neg hv]; exact .inr (.inr ⟨rfl, rfl⟩)

theorem itoa_size (n : Int) (h0 : -9223372036854775808 ≤ n) (h1 : n ≤ 9223372036854775807) : (⟨(Lib.itoa n).toArray⟩ : ByteArray).size ≤ maxLen := by
  have e : (⟨(Lib.itoa n).toArray⟩ : ByteArray).size = (Lib.itoa n).length := by simp [ByteArray.size]
  have := Lib.itoa_length_le n h0 h1
  unfold maxLen
  omega

end Go.Proofs.YthekabflbpfjoaaGreatDoor.num
