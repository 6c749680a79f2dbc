/- Plain facts on literals as lists of bytes: what each byte becomes in a literal, what an item stands for, and that reading restores what was written; The library's contract of utf8.ValidString at this program; Valid of packages number and strlit, and of number's reference; the library's tables that are read. -/
import Derived.Lib.MapLaws
import Derived.Lib.ValidLaws
import Derived.Lib.RuneCountTail
import Derived.Lib.Small
import Derived.Shelf.Unicode.ValidAny
import Derived.Test.YtjmchjphdfbhiaaGreatDoorProg
import Derived.Test.YtjmchjphdfbhiaaGreatDoorChecked
import Derived.WalkKit
import Derived.WalkSpells
import Derived.WalkLawsBesides
import Derived.Handy
import Derived.Lib.Hide
import Derived.BigQuiet
import Derived.Deep.QuietTactic
namespace Go.Proofs.YtjmchjphdfbhiaaGreatDoor.lit
open Go.Lib

/-! ### validity and length, list by list -/
/-- The code point at the head is wrongly encoded. -/
def wrong (l : List UInt8) : Prop := (decodeL l).1 = 65533 ∧ (decodeL l).2 = 1
instance (l : List UInt8) : Decidable (wrong l) := by unfold wrong; exact inferInstance

theorem count_step (s : ByteArray) (k : Nat) (h : k < s.size) : runeCountFrom s (s.size - k) k = 1 + runeCountFrom s (s.size - (k + (Utf8.decode s k).2)) (k + (Utf8.decode s k).2) := by
  have hw := decode_width_pos s k h
  obtain ⟨n, hn⟩ : ∃ n, s.size - k = n + 1 := ⟨s.size - k - 1, by omega⟩
  rw [hn, runeCountFrom, if_pos h]
  rw [fuel_enough s n (s.size - (k + (Utf8.decode s k).2)) _ (by omega) (by omega)]

/-- How many code points. -/
def lenL (l : List UInt8) : Nat := runeCountL l
theorem lenL_nil : lenL [] = 0 := rfl
theorem lenL_from (s : ByteArray) (k : Nat) : lenL (s.data.toList.drop k) = runeCountFrom s (s.size - k) k := by
  have e : (⟨(s.data.toList.drop k).toArray⟩ : ByteArray) = s.extract k s.size := by
    apply ByteArray.ext
    apply Array.ext'
    simp
    rw [List.take_of_length_le (by simp)]
  unfold lenL runeCountL
  rw [e]
  unfold runeCount
  rw [tail_size, tail_count, Nat.add_zero]
theorem lenL_step (l : List UInt8) (hne : l ≠ []) : lenL l = 1 + lenL (l.drop (decodeL l).2) := by
  have hl : 0 < l.length := List.length_pos_iff.2 hne
  have hs : (⟨l.toArray⟩ : ByteArray).size = l.length := by simp [ByteArray.size]
  have h0 := count_step ⟨l.toArray⟩ 0 (by omega)
  have h1 := lenL_from ⟨l.toArray⟩ 0
  have h2 := lenL_from ⟨l.toArray⟩ (decodeL l).2
  simp only [List.drop_zero] at h1 h2
  rw [h1, h0, h2]
  show 1 + runeCountFrom _ (_ - (0 + (decodeL l).2)) (0 + (decodeL l).2) = _
  rw [Nat.zero_add]

/-- The bytes of a right code point decide it. -/
theorem decode_same (a b : List UInt8) (hne : a ≠ []) (h : ¬ wrong a) (hl : (decodeL a).2 ≤ b.length) (g : ∀ j, j < (decodeL a).2 → b.getD j 0 = a.getD j 0) : decodeL b = decodeL a := by
  have hla : 0 < a.length := List.length_pos_iff.2 hne
  unfold wrong at h
  rw [decodeL_N] at h hl g
  rw [decodeL_N, decodeL_N]
  rcases decodeN_shape a.length (a.getD 0 0).toNat (a.getD 1 0).toNat (a.getD 2 0).toNat (a.getD 3 0).toNat with ⟨c, e⟩ | ⟨c1, c2, c3, cv, e⟩ | ⟨c1, c2, c3, c4, cv, cs, e⟩ | ⟨c1, c2, c3, c4, c5, cv, cw, e⟩ | e
  · rw [e] at g
    rw [e, g 0 (by simp)]
    simp only [decodeN, if_pos c]
  · rw [e] at g hl
    rw [e, g 0 (by simp), g 1 (by simp)]
    have c0 : ¬ (a.getD 0 0).toNat < 128 := by omega
    simp only [decodeN, if_neg c0]
    rw [if_pos ⟨c1, hl, c3⟩, if_pos cv]
  · rw [e] at g hl
    rw [e, g 0 (by simp), g 1 (by simp), g 2 (by simp)]
    have c0 : ¬ (a.getD 0 0).toNat < 128 := by omega
    have c6 : ¬ ((a.getD 0 0).toNat / 32 = 6 ∧ (1 < b.length ∧ (a.getD 1 0).toNat / 64 = 2)) := by omega
    have hb := (a.getD 0 0).toNat_lt
    simp only at hl
    simp only [decodeN, if_neg c0]
    rw [if_neg c6, if_pos ⟨c1, ⟨by omega, c3⟩, hl, c4⟩, if_pos ⟨cv, by omega⟩]
  · rw [e] at g hl
    rw [e, g 0 (by simp), g 1 (by simp), g 2 (by simp), g 3 (by simp)]
    have c0 : ¬ (a.getD 0 0).toNat < 128 := by omega
    have c6 : ¬ ((a.getD 0 0).toNat / 32 = 6 ∧ (1 < b.length ∧ (a.getD 1 0).toNat / 64 = 2)) := by omega
    have c7 : ¬ ((a.getD 0 0).toNat / 16 = 14 ∧ (1 < b.length ∧ (a.getD 1 0).toNat / 64 = 2) ∧ (2 < b.length ∧ (a.getD 2 0).toNat / 64 = 2)) := by omega
    simp only at hl
    simp only [decodeN, if_neg c0]
    rw [if_neg c6, if_neg c7, if_pos ⟨c1, ⟨by omega, c3⟩, ⟨by omega, c4⟩, hl, c5⟩, if_pos ⟨cv, by omega⟩]
  · rw [e] at h
    exact absurd ⟨rfl, rfl⟩ h
/-- What follows a right code point does not change it. -/
theorem decode_app (a b : List UInt8) (hne : a ≠ []) (h : ¬ wrong a) : decodeL (a ++ b) = decodeL a := by
  have hle := decodeL_le a hne
  refine decode_same a (a ++ b) hne h (by rw [List.length_append]; omega) fun j hj => ?_
  simp [List.getD, List.getElem?_append_left (show j < a.length by omega)]
/-- A code point above 127 has bytes above 127 alone. -/
theorem high_bytes (l : List UInt8) (h : ¬ wrong l) (h0 : 128 ≤ (l.getD 0 0).toNat) : 128 ≤ (decodeL l).1 ∧ ∀ j, j < (decodeL l).2 → 128 ≤ (l.getD j 0).toNat := by
  unfold wrong at h
  rw [decodeL_N] at h ⊢
  rcases decodeN_shape l.length (l.getD 0 0).toNat (l.getD 1 0).toNat (l.getD 2 0).toNat (l.getD 3 0).toNat with ⟨c, e⟩ | ⟨c1, c2, c3, cv, e⟩ | ⟨c1, c2, c3, c4, cv, cs, e⟩ | ⟨c1, c2, c3, c4, c5, cv, cw, e⟩ | e
  · omega
  · rw [e]
    refine ⟨cv, fun j hj => ?_⟩
    match j, hj with
    | 0, _ => exact h0
    | 1, _ => omega
  · rw [e]
    refine ⟨by simp only; omega, fun j hj => ?_⟩
    match j, hj with
    | 0, _ => exact h0
    | 1, _ => omega
    | 2, _ => omega
  · rw [e]
    refine ⟨by simp only; omega, fun j hj => ?_⟩
    match j, hj with
    | 0, _ => exact h0
    | 1, _ => omega
    | 2, _ => omega
    | 3, _ => omega
  · rw [e] at h
    exact absurd ⟨rfl, rfl⟩ h

theorem drop_app (a b : List UInt8) (k : Nat) (h : k ≤ a.length) : (a ++ b).drop k = a.drop k ++ b := List.drop_append_of_le_length h

theorem join_both : ∀ (n : Nat) (a b : List UInt8), a.length ≤ n → validD a = true → validD (a ++ b) = validD b ∧ lenL (a ++ b) = lenL a + lenL b := by
  intro n
  induction n with
  | zero =>
    intro a b hl _
    have : a = [] := List.eq_nil_of_length_eq_zero (by omega)
    subst this
    simp [lenL_nil]
  | succ n ih =>
    intro a b hl hv
    by_cases hne : a = []
    · subst hne; simp [lenL_nil]
    · rw [validD_step a hne] at hv
      have hw : ¬ wrong a := by
        intro hw
        unfold wrong at hw
        rw [if_pos hw] at hv
        cases hv
      have hw' := hw
      unfold wrong at hw'
      rw [if_neg hw'] at hv
      have hd := decode_app a b hne hw
      have hle := decodeL_le a hne
      have hge := decodeL_width a
      have hne2 : a ++ b ≠ [] := by simp [hne]
      obtain ⟨i1, i2⟩ := ih (a.drop (decodeL a).2) b (by rw [List.length_drop]; omega) hv
      constructor
      · rw [validD_step _ hne2, hd, if_neg hw', drop_app a b _ hle, i1]
      · rw [lenL_step _ hne2, hd, drop_app a b _ hle, i2, lenL_step a hne]; omega
theorem join_valid (a b : List UInt8) (ha : validD a = true) : validD (a ++ b) = validD b := (join_both _ a b (Nat.le_refl _) ha).1
theorem join_len (a b : List UInt8) (ha : validD a = true) : lenL (a ++ b) = lenL a + lenL b := (join_both _ a b (Nat.le_refl _) ha).2

end Go.Proofs.YtjmchjphdfbhiaaGreatDoor.lit

namespace Go.Proofs.YtjmchjphdfbhiaaGreatDoor.lit
open Go.RowKit Go.Shelf

def renValid : Go.Shelf.Ren := ⟨fun | 196 => 104 | 259 => 121 | n => n, fun | 12 => 12 | 46 => 83 | 53 => 114 | 119 => 119 | 138 => 121 | 139 => 122 | n => n, fun | 3 => 1 | 4 => 2 | n => n⟩
theorem laysValid : Go.Proofs.Lays.n196 Tryz.prog renValid := {
  mixed := by kernel_rfl
  f196 := Tryz.func104.trans (congrArg some (by kernel_rfl))
  f259 := Tryz.func121.trans (congrArg some (by kernel_rfl))
  t0 := Tryz.underlying0
  a0 := Tryz.isAgg0
  z0 := Tryz.sizeOf0
  v0 := Tryz.zeroValue0
  t3 := Tryz.underlying3
  a3 := Tryz.isAgg3
  z3 := Tryz.sizeOf3
  v3 := Tryz.zeroValue3
  t4 := Tryz.underlying4
  a4 := Tryz.isAgg4
  z4 := Tryz.sizeOf4
  v4 := Tryz.zeroValue4
  t5 := Tryz.underlying5
  a5 := Tryz.isAgg5
  z5 := Tryz.sizeOf5
  v5 := Tryz.zeroValue5
  t9 := Tryz.underlying9
  a9 := Tryz.isAgg9
  z9 := Tryz.sizeOf9
  v9 := Tryz.zeroValue9
  t12 := Tryz.underlying12
  a12 := Tryz.isAgg12
  z12 := Tryz.sizeOf12
  v12 := Tryz.zeroValue12
  t46 := Tryz.underlying83
  a46 := Tryz.isAgg83
  z46 := Tryz.sizeOf83
  v46 := Tryz.zeroValue83
  t53 := Tryz.underlying114
  a53 := Tryz.isAgg114
  z53 := Tryz.sizeOf114
  v53 := Tryz.zeroValue114
  t119 := Tryz.underlying119
  a119 := Tryz.isAgg119
  z119 := Tryz.sizeOf119
  t138 := Tryz.underlying121
  a138 := Tryz.isAgg121
  z138 := Tryz.sizeOf121
  v138 := Tryz.zeroValue121
  t139 := Tryz.underlying122
  a139 := Tryz.isAgg122
  z139 := Tryz.sizeOf122
  v139 := Tryz.zeroValue122
  g3 := by kernel_rfl
  g4 := by kernel_rfl }
theorem valid_text (s : ByteArray) (w : World) (hs : s.size ≤ 9223372036854775807) (hT : Lib.Utf8Tabs 1 2 w) :
    Calls Tryz.prog 104 #[.string s] w fun e w' => e = .returned (.bool (Lib.validD s.data.toList)) ∧ Below w.heap.size w w' := Any.utf8_ValidString laysValid s w hs hT

end Go.Proofs.YtjmchjphdfbhiaaGreatDoor.lit

namespace Go.Proofs.YtjmchjphdfbhiaaGreatDoor.num
open Go.RowKit
/-- Not valid: outside -2^53 .. 2^53. -/
def bad (n : Int) : Prop := n < -9007199254740992 ∨ 9007199254740992 < n
/-- Valid. -/
def good (n : Int) : Prop := -9007199254740992 ≤ n ∧ n ≤ 9007199254740992

set_option maxHeartbeats 400000 in
theorem valid_yes (n : Int) (w : World) (h0 : -9007199254740992 ≤ n) (h1 : n ≤ 9007199254740992) :
    Calls Tryz.prog 69 #[.int .i64 n] w fun e w' => e = .returned (.bool true) ∧ w = w' := by
  go_enter Tryz.func69, Tryz.ntmps69
  go_wp2
  go_ret
  exact ⟨rfl, rfl⟩

set_option maxHeartbeats 400000 in
theorem valid_no (n : Int) (w : World) (h : bad n) :
    Calls Tryz.prog 69 #[.int .i64 n] w fun e w' => e = .returned (.bool false) ∧ w = w' := by
  rcases h with h | h
  · go_enter Tryz.func69, Tryz.ntmps69
    go_wp2
    go_ret
    exact ⟨rfl, rfl⟩
  · have h0 : -9007199254740992 ≤ n := by omega
    have hd : decide (n ≤ 9007199254740992) = false := by simp; omega
    go_enter Tryz.func69, Tryz.ntmps69
    go_wp2
    go_ret
    exact ⟨rfl, rfl⟩
end Go.Proofs.YtjmchjphdfbhiaaGreatDoor.num
namespace Go.Proofs.YtjmchjphdfbhiaaGreatDoor.lit
open Go.RowKit
/-- What a call does to the world at most: what was there is as it was. -/
def Q (w w' : World) : Prop := Below w.heap.size w w'
theorem Q.refl (w : World) : Q w w := Below.refl _ _
theorem Q.trans {a b c : World} (h : Q a b) (k : Q b c) : Q a c := Below.trans h (Below.mono k h.size)
theorem Q.drewN (w : World) (n : Nat) : Q w (w.drewN n) := ⟨rfl, rfl, rfl, by simp, fun _ _ => rfl⟩


/-- The tables of the library that are read. -/
structure Fx (w : World) : Prop where
  tabs : Lib.Utf8Tabs 1 2 w
  old : 3 ≤ w.heap.size
theorem fx_below {B : Nat} {w w' : World} (h : Below B w w') (hB : 3 ≤ B) (f : Fx w) : Fx w' :=
  ⟨⟨fun c hc => (h.cell (show 1 < B by omega)).trans (f.tabs.1 c hc), fun i hi => ⟨(h.cell (show 2 < B by omega)).trans (f.tabs.2 i hi).1, (h.cell (show 2 < B by omega)).trans (f.tabs.2 i hi).2⟩⟩, Nat.le_trans f.old h.size⟩
theorem Q.fx {w w' : World} (h : Q w w') (f : Fx w) : Fx w' := fx_below h f.old f
/-- Whether a string is valid. -/
def okL (l : List UInt8) : Bool := decide (l.length ≤ 4096) && Lib.validD l
theorem okL_iff (l : List UInt8) : okL l = true ↔ l.length ≤ 4096 ∧ Lib.validD l = true := by simp [okL]

set_option maxHeartbeats 1000000 in
theorem valid_any (s : ByteArray) (w : World) (f : Fx w) (hs : s.size ≤ 1000000) :
    Calls Tryz.prog 91 #[.string s] w fun e w' => e = .returned (.bool (okL s.data.toList)) ∧ Q w w' := by
  have cV := Lib.hid (valid_text s w (by omega) f.tabs)
  unfold okL
  rw [show s.data.toList.length = s.size by simp]
  generalize Lib.validD s.data.toList = V at *
  clear f
  by_cases h : s.size ≤ 4096
  · rw [decide_eq_true h, Bool.true_and]
    have hz : (s.size : Int) ≤ 4096 := by omega
    go_enter Tryz.func91, Tryz.ntmps91
    go_wp2_with fail
    refine cV.out.mono ?_; rintro e w1 ⟨rfl, q1⟩
    go_wp2_with fail
    go_ret
    exact ⟨rfl, q1⟩
  · rw [decide_eq_false h, Bool.false_and]
    have hz : ¬ (s.size : Int) ≤ 4096 := by omega
    go_enter Tryz.func91, Tryz.ntmps91
    go_wp2_with fail
    go_ret
    exact ⟨rfl, Q.refl _⟩


end Go.Proofs.YtjmchjphdfbhiaaGreatDoor.lit
