/- The reference's decoder: how many bytes it takes at a place. -/
import Derived.Test.YthekabflbpfjoaaGreatDoorLlenm
import Derived.Lib.DecodeN
import Derived.Lib.DecodeNEq
namespace Go.Proofs.YthekabflbpfjoaaGreatDoor.lit
open Go.RowKit

/-- What cont returns. -/
def contB (s : ByteArray) (j lo hi : Nat) : Bool := decide (j < s.size ∧ lo ≤ (s.get! j).toNat ∧ (s.get! j).toNat ≤ hi)
theorem get_of (s : ByteArray) (j : Nat) (h : j < s.size) : s[j] = s.get! j := (Utf8W.get!_of_lt s j h).symm

theorem cont_any (s : ByteArray) (j lo hi : Nat) (w : World) :
    Calls Tryz.prog 94 #[.string s, .int .i64 (j : Int), .int .u8 (lo : Int), .int .u8 (hi : Int)] w fun e w' => e = .returned (.bool (contB s j lo hi)) ∧ w = w' := by
  by_cases h : j < s.size
  · have hz : (j : Int) < (s.size : Int) := by omega
    have e := get_of s j h
    by_cases h1 : lo ≤ (s.get! j).toNat
    · have c1 : (lo : Int) ≤ (s[j].toNat : Int) := by rw [e]; omega
      by_cases h2 : (s.get! j).toNat ≤ hi
      · have c2 : (s[j].toNat : Int) ≤ (hi : Int) := by rw [e]; omega
        rw [show contB s j lo hi = true by unfold contB; exact decide_eq_true ⟨h, h1, h2⟩]
        clear h1 h2 e
        go_enter Tryz.func94, Tryz.ntmps94
        go_wp2_with fail
        go_ret
        exact ⟨rfl, rfl⟩
      · have c2 : ¬ (s[j].toNat : Int) ≤ (hi : Int) := by rw [e]; omega
        rw [show contB s j lo hi = false by unfold contB; exact decide_eq_false (fun x => h2 x.2.2)]
        clear h1 h2 e
        go_enter Tryz.func94, Tryz.ntmps94
        go_wp2_with fail
        go_ret
        exact ⟨rfl, rfl⟩
    · have c1 : ¬ (lo : Int) ≤ (s[j].toNat : Int) := by rw [e]; omega
      rw [show contB s j lo hi = false by unfold contB; exact decide_eq_false (fun x => h1 x.2.1)]
      clear h1 e
      go_enter Tryz.func94, Tryz.ntmps94
      go_wp2_with fail
      go_ret
      exact ⟨rfl, rfl⟩
  · have hz : ¬ (j : Int) < (s.size : Int) := by omega
    rw [show contB s j lo hi = false by unfold contB; exact decide_eq_false (fun x => h x.1)]
    go_enter Tryz.func94, Tryz.ntmps94
    go_wp2_with fail
    go_ret
    exact ⟨rfl, rfl⟩

/-- How many bytes a right code point at place i takes; 0: there is none. -/
def wid (s : ByteArray) (i : Nat) : Nat := if wrong (s.data.toList.drop i) then 0 else (Lib.decodeL (s.data.toList.drop i)).2

theorem wid_N (s : ByteArray) (i : Nat) : wid s i = if (Lib.decodeN (s.size - i) (s.get! i).toNat (s.get! (i + 1)).toNat (s.get! (i + 2)).toNat (s.get! (i + 3)).toNat).1 = 65533 ∧ (Lib.decodeN (s.size - i) (s.get! i).toNat (s.get! (i + 1)).toNat (s.get! (i + 2)).toNat (s.get! (i + 3)).toNat).2 = 1 then 0 else (Lib.decodeN (s.size - i) (s.get! i).toNat (s.get! (i + 1)).toNat (s.get! (i + 2)).toNat (s.get! (i + 3)).toNat).2 := by
  unfold wid
  by_cases h : wrong (s.data.toList.drop i)
  · rw [if_pos h]
    unfold wrong at h
    rw [Lib.decodeL_drop, Lib.decode_at] at h
    rw [if_pos h]
  · rw [if_neg h]
    unfold wrong at h
    rw [Lib.decodeL_drop, Lib.decode_at] at h
    rw [if_neg h, Lib.decodeL_drop, Lib.decode_at]

/-- A class of first bytes: what the tests of the bytes behind it decide. -/
theorem wid_two (s : ByteArray) (i : Nat) (hi : i < s.size) (hb : 194 ≤ (s.get! i).toNat ∧ (s.get! i).toNat < 224) : wid s i = if contB s (i + 1) 128 191 then 2 else 0 := by
  rw [wid_N, ← Lib.slow_C2 _ _ _ _ _ (by omega) (UInt8.toNat_lt _) (UInt8.toNat_lt _) (UInt8.toNat_lt _) hb]
  unfold contB Lib.slowN
  simp only [decide_eq_true_eq]
  repeat' split
  all_goals first | rfl | (exfalso; omega) | (simp_all; done) | (simp_all; omega)
theorem wid_three (s : ByteArray) (i lo hi' : Nat) (hi : i < s.size) (h : ∀ n b1 b2 b3, 1 ≤ n → b1 < 256 → b2 < 256 → b3 < 256 → Lib.slowN n (s.get! i).toNat b1 b2 b3 3 lo hi' = Lib.decodeN n (s.get! i).toNat b1 b2 b3) :
    wid s i = if contB s (i + 1) lo hi' then (if contB s (i + 2) 128 191 then 3 else 0) else 0 := by
  rw [wid_N, ← h _ _ _ _ (by omega) (UInt8.toNat_lt _) (UInt8.toNat_lt _) (UInt8.toNat_lt _)]
  unfold contB Lib.slowN
  simp only [decide_eq_true_eq]
  repeat' split
  all_goals first | rfl | (exfalso; omega) | (simp_all; done) | (simp_all; omega)
theorem wid_four (s : ByteArray) (i lo hi' : Nat) (hi : i < s.size) (h : ∀ n b1 b2 b3, 1 ≤ n → b1 < 256 → b2 < 256 → b3 < 256 → Lib.slowN n (s.get! i).toNat b1 b2 b3 4 lo hi' = Lib.decodeN n (s.get! i).toNat b1 b2 b3) :
    wid s i = if contB s (i + 1) lo hi' then (if contB s (i + 2) 128 191 then (if contB s (i + 3) 128 191 then 4 else 0) else 0) else 0 := by
  rw [wid_N, ← h _ _ _ _ (by omega) (UInt8.toNat_lt _) (UInt8.toNat_lt _) (UInt8.toNat_lt _)]
  unfold contB Lib.slowN
  simp only [decide_eq_true_eq]
  repeat' split
  all_goals first | rfl | (exfalso; omega) | (simp_all; done) | (simp_all; omega)
theorem wid_bad (s : ByteArray) (i : Nat) (hb : (128 ≤ (s.get! i).toNat ∧ (s.get! i).toNat < 194) ∨ 245 ≤ (s.get! i).toNat) : wid s i = 0 := by
  rw [wid_N, Lib.decodeN_bad _ _ _ _ _ (hb.elim (fun h => .inl h) (fun h => .inr ⟨h, UInt8.toNat_lt _⟩))]
  rfl
theorem wid_ascii (s : ByteArray) (i : Nat) (hb : (s.get! i).toNat < 128) : wid s i = 1 := by
  rw [wid_N]
  simp only [Lib.decodeN, if_pos hb]
  rw [if_neg (by omega)]

end Go.Proofs.YthekabflbpfjoaaGreatDoor.lit
