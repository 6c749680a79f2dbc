/- The reference's decoder: how many bytes it takes at a place; The reference's decoder: what Decode returns; The reference's Valid and Length. -/
import Derived.Test.YtjmchjphdfbhiaaGreatDoorBas
import Derived.Lib.DecodeN
import Derived.Lib.DecodeNEq
namespace Go.Proofs.YtjmchjphdfbhiaaGreatDoor.refnum
open Go.RowKit
open Go.Proofs.YtjmchjphdfbhiaaGreatDoor.num (bad good)
set_option maxHeartbeats 400000 in
theorem valid_yes (n : Int) (w : World) (h0 : -9007199254740992 ≤ n) (h1 : n ≤ 9007199254740992) :
    Calls Tryz.prog 93 #[.int .i64 n] w fun e w' => e = .returned (.bool true) ∧ w = w' := by
  go_enter Tryz.func93, Tryz.ntmps93
  go_wp2
  go_ret
  exact ⟨rfl, rfl⟩

set_option maxHeartbeats 400000 in
theorem valid_no (n : Int) (w : World) (h : bad n) :
    Calls Tryz.prog 93 #[.int .i64 n] w fun e w' => e = .returned (.bool false) ∧ w = w' := by
  rcases h with h | h
  · go_enter Tryz.func93, Tryz.ntmps93
    go_wp2
    go_ret
    exact ⟨rfl, rfl⟩
  · have h0 : -9007199254740992 ≤ n := by omega
    have hd : decide (n ≤ 9007199254740992) = false := by simp; omega
    go_enter Tryz.func93, Tryz.ntmps93
    go_wp2
    go_ret
    exact ⟨rfl, rfl⟩



end Go.Proofs.YtjmchjphdfbhiaaGreatDoor.refnum
namespace Go.Proofs.YtjmchjphdfbhiaaGreatDoor.lit
open Go.RowKit

/-- What cont returns. -/
def contB (s : ByteArray) (j lo hi : Nat) : Bool := decide (j < s.size ∧ lo ≤ (s.get! j).toNat ∧ (s.get! j).toNat ≤ hi)
theorem get_of (s : ByteArray) (j : Nat) (h : j < s.size) : s[j] = s.get! j := (Utf8W.get!_of_lt s j h).symm

theorem cont_any (s : ByteArray) (j lo hi : Nat) (w : World) :
    Calls Tryz.prog 128 #[.string s, .int .i64 (j : Int), .int .u8 (lo : Int), .int .u8 (hi : Int)] w fun e w' => e = .returned (.bool (contB s j lo hi)) ∧ w = w' := by
  by_cases h : j < s.size
  · have hz : (j : Int) < (s.size : Int) := by omega
    have e := get_of s j h
    by_cases h1 : lo ≤ (s.get! j).toNat
    · have c1 : (lo : Int) ≤ (s[j].toNat : Int) := by rw [e]; omega
      by_cases h2 : (s.get! j).toNat ≤ hi
      · have c2 : (s[j].toNat : Int) ≤ (hi : Int) := by rw [e]; omega
        rw [show contB s j lo hi = true by unfold contB; exact decide_eq_true ⟨h, h1, h2⟩]
        clear h1 h2 e
        go_enter Tryz.func128, Tryz.ntmps128
        go_wp2_with fail
        go_ret
        exact ⟨rfl, rfl⟩
      · have c2 : ¬ (s[j].toNat : Int) ≤ (hi : Int) := by rw [e]; omega
        rw [show contB s j lo hi = false by unfold contB; exact decide_eq_false (fun x => h2 x.2.2)]
        clear h1 h2 e
        go_enter Tryz.func128, Tryz.ntmps128
        go_wp2_with fail
        go_ret
        exact ⟨rfl, rfl⟩
    · have c1 : ¬ (lo : Int) ≤ (s[j].toNat : Int) := by rw [e]; omega
      rw [show contB s j lo hi = false by unfold contB; exact decide_eq_false (fun x => h1 x.2.1)]
      clear h1 e
      go_enter Tryz.func128, Tryz.ntmps128
      go_wp2_with fail
      go_ret
      exact ⟨rfl, rfl⟩
  · have hz : ¬ (j : Int) < (s.size : Int) := by omega
    rw [show contB s j lo hi = false by unfold contB; exact decide_eq_false (fun x => h x.1)]
    go_enter Tryz.func128, Tryz.ntmps128
    go_wp2_with fail
    go_ret
    exact ⟨rfl, rfl⟩

/-- How many bytes a right code point at place i takes; 0: there is none. -/
def wid (s : ByteArray) (i : Nat) : Nat := if wrong (s.data.toList.drop i) then 0 else (Lib.decodeL (s.data.toList.drop i)).2

theorem wid_N (s : ByteArray) (i : Nat) : wid s i = if (Lib.decodeN (s.size - i) (s.get! i).toNat (s.get! (i + 1)).toNat (s.get! (i + 2)).toNat (s.get! (i + 3)).toNat).1 = 65533 ∧ (Lib.decodeN (s.size - i) (s.get! i).toNat (s.get! (i + 1)).toNat (s.get! (i + 2)).toNat (s.get! (i + 3)).toNat).2 = 1 then 0 else (Lib.decodeN (s.size - i) (s.get! i).toNat (s.get! (i + 1)).toNat (s.get! (i + 2)).toNat (s.get! (i + 3)).toNat).2 := by
  unfold wid
  by_cases h : wrong (s.data.toList.drop i)
  · rw [if_pos h]
    unfold wrong at h
    rw [Lib.decodeL_drop, Lib.decode_at] at h
    rw [if_pos h]
  · rw [if_neg h]
    unfold wrong at h
    rw [Lib.decodeL_drop, Lib.decode_at] at h
    rw [if_neg h, Lib.decodeL_drop, Lib.decode_at]

/-- A class of first bytes: what the tests of the bytes behind it decide. -/
theorem wid_two (s : ByteArray) (i : Nat) (hi : i < s.size) (hb : 194 ≤ (s.get! i).toNat ∧ (s.get! i).toNat < 224) : wid s i = if contB s (i + 1) 128 191 then 2 else 0 := by
  rw [wid_N, ← Lib.slow_C2 _ _ _ _ _ (by omega) (UInt8.toNat_lt _) (UInt8.toNat_lt _) (UInt8.toNat_lt _) hb]
  unfold contB Lib.slowN
  simp only [decide_eq_true_eq]
  repeat' split
  all_goals first | rfl | (exfalso; omega) | (simp_all; done) | (simp_all; omega)
theorem wid_three (s : ByteArray) (i lo hi' : Nat) (hi : i < s.size) (h : ∀ n b1 b2 b3, 1 ≤ n → b1 < 256 → b2 < 256 → b3 < 256 → Lib.slowN n (s.get! i).toNat b1 b2 b3 3 lo hi' = Lib.decodeN n (s.get! i).toNat b1 b2 b3) :
    wid s i = if contB s (i + 1) lo hi' then (if contB s (i + 2) 128 191 then 3 else 0) else 0 := by
  rw [wid_N, ← h _ _ _ _ (by omega) (UInt8.toNat_lt _) (UInt8.toNat_lt _) (UInt8.toNat_lt _)]
  unfold contB Lib.slowN
  simp only [decide_eq_true_eq]
  repeat' split
  all_goals first | rfl | (exfalso; omega) | (simp_all; done) | (simp_all; omega)
theorem wid_four (s : ByteArray) (i lo hi' : Nat) (hi : i < s.size) (h : ∀ n b1 b2 b3, 1 ≤ n → b1 < 256 → b2 < 256 → b3 < 256 → Lib.slowN n (s.get! i).toNat b1 b2 b3 4 lo hi' = Lib.decodeN n (s.get! i).toNat b1 b2 b3) :
    wid s i = if contB s (i + 1) lo hi' then (if contB s (i + 2) 128 191 then (if contB s (i + 3) 128 191 then 4 else 0) else 0) else 0 := by
  rw [wid_N, ← h _ _ _ _ (by omega) (UInt8.toNat_lt _) (UInt8.toNat_lt _) (UInt8.toNat_lt _)]
  unfold contB Lib.slowN
  simp only [decide_eq_true_eq]
  repeat' split
  all_goals first | rfl | (exfalso; omega) | (simp_all; done) | (simp_all; omega)
theorem wid_bad (s : ByteArray) (i : Nat) (hb : (128 ≤ (s.get! i).toNat ∧ (s.get! i).toNat < 194) ∨ 245 ≤ (s.get! i).toNat) : wid s i = 0 := by
  rw [wid_N, Lib.decodeN_bad _ _ _ _ _ (hb.elim (fun h => .inl h) (fun h => .inr ⟨h, UInt8.toNat_lt _⟩))]
  rfl
theorem wid_ascii (s : ByteArray) (i : Nat) (hb : (s.get! i).toNat < 128) : wid s i = 1 := by
  rw [wid_N]
  simp only [Lib.decodeN, if_pos hb]
  rw [if_neg (by omega)]

end Go.Proofs.YtjmchjphdfbhiaaGreatDoor.lit

namespace Go.Proofs.YtjmchjphdfbhiaaGreatDoor.lit
open Go.RowKit

set_option maxRecDepth 100000 in
set_option maxHeartbeats 8000000 in
theorem dec_ascii (s : ByteArray) (i : Nat) (w : World) (_hs : s.size ≤ 1000000) (hi : i < s.size) (hb : (s[i].toNat : Int) < 128) :
    Calls Tryz.prog 122 #[.string s, .int .i64 (i : Int)] w fun e w' => ∃ c : Int, e = .returned (.tuple #[.int .i64 c, .int .i64 1]) ∧ Q w w' := by
  have hz : (i : Int) < (s.size : Int) := by omega
  have hneg : decide ((i : Int) < 0) = false := decide_eq_false (by omega)
  have hp1 : (0 : Int) ≤ (i : Int) + 1 := by omega
  have hp2 : (0 : Int) ≤ (i : Int) + 2 := by omega
  have hp3 : (0 : Int) ≤ (i : Int) + 3 := by omega
  go_enter Tryz.func122, Tryz.ntmps122
  go_wp2_with fail
  go_ret2
  first | exact ⟨⟨_, rfl⟩, Q.refl _⟩ | exact ⟨_, rfl, Q.refl _⟩
set_option maxRecDepth 100000 in
set_option maxHeartbeats 8000000 in
theorem dec_lo (s : ByteArray) (i : Nat) (w : World) (_hs : s.size ≤ 1000000) (hi : i < s.size) (hb0 : ¬ (s[i].toNat : Int) < 128) (hb : (s[i].toNat : Int) < 194) :
    Calls Tryz.prog 122 #[.string s, .int .i64 (i : Int)] w fun e w' => ∃ c : Int, e = .returned (.tuple #[.int .i64 c, .int .i64 0]) ∧ Q w w' := by
  have hz : (i : Int) < (s.size : Int) := by omega
  have hneg : decide ((i : Int) < 0) = false := decide_eq_false (by omega)
  have hp1 : (0 : Int) ≤ (i : Int) + 1 := by omega
  have hp2 : (0 : Int) ≤ (i : Int) + 2 := by omega
  have hp3 : (0 : Int) ≤ (i : Int) + 3 := by omega
  have g1 : ¬ 194 ≤ (s[i].toNat : Int) := by omega
  have g2 : ¬ 224 ≤ (s[i].toNat : Int) := by omega
  have g3 : ¬ 240 ≤ (s[i].toNat : Int) := by omega
  have e1 : ((s[i].toNat : Int) == 224) = false := beq_eq_false_iff_ne.2 (by omega)
  have e2 : ((s[i].toNat : Int) == 237) = false := beq_eq_false_iff_ne.2 (by omega)
  have e3 : ((s[i].toNat : Int) == 240) = false := beq_eq_false_iff_ne.2 (by omega)
  have e4 : ((s[i].toNat : Int) == 244) = false := beq_eq_false_iff_ne.2 (by omega)
  clear hb
  go_enter Tryz.func122, Tryz.ntmps122
  go_wp2_with fail
  go_ret2
  first | exact ⟨⟨_, rfl⟩, Q.refl _⟩ | exact ⟨_, rfl, Q.refl _⟩
set_option maxRecDepth 100000 in
set_option maxHeartbeats 8000000 in
theorem dec_hi (s : ByteArray) (i : Nat) (w : World) (_hs : s.size ≤ 1000000) (hi : i < s.size) (hb : 245 ≤ (s[i].toNat : Int)) :
    Calls Tryz.prog 122 #[.string s, .int .i64 (i : Int)] w fun e w' => ∃ c : Int, e = .returned (.tuple #[.int .i64 c, .int .i64 0]) ∧ Q w w' := by
  have hz : (i : Int) < (s.size : Int) := by omega
  have hneg : decide ((i : Int) < 0) = false := decide_eq_false (by omega)
  have hp1 : (0 : Int) ≤ (i : Int) + 1 := by omega
  have hp2 : (0 : Int) ≤ (i : Int) + 2 := by omega
  have hp3 : (0 : Int) ≤ (i : Int) + 3 := by omega
  have g0 : ¬ (s[i].toNat : Int) < 128 := by omega
  have g1 : 194 ≤ (s[i].toNat : Int) := by omega
  have g1b : ¬ (s[i].toNat : Int) ≤ 223 := by omega
  have g2 : 224 ≤ (s[i].toNat : Int) := by omega
  have g2b : ¬ (s[i].toNat : Int) ≤ 239 := by omega
  have g3 : 240 ≤ (s[i].toNat : Int) := by omega
  have g3b : ¬ (s[i].toNat : Int) ≤ 244 := by omega
  have e1 : ((s[i].toNat : Int) == 224) = false := beq_eq_false_iff_ne.2 (by omega)
  have e2 : ((s[i].toNat : Int) == 237) = false := beq_eq_false_iff_ne.2 (by omega)
  have e3 : ((s[i].toNat : Int) == 240) = false := beq_eq_false_iff_ne.2 (by omega)
  have e4 : ((s[i].toNat : Int) == 244) = false := beq_eq_false_iff_ne.2 (by omega)
  clear hb
  go_enter Tryz.func122, Tryz.ntmps122
  go_wp2_with fail
  go_ret2
  first | exact ⟨⟨_, rfl⟩, Q.refl _⟩ | exact ⟨_, rfl, Q.refl _⟩
set_option maxRecDepth 100000 in
set_option maxHeartbeats 8000000 in
theorem dec_two (s : ByteArray) (i : Nat) (w : World) (hs : s.size ≤ 1000000) (hi : i < s.size) (hb0 : 194 ≤ (s[i].toNat : Int)) (hb : (s[i].toNat : Int) ≤ 223) :
    Calls Tryz.prog 122 #[.string s, .int .i64 (i : Int)] w fun e w' => ∃ c : Int, e = .returned (.tuple #[.int .i64 c, .int .i64 (if contB s (i + 1) 128 191 then 2 else 0)]) ∧ Q w w' := by
  have hz : (i : Int) < (s.size : Int) := by omega
  have hneg : decide ((i : Int) < 0) = false := decide_eq_false (by omega)
  have hp1 : (0 : Int) ≤ (i : Int) + 1 := by omega
  have hp2 : (0 : Int) ≤ (i : Int) + 2 := by omega
  have hp3 : (0 : Int) ≤ (i : Int) + 3 := by omega
  have g0 : ¬ (s[i].toNat : Int) < 128 := by omega
  have g2 : ¬ 224 ≤ (s[i].toNat : Int) := by omega
  have g3 : ¬ 240 ≤ (s[i].toNat : Int) := by omega
  have e1 : ((s[i].toNat : Int) == 224) = false := beq_eq_false_iff_ne.2 (by omega)
  have e2 : ((s[i].toNat : Int) == 237) = false := beq_eq_false_iff_ne.2 (by omega)
  have e3 : ((s[i].toNat : Int) == 240) = false := beq_eq_false_iff_ne.2 (by omega)
  have e4 : ((s[i].toNat : Int) == 244) = false := beq_eq_false_iff_ne.2 (by omega)
  try clear hb
  have c1 : Hid (∀ w, Calls Tryz.prog 128 #[.string s, .int .i64 ((i : Int) + 1), .int .u8 128, .int .u8 191] w fun e w' => e = .returned (.bool (contB s (i + 1) 128 191)) ∧ w = w') := fun w => cont_any s (i + 1) 128 191 w
  cases h1 : contB s (i + 1) 128 191 with
  | true =>
    have hi1 : i + 1 < s.size := by unfold contB at h1; exact (of_decide_eq_true h1).1
    have hz1 : (i : Int) + 1 < (s.size : Int) := by omega
    rw [h1] at c1
    clear h1
    go_enter Tryz.func122, Tryz.ntmps122
    go_wp2_with fail
    refine (c1.out _).mono ?_; rintro e w' ⟨rfl, rfl⟩
    go_wp2_with fail
    go_ret2
    first | exact ⟨⟨_, rfl⟩, Q.refl _⟩ | exact ⟨_, rfl, Q.refl _⟩
  | false =>
    rw [h1] at c1
    clear h1
    go_enter Tryz.func122, Tryz.ntmps122
    go_wp2_with fail
    refine (c1.out _).mono ?_; rintro e w' ⟨rfl, rfl⟩
    go_wp2_with fail
    go_ret2
    first | exact ⟨⟨_, rfl⟩, Q.refl _⟩ | exact ⟨_, rfl, Q.refl _⟩
set_option maxRecDepth 100000 in
set_option maxHeartbeats 8000000 in
theorem dec_E0 (s : ByteArray) (i : Nat) (w : World) (hs : s.size ≤ 1000000) (hi : i < s.size) (hb : (s[i].toNat : Int) = 224) :
    Calls Tryz.prog 122 #[.string s, .int .i64 (i : Int)] w fun e w' => ∃ c : Int, e = .returned (.tuple #[.int .i64 c, .int .i64 (if contB s (i + 1) 160 191 then (if contB s (i + 2) 128 191 then 3 else 0) else 0)]) ∧ Q w w' := by
  have hz : (i : Int) < (s.size : Int) := by omega
  have hneg : decide ((i : Int) < 0) = false := decide_eq_false (by omega)
  have hp1 : (0 : Int) ≤ (i : Int) + 1 := by omega
  have hp2 : (0 : Int) ≤ (i : Int) + 2 := by omega
  have hp3 : (0 : Int) ≤ (i : Int) + 3 := by omega
  have g0 : ¬ (s[i].toNat : Int) < 128 := by omega
  have g1 : 194 ≤ (s[i].toNat : Int) := by omega
  have g1b : ¬ (s[i].toNat : Int) ≤ 223 := by omega
  have g2 : 224 ≤ (s[i].toNat : Int) := by omega
  have g2b : (s[i].toNat : Int) ≤ 239 := by omega
  have g3 : ¬ 240 ≤ (s[i].toNat : Int) := by omega
  have e1 : ((s[i].toNat : Int) == 224) = true := beq_iff_eq.2 (by omega)
  have e2 : ((s[i].toNat : Int) == 237) = false := beq_eq_false_iff_ne.2 (by omega)
  have e3 : ((s[i].toNat : Int) == 240) = false := beq_eq_false_iff_ne.2 (by omega)
  have e4 : ((s[i].toNat : Int) == 244) = false := beq_eq_false_iff_ne.2 (by omega)
  try clear hb
  have c1 : Hid (∀ w, Calls Tryz.prog 128 #[.string s, .int .i64 ((i : Int) + 1), .int .u8 160, .int .u8 191] w fun e w' => e = .returned (.bool (contB s (i + 1) 160 191)) ∧ w = w') := fun w => cont_any s (i + 1) 160 191 w
  have c2 : Hid (∀ w, Calls Tryz.prog 128 #[.string s, .int .i64 ((i : Int) + 2), .int .u8 128, .int .u8 191] w fun e w' => e = .returned (.bool (contB s (i + 2) 128 191)) ∧ w = w') := fun w => cont_any s (i + 2) 128 191 w
  cases h1 : contB s (i + 1) 160 191 with
  | false =>
    rw [h1] at c1
    clear h1
    go_enter Tryz.func122, Tryz.ntmps122
    go_wp2_with fail
    refine (c1.out _).mono ?_; rintro e w' ⟨rfl, rfl⟩
    go_wp2_with fail
    go_ret2
    first | exact ⟨⟨_, rfl⟩, Q.refl _⟩ | exact ⟨_, rfl, Q.refl _⟩
  | true =>
    have hi1 : i + 1 < s.size := by unfold contB at h1; exact (of_decide_eq_true h1).1
    have hz1 : (i : Int) + 1 < (s.size : Int) := by omega
    rw [h1] at c1
    clear h1
    cases h2 : contB s (i + 2) 128 191 with
    | false =>
      rw [h2] at c2
      clear h2
      go_enter Tryz.func122, Tryz.ntmps122
      go_wp2_with fail
      refine (c1.out _).mono ?_; rintro e w' ⟨rfl, rfl⟩
      go_wp2_with fail
      refine (c2.out _).mono ?_; rintro e w' ⟨rfl, rfl⟩
      go_wp2_with fail
      go_ret2
      first | exact ⟨⟨_, rfl⟩, Q.refl _⟩ | exact ⟨_, rfl, Q.refl _⟩
    | true =>
      have hi2 : i + 2 < s.size := by unfold contB at h2; exact (of_decide_eq_true h2).1
      have hz2 : (i : Int) + 2 < (s.size : Int) := by omega
      rw [h2] at c2
      clear h2
      go_enter Tryz.func122, Tryz.ntmps122
      go_wp2_with fail
      refine (c1.out _).mono ?_; rintro e w' ⟨rfl, rfl⟩
      go_wp2_with fail
      refine (c2.out _).mono ?_; rintro e w' ⟨rfl, rfl⟩
      go_wp2_with fail
      go_quiet (fail)
      go_wp2_with fail
      go_ret2
      first | exact ⟨⟨_, rfl⟩, Q.drewN _ _⟩ | exact ⟨_, rfl, Q.drewN _ _⟩
set_option maxRecDepth 100000 in
set_option maxHeartbeats 8000000 in
theorem dec_ED (s : ByteArray) (i : Nat) (w : World) (hs : s.size ≤ 1000000) (hi : i < s.size) (hb : (s[i].toNat : Int) = 237) :
    Calls Tryz.prog 122 #[.string s, .int .i64 (i : Int)] w fun e w' => ∃ c : Int, e = .returned (.tuple #[.int .i64 c, .int .i64 (if contB s (i + 1) 128 159 then (if contB s (i + 2) 128 191 then 3 else 0) else 0)]) ∧ Q w w' := by
  have hz : (i : Int) < (s.size : Int) := by omega
  have hneg : decide ((i : Int) < 0) = false := decide_eq_false (by omega)
  have hp1 : (0 : Int) ≤ (i : Int) + 1 := by omega
  have hp2 : (0 : Int) ≤ (i : Int) + 2 := by omega
  have hp3 : (0 : Int) ≤ (i : Int) + 3 := by omega
  have g0 : ¬ (s[i].toNat : Int) < 128 := by omega
  have g1 : 194 ≤ (s[i].toNat : Int) := by omega
  have g1b : ¬ (s[i].toNat : Int) ≤ 223 := by omega
  have g2 : 224 ≤ (s[i].toNat : Int) := by omega
  have g2b : (s[i].toNat : Int) ≤ 239 := by omega
  have g3 : ¬ 240 ≤ (s[i].toNat : Int) := by omega
  have e1 : ((s[i].toNat : Int) == 224) = false := beq_eq_false_iff_ne.2 (by omega)
  have e2 : ((s[i].toNat : Int) == 237) = true := beq_iff_eq.2 (by omega)
  have e3 : ((s[i].toNat : Int) == 240) = false := beq_eq_false_iff_ne.2 (by omega)
  have e4 : ((s[i].toNat : Int) == 244) = false := beq_eq_false_iff_ne.2 (by omega)
  try clear hb
  have c1 : Hid (∀ w, Calls Tryz.prog 128 #[.string s, .int .i64 ((i : Int) + 1), .int .u8 128, .int .u8 159] w fun e w' => e = .returned (.bool (contB s (i + 1) 128 159)) ∧ w = w') := fun w => cont_any s (i + 1) 128 159 w
  have c2 : Hid (∀ w, Calls Tryz.prog 128 #[.string s, .int .i64 ((i : Int) + 2), .int .u8 128, .int .u8 191] w fun e w' => e = .returned (.bool (contB s (i + 2) 128 191)) ∧ w = w') := fun w => cont_any s (i + 2) 128 191 w
  cases h1 : contB s (i + 1) 128 159 with
  | false =>
    rw [h1] at c1
    clear h1
    go_enter Tryz.func122, Tryz.ntmps122
    go_wp2_with fail
    refine (c1.out _).mono ?_; rintro e w' ⟨rfl, rfl⟩
    go_wp2_with fail
    go_ret2
    first | exact ⟨⟨_, rfl⟩, Q.refl _⟩ | exact ⟨_, rfl, Q.refl _⟩
  | true =>
    have hi1 : i + 1 < s.size := by unfold contB at h1; exact (of_decide_eq_true h1).1
    have hz1 : (i : Int) + 1 < (s.size : Int) := by omega
    rw [h1] at c1
    clear h1
    cases h2 : contB s (i + 2) 128 191 with
    | false =>
      rw [h2] at c2
      clear h2
      go_enter Tryz.func122, Tryz.ntmps122
      go_wp2_with fail
      refine (c1.out _).mono ?_; rintro e w' ⟨rfl, rfl⟩
      go_wp2_with fail
      refine (c2.out _).mono ?_; rintro e w' ⟨rfl, rfl⟩
      go_wp2_with fail
      go_ret2
      first | exact ⟨⟨_, rfl⟩, Q.refl _⟩ | exact ⟨_, rfl, Q.refl _⟩
    | true =>
      have hi2 : i + 2 < s.size := by unfold contB at h2; exact (of_decide_eq_true h2).1
      have hz2 : (i : Int) + 2 < (s.size : Int) := by omega
      rw [h2] at c2
      clear h2
      go_enter Tryz.func122, Tryz.ntmps122
      go_wp2_with fail
      refine (c1.out _).mono ?_; rintro e w' ⟨rfl, rfl⟩
      go_wp2_with fail
      refine (c2.out _).mono ?_; rintro e w' ⟨rfl, rfl⟩
      go_wp2_with fail
      go_quiet (fail)
      go_wp2_with fail
      go_ret2
      first | exact ⟨⟨_, rfl⟩, Q.drewN _ _⟩ | exact ⟨_, rfl, Q.drewN _ _⟩
set_option maxRecDepth 100000 in
set_option maxHeartbeats 8000000 in
theorem dec_E1 (s : ByteArray) (i : Nat) (w : World) (hs : s.size ≤ 1000000) (hi : i < s.size) (hb0 : 224 ≤ (s[i].toNat : Int)) (hb : (s[i].toNat : Int) ≤ 239) (hn1 : ¬ (s[i].toNat : Int) = 224) (hn2 : ¬ (s[i].toNat : Int) = 237) :
    Calls Tryz.prog 122 #[.string s, .int .i64 (i : Int)] w fun e w' => ∃ c : Int, e = .returned (.tuple #[.int .i64 c, .int .i64 (if contB s (i + 1) 128 191 then (if contB s (i + 2) 128 191 then 3 else 0) else 0)]) ∧ Q w w' := by
  have hz : (i : Int) < (s.size : Int) := by omega
  have hneg : decide ((i : Int) < 0) = false := decide_eq_false (by omega)
  have hp1 : (0 : Int) ≤ (i : Int) + 1 := by omega
  have hp2 : (0 : Int) ≤ (i : Int) + 2 := by omega
  have hp3 : (0 : Int) ≤ (i : Int) + 3 := by omega
  have g0 : ¬ (s[i].toNat : Int) < 128 := by omega
  have g1 : 194 ≤ (s[i].toNat : Int) := by omega
  have g1b : ¬ (s[i].toNat : Int) ≤ 223 := by omega
  have g2 : 224 ≤ (s[i].toNat : Int) := by omega
  have g2b : (s[i].toNat : Int) ≤ 239 := by omega
  have g3 : ¬ 240 ≤ (s[i].toNat : Int) := by omega
  have e1 : ((s[i].toNat : Int) == 224) = false := beq_eq_false_iff_ne.2 (by omega)
  have e2 : ((s[i].toNat : Int) == 237) = false := beq_eq_false_iff_ne.2 (by omega)
  have e3 : ((s[i].toNat : Int) == 240) = false := beq_eq_false_iff_ne.2 (by omega)
  have e4 : ((s[i].toNat : Int) == 244) = false := beq_eq_false_iff_ne.2 (by omega)
  try clear hb
  have c1 : Hid (∀ w, Calls Tryz.prog 128 #[.string s, .int .i64 ((i : Int) + 1), .int .u8 128, .int .u8 191] w fun e w' => e = .returned (.bool (contB s (i + 1) 128 191)) ∧ w = w') := fun w => cont_any s (i + 1) 128 191 w
  have c2 : Hid (∀ w, Calls Tryz.prog 128 #[.string s, .int .i64 ((i : Int) + 2), .int .u8 128, .int .u8 191] w fun e w' => e = .returned (.bool (contB s (i + 2) 128 191)) ∧ w = w') := fun w => cont_any s (i + 2) 128 191 w
  cases h1 : contB s (i + 1) 128 191 with
  | false =>
    rw [h1] at c1
    clear h1
    go_enter Tryz.func122, Tryz.ntmps122
    go_wp2_with fail
    refine (c1.out _).mono ?_; rintro e w' ⟨rfl, rfl⟩
    go_wp2_with fail
    go_ret2
    first | exact ⟨⟨_, rfl⟩, Q.refl _⟩ | exact ⟨_, rfl, Q.refl _⟩
  | true =>
    have hi1 : i + 1 < s.size := by unfold contB at h1; exact (of_decide_eq_true h1).1
    have hz1 : (i : Int) + 1 < (s.size : Int) := by omega
    rw [h1] at c1
    clear h1
    cases h2 : contB s (i + 2) 128 191 with
    | false =>
      rw [h2] at c2
      clear h2
      go_enter Tryz.func122, Tryz.ntmps122
      go_wp2_with fail
      refine (c1.out _).mono ?_; rintro e w' ⟨rfl, rfl⟩
      go_wp2_with fail
      refine (c2.out _).mono ?_; rintro e w' ⟨rfl, rfl⟩
      go_wp2_with fail
      go_ret2
      first | exact ⟨⟨_, rfl⟩, Q.refl _⟩ | exact ⟨_, rfl, Q.refl _⟩
    | true =>
      have hi2 : i + 2 < s.size := by unfold contB at h2; exact (of_decide_eq_true h2).1
      have hz2 : (i : Int) + 2 < (s.size : Int) := by omega
      rw [h2] at c2
      clear h2
      go_enter Tryz.func122, Tryz.ntmps122
      go_wp2_with fail
      refine (c1.out _).mono ?_; rintro e w' ⟨rfl, rfl⟩
      go_wp2_with fail
      refine (c2.out _).mono ?_; rintro e w' ⟨rfl, rfl⟩
      go_wp2_with fail
      go_quiet (fail)
      go_wp2_with fail
      go_ret2
      first | exact ⟨⟨_, rfl⟩, Q.drewN _ _⟩ | exact ⟨_, rfl, Q.drewN _ _⟩
set_option maxRecDepth 100000 in
set_option maxHeartbeats 8000000 in
theorem dec_F0 (s : ByteArray) (i : Nat) (w : World) (hs : s.size ≤ 1000000) (hi : i < s.size) (hb : (s[i].toNat : Int) = 240) :
    Calls Tryz.prog 122 #[.string s, .int .i64 (i : Int)] w fun e w' => ∃ c : Int, e = .returned (.tuple #[.int .i64 c, .int .i64 (if contB s (i + 1) 144 191 then (if contB s (i + 2) 128 191 then (if contB s (i + 3) 128 191 then 4 else 0) else 0) else 0)]) ∧ Q w w' := by
  have hz : (i : Int) < (s.size : Int) := by omega
  have hneg : decide ((i : Int) < 0) = false := decide_eq_false (by omega)
  have hp1 : (0 : Int) ≤ (i : Int) + 1 := by omega
  have hp2 : (0 : Int) ≤ (i : Int) + 2 := by omega
  have hp3 : (0 : Int) ≤ (i : Int) + 3 := by omega
  have g0 : ¬ (s[i].toNat : Int) < 128 := by omega
  have g1 : 194 ≤ (s[i].toNat : Int) := by omega
  have g1b : ¬ (s[i].toNat : Int) ≤ 223 := by omega
  have g2 : 224 ≤ (s[i].toNat : Int) := by omega
  have g2b : ¬ (s[i].toNat : Int) ≤ 239 := by omega
  have g3 : 240 ≤ (s[i].toNat : Int) := by omega
  have g3b : (s[i].toNat : Int) ≤ 244 := by omega
  have e1 : ((s[i].toNat : Int) == 224) = false := beq_eq_false_iff_ne.2 (by omega)
  have e2 : ((s[i].toNat : Int) == 237) = false := beq_eq_false_iff_ne.2 (by omega)
  have e3 : ((s[i].toNat : Int) == 240) = true := beq_iff_eq.2 (by omega)
  have e4 : ((s[i].toNat : Int) == 244) = false := beq_eq_false_iff_ne.2 (by omega)
  try clear hb
  have c1 : Hid (∀ w, Calls Tryz.prog 128 #[.string s, .int .i64 ((i : Int) + 1), .int .u8 144, .int .u8 191] w fun e w' => e = .returned (.bool (contB s (i + 1) 144 191)) ∧ w = w') := fun w => cont_any s (i + 1) 144 191 w
  have c2 : Hid (∀ w, Calls Tryz.prog 128 #[.string s, .int .i64 ((i : Int) + 2), .int .u8 128, .int .u8 191] w fun e w' => e = .returned (.bool (contB s (i + 2) 128 191)) ∧ w = w') := fun w => cont_any s (i + 2) 128 191 w
  have c3 : Hid (∀ w, Calls Tryz.prog 128 #[.string s, .int .i64 ((i : Int) + 3), .int .u8 128, .int .u8 191] w fun e w' => e = .returned (.bool (contB s (i + 3) 128 191)) ∧ w = w') := fun w => cont_any s (i + 3) 128 191 w
  cases h1 : contB s (i + 1) 144 191 with
  | false =>
    rw [h1] at c1
    clear h1
    go_enter Tryz.func122, Tryz.ntmps122
    go_wp2_with fail
    refine (c1.out _).mono ?_; rintro e w' ⟨rfl, rfl⟩
    go_wp2_with fail
    go_ret2
    first | exact ⟨⟨_, rfl⟩, Q.refl _⟩ | exact ⟨_, rfl, Q.refl _⟩
  | true =>
    have hi1 : i + 1 < s.size := by unfold contB at h1; exact (of_decide_eq_true h1).1
    have hz1 : (i : Int) + 1 < (s.size : Int) := by omega
    rw [h1] at c1
    clear h1
    cases h2 : contB s (i + 2) 128 191 with
    | false =>
      rw [h2] at c2
      clear h2
      go_enter Tryz.func122, Tryz.ntmps122
      go_wp2_with fail
      refine (c1.out _).mono ?_; rintro e w' ⟨rfl, rfl⟩
      go_wp2_with fail
      refine (c2.out _).mono ?_; rintro e w' ⟨rfl, rfl⟩
      go_wp2_with fail
      go_ret2
      first | exact ⟨⟨_, rfl⟩, Q.refl _⟩ | exact ⟨_, rfl, Q.refl _⟩
    | true =>
      have hi2 : i + 2 < s.size := by unfold contB at h2; exact (of_decide_eq_true h2).1
      have hz2 : (i : Int) + 2 < (s.size : Int) := by omega
      rw [h2] at c2
      clear h2
      cases h3 : contB s (i + 3) 128 191 with
      | false =>
        rw [h3] at c3
        clear h3
        go_enter Tryz.func122, Tryz.ntmps122
        go_wp2_with fail
        refine (c1.out _).mono ?_; rintro e w' ⟨rfl, rfl⟩
        go_wp2_with fail
        refine (c2.out _).mono ?_; rintro e w' ⟨rfl, rfl⟩
        go_wp2_with fail
        refine (c3.out _).mono ?_; rintro e w' ⟨rfl, rfl⟩
        go_wp2_with fail
        go_ret2
        first | exact ⟨⟨_, rfl⟩, Q.refl _⟩ | exact ⟨_, rfl, Q.refl _⟩
      | true =>
        have hi3 : i + 3 < s.size := by unfold contB at h3; exact (of_decide_eq_true h3).1
        have hz3 : (i : Int) + 3 < (s.size : Int) := by omega
        rw [h3] at c3
        clear h3
        go_enter Tryz.func122, Tryz.ntmps122
        go_wp2_with fail
        refine (c1.out _).mono ?_; rintro e w' ⟨rfl, rfl⟩
        go_wp2_with fail
        refine (c2.out _).mono ?_; rintro e w' ⟨rfl, rfl⟩
        go_wp2_with fail
        refine (c3.out _).mono ?_; rintro e w' ⟨rfl, rfl⟩
        go_wp2_with fail
        go_quiet (fail)
        go_wp2_with fail
        go_ret2
        first | exact ⟨⟨_, rfl⟩, Q.drewN _ _⟩ | exact ⟨_, rfl, Q.drewN _ _⟩
set_option maxRecDepth 100000 in
set_option maxHeartbeats 8000000 in
theorem dec_F4 (s : ByteArray) (i : Nat) (w : World) (hs : s.size ≤ 1000000) (hi : i < s.size) (hb : (s[i].toNat : Int) = 244) :
    Calls Tryz.prog 122 #[.string s, .int .i64 (i : Int)] w fun e w' => ∃ c : Int, e = .returned (.tuple #[.int .i64 c, .int .i64 (if contB s (i + 1) 128 143 then (if contB s (i + 2) 128 191 then (if contB s (i + 3) 128 191 then 4 else 0) else 0) else 0)]) ∧ Q w w' := by
  have hz : (i : Int) < (s.size : Int) := by omega
  have hneg : decide ((i : Int) < 0) = false := decide_eq_false (by omega)
  have hp1 : (0 : Int) ≤ (i : Int) + 1 := by omega
  have hp2 : (0 : Int) ≤ (i : Int) + 2 := by omega
  have hp3 : (0 : Int) ≤ (i : Int) + 3 := by omega
  have g0 : ¬ (s[i].toNat : Int) < 128 := by omega
  have g1 : 194 ≤ (s[i].toNat : Int) := by omega
  have g1b : ¬ (s[i].toNat : Int) ≤ 223 := by omega
  have g2 : 224 ≤ (s[i].toNat : Int) := by omega
  have g2b : ¬ (s[i].toNat : Int) ≤ 239 := by omega
  have g3 : 240 ≤ (s[i].toNat : Int) := by omega
  have g3b : (s[i].toNat : Int) ≤ 244 := by omega
  have e1 : ((s[i].toNat : Int) == 224) = false := beq_eq_false_iff_ne.2 (by omega)
  have e2 : ((s[i].toNat : Int) == 237) = false := beq_eq_false_iff_ne.2 (by omega)
  have e3 : ((s[i].toNat : Int) == 240) = false := beq_eq_false_iff_ne.2 (by omega)
  have e4 : ((s[i].toNat : Int) == 244) = true := beq_iff_eq.2 (by omega)
  try clear hb
  have c1 : Hid (∀ w, Calls Tryz.prog 128 #[.string s, .int .i64 ((i : Int) + 1), .int .u8 128, .int .u8 143] w fun e w' => e = .returned (.bool (contB s (i + 1) 128 143)) ∧ w = w') := fun w => cont_any s (i + 1) 128 143 w
  have c2 : Hid (∀ w, Calls Tryz.prog 128 #[.string s, .int .i64 ((i : Int) + 2), .int .u8 128, .int .u8 191] w fun e w' => e = .returned (.bool (contB s (i + 2) 128 191)) ∧ w = w') := fun w => cont_any s (i + 2) 128 191 w
  have c3 : Hid (∀ w, Calls Tryz.prog 128 #[.string s, .int .i64 ((i : Int) + 3), .int .u8 128, .int .u8 191] w fun e w' => e = .returned (.bool (contB s (i + 3) 128 191)) ∧ w = w') := fun w => cont_any s (i + 3) 128 191 w
  cases h1 : contB s (i + 1) 128 143 with
  | false =>
    rw [h1] at c1
    clear h1
    go_enter Tryz.func122, Tryz.ntmps122
    go_wp2_with fail
    refine (c1.out _).mono ?_; rintro e w' ⟨rfl, rfl⟩
    go_wp2_with fail
    go_ret2
    first | exact ⟨⟨_, rfl⟩, Q.refl _⟩ | exact ⟨_, rfl, Q.refl _⟩
  | true =>
    have hi1 : i + 1 < s.size := by unfold contB at h1; exact (of_decide_eq_true h1).1
    have hz1 : (i : Int) + 1 < (s.size : Int) := by omega
    rw [h1] at c1
    clear h1
    cases h2 : contB s (i + 2) 128 191 with
    | false =>
      rw [h2] at c2
      clear h2
      go_enter Tryz.func122, Tryz.ntmps122
      go_wp2_with fail
      refine (c1.out _).mono ?_; rintro e w' ⟨rfl, rfl⟩
      go_wp2_with fail
      refine (c2.out _).mono ?_; rintro e w' ⟨rfl, rfl⟩
      go_wp2_with fail
      go_ret2
      first | exact ⟨⟨_, rfl⟩, Q.refl _⟩ | exact ⟨_, rfl, Q.refl _⟩
    | true =>
      have hi2 : i + 2 < s.size := by unfold contB at h2; exact (of_decide_eq_true h2).1
      have hz2 : (i : Int) + 2 < (s.size : Int) := by omega
      rw [h2] at c2
      clear h2
      cases h3 : contB s (i + 3) 128 191 with
      | false =>
        rw [h3] at c3
        clear h3
        go_enter Tryz.func122, Tryz.ntmps122
        go_wp2_with fail
        refine (c1.out _).mono ?_; rintro e w' ⟨rfl, rfl⟩
        go_wp2_with fail
        refine (c2.out _).mono ?_; rintro e w' ⟨rfl, rfl⟩
        go_wp2_with fail
        refine (c3.out _).mono ?_; rintro e w' ⟨rfl, rfl⟩
        go_wp2_with fail
        go_ret2
        first | exact ⟨⟨_, rfl⟩, Q.refl _⟩ | exact ⟨_, rfl, Q.refl _⟩
      | true =>
        have hi3 : i + 3 < s.size := by unfold contB at h3; exact (of_decide_eq_true h3).1
        have hz3 : (i : Int) + 3 < (s.size : Int) := by omega
        rw [h3] at c3
        clear h3
        go_enter Tryz.func122, Tryz.ntmps122
        go_wp2_with fail
        refine (c1.out _).mono ?_; rintro e w' ⟨rfl, rfl⟩
        go_wp2_with fail
        refine (c2.out _).mono ?_; rintro e w' ⟨rfl, rfl⟩
        go_wp2_with fail
        refine (c3.out _).mono ?_; rintro e w' ⟨rfl, rfl⟩
        go_wp2_with fail
        go_quiet (fail)
        go_wp2_with fail
        go_ret2
        first | exact ⟨⟨_, rfl⟩, Q.drewN _ _⟩ | exact ⟨_, rfl, Q.drewN _ _⟩
set_option maxRecDepth 100000 in
set_option maxHeartbeats 8000000 in
theorem dec_F1 (s : ByteArray) (i : Nat) (w : World) (hs : s.size ≤ 1000000) (hi : i < s.size) (hb0 : 240 ≤ (s[i].toNat : Int)) (hb : (s[i].toNat : Int) ≤ 244) (hn1 : ¬ (s[i].toNat : Int) = 240) (hn2 : ¬ (s[i].toNat : Int) = 244) :
    Calls Tryz.prog 122 #[.string s, .int .i64 (i : Int)] w fun e w' => ∃ c : Int, e = .returned (.tuple #[.int .i64 c, .int .i64 (if contB s (i + 1) 128 191 then (if contB s (i + 2) 128 191 then (if contB s (i + 3) 128 191 then 4 else 0) else 0) else 0)]) ∧ Q w w' := by
  have hz : (i : Int) < (s.size : Int) := by omega
  have hneg : decide ((i : Int) < 0) = false := decide_eq_false (by omega)
  have hp1 : (0 : Int) ≤ (i : Int) + 1 := by omega
  have hp2 : (0 : Int) ≤ (i : Int) + 2 := by omega
  have hp3 : (0 : Int) ≤ (i : Int) + 3 := by omega
  have g0 : ¬ (s[i].toNat : Int) < 128 := by omega
  have g1 : 194 ≤ (s[i].toNat : Int) := by omega
  have g1b : ¬ (s[i].toNat : Int) ≤ 223 := by omega
  have g2 : 224 ≤ (s[i].toNat : Int) := by omega
  have g2b : ¬ (s[i].toNat : Int) ≤ 239 := by omega
  have g3 : 240 ≤ (s[i].toNat : Int) := by omega
  have g3b : (s[i].toNat : Int) ≤ 244 := by omega
  have e1 : ((s[i].toNat : Int) == 224) = false := beq_eq_false_iff_ne.2 (by omega)
  have e2 : ((s[i].toNat : Int) == 237) = false := beq_eq_false_iff_ne.2 (by omega)
  have e3 : ((s[i].toNat : Int) == 240) = false := beq_eq_false_iff_ne.2 (by omega)
  have e4 : ((s[i].toNat : Int) == 244) = false := beq_eq_false_iff_ne.2 (by omega)
  try clear hb
  have c1 : Hid (∀ w, Calls Tryz.prog 128 #[.string s, .int .i64 ((i : Int) + 1), .int .u8 128, .int .u8 191] w fun e w' => e = .returned (.bool (contB s (i + 1) 128 191)) ∧ w = w') := fun w => cont_any s (i + 1) 128 191 w
  have c2 : Hid (∀ w, Calls Tryz.prog 128 #[.string s, .int .i64 ((i : Int) + 2), .int .u8 128, .int .u8 191] w fun e w' => e = .returned (.bool (contB s (i + 2) 128 191)) ∧ w = w') := fun w => cont_any s (i + 2) 128 191 w
  have c3 : Hid (∀ w, Calls Tryz.prog 128 #[.string s, .int .i64 ((i : Int) + 3), .int .u8 128, .int .u8 191] w fun e w' => e = .returned (.bool (contB s (i + 3) 128 191)) ∧ w = w') := fun w => cont_any s (i + 3) 128 191 w
  cases h1 : contB s (i + 1) 128 191 with
  | false =>
    rw [h1] at c1
    clear h1
    go_enter Tryz.func122, Tryz.ntmps122
    go_wp2_with fail
    refine (c1.out _).mono ?_; rintro e w' ⟨rfl, rfl⟩
    go_wp2_with fail
    go_ret2
    first | exact ⟨⟨_, rfl⟩, Q.refl _⟩ | exact ⟨_, rfl, Q.refl _⟩
  | true =>
    have hi1 : i + 1 < s.size := by unfold contB at h1; exact (of_decide_eq_true h1).1
    have hz1 : (i : Int) + 1 < (s.size : Int) := by omega
    rw [h1] at c1
    clear h1
    cases h2 : contB s (i + 2) 128 191 with
    | false =>
      rw [h2] at c2
      clear h2
      go_enter Tryz.func122, Tryz.ntmps122
      go_wp2_with fail
      refine (c1.out _).mono ?_; rintro e w' ⟨rfl, rfl⟩
      go_wp2_with fail
      refine (c2.out _).mono ?_; rintro e w' ⟨rfl, rfl⟩
      go_wp2_with fail
      go_ret2
      first | exact ⟨⟨_, rfl⟩, Q.refl _⟩ | exact ⟨_, rfl, Q.refl _⟩
    | true =>
      have hi2 : i + 2 < s.size := by unfold contB at h2; exact (of_decide_eq_true h2).1
      have hz2 : (i : Int) + 2 < (s.size : Int) := by omega
      rw [h2] at c2
      clear h2
      cases h3 : contB s (i + 3) 128 191 with
      | false =>
        rw [h3] at c3
        clear h3
        go_enter Tryz.func122, Tryz.ntmps122
        go_wp2_with fail
        refine (c1.out _).mono ?_; rintro e w' ⟨rfl, rfl⟩
        go_wp2_with fail
        refine (c2.out _).mono ?_; rintro e w' ⟨rfl, rfl⟩
        go_wp2_with fail
        refine (c3.out _).mono ?_; rintro e w' ⟨rfl, rfl⟩
        go_wp2_with fail
        go_ret2
        first | exact ⟨⟨_, rfl⟩, Q.refl _⟩ | exact ⟨_, rfl, Q.refl _⟩
      | true =>
        have hi3 : i + 3 < s.size := by unfold contB at h3; exact (of_decide_eq_true h3).1
        have hz3 : (i : Int) + 3 < (s.size : Int) := by omega
        rw [h3] at c3
        clear h3
        go_enter Tryz.func122, Tryz.ntmps122
        go_wp2_with fail
        refine (c1.out _).mono ?_; rintro e w' ⟨rfl, rfl⟩
        go_wp2_with fail
        refine (c2.out _).mono ?_; rintro e w' ⟨rfl, rfl⟩
        go_wp2_with fail
        refine (c3.out _).mono ?_; rintro e w' ⟨rfl, rfl⟩
        go_wp2_with fail
        go_quiet (fail)
        go_wp2_with fail
        go_ret2
        first | exact ⟨⟨_, rfl⟩, Q.drewN _ _⟩ | exact ⟨_, rfl, Q.drewN _ _⟩

/-- What Decode returns at a place in a text: some number, and the bytes that the code point takes. -/
theorem dec_any (s : ByteArray) (i : Nat) (w : World) (hs : s.size ≤ 1000000) (hi : i < s.size) :
    Calls Tryz.prog 122 #[.string s, .int .i64 (i : Int)] w fun e w' => ∃ c : Int, e = .returned (.tuple #[.int .i64 c, .int .i64 (wid s i : Int)]) ∧ Q w w' := by
  have e := get_of s i hi
  have hlt := (s.get! i).toNat_lt
  by_cases a0 : (s.get! i).toNat < 128
  · rw [wid_ascii s i a0]
    exact dec_ascii s i w hs hi (by rw [e]; omega)
  by_cases a1 : (s.get! i).toNat < 194
  · rw [wid_bad s i (.inl ⟨by omega, a1⟩)]
    exact dec_lo s i w hs hi (by rw [e]; omega) (by rw [e]; omega)
  by_cases a2 : (s.get! i).toNat < 224
  · have h := dec_two s i w hs hi (by rw [e]; omega) (by rw [e]; omega)
    rw [wid_two s i hi ⟨by omega, a2⟩]
    revert h
    split <;> exact fun h => h
  by_cases a3 : (s.get! i).toNat < 240
  · by_cases c0 : (s.get! i).toNat = 224
    · have h := dec_E0 s i w hs hi (by rw [e]; omega)
      rw [wid_three s i 160 191 hi (fun n b1 b2 b3 hn h1 h2 h3 => Lib.slow_E0 n _ b1 b2 b3 hn h1 h2 h3 c0)]
      revert h
      repeat' split
      all_goals exact fun h => h
    by_cases c1 : (s.get! i).toNat = 237
    · have h := dec_ED s i w hs hi (by rw [e]; omega)
      rw [wid_three s i 128 159 hi (fun n b1 b2 b3 hn h1 h2 h3 => Lib.slow_ED n _ b1 b2 b3 hn h1 h2 h3 c1)]
      revert h
      repeat' split
      all_goals exact fun h => h
    · have h := dec_E1 s i w hs hi (by rw [e]; omega) (by rw [e]; omega) (by rw [e]; omega) (by rw [e]; omega)
      rw [wid_three s i 128 191 hi (fun n b1 b2 b3 hn h1 h2 h3 => Lib.slow_E1 n _ b1 b2 b3 hn h1 h2 h3 (by omega))]
      revert h
      repeat' split
      all_goals exact fun h => h
  by_cases a4 : (s.get! i).toNat < 245
  · by_cases c0 : (s.get! i).toNat = 240
    · have h := dec_F0 s i w hs hi (by rw [e]; omega)
      rw [wid_four s i 144 191 hi (fun n b1 b2 b3 hn h1 h2 h3 => Lib.slow_F0 n _ b1 b2 b3 hn h1 h2 h3 c0)]
      revert h
      repeat' split
      all_goals exact fun h => h
    by_cases c1 : (s.get! i).toNat = 244
    · have h := dec_F4 s i w hs hi (by rw [e]; omega)
      rw [wid_four s i 128 143 hi (fun n b1 b2 b3 hn h1 h2 h3 => Lib.slow_F4 n _ b1 b2 b3 hn h1 h2 h3 c1)]
      revert h
      repeat' split
      all_goals exact fun h => h
    · have h := dec_F1 s i w hs hi (by rw [e]; omega) (by rw [e]; omega) (by rw [e]; omega) (by rw [e]; omega)
      rw [wid_four s i 128 191 hi (fun n b1 b2 b3 hn h1 h2 h3 => Lib.slow_F1 n _ b1 b2 b3 hn h1 h2 h3 (by omega))]
      revert h
      repeat' split
      all_goals exact fun h => h
  · rw [wid_bad s i (.inr (by omega))]
    exact dec_hi s i w hs hi (by rw [e]; omega)

end Go.Proofs.YtjmchjphdfbhiaaGreatDoor.lit

namespace Go.Proofs.YtjmchjphdfbhiaaGreatDoor.lit
open Go.RowKit

theorem wid_le (s : ByteArray) (i : Nat) (hi : i < s.size) : i + wid s i ≤ s.size ∧ wid s i ≤ 4 := by
  have hne : s.data.toList.drop i ≠ [] := by
    intro h
    have := congrArg List.length h
    rw [List.length_drop, List.length_nil] at this
    simp at this
    omega
  have h1 := Lib.decodeL_le _ hne
  rw [List.length_drop, show s.data.toList.length = s.size by simp] at h1
  have h4 : (Lib.decodeL (s.data.toList.drop i)).2 ≤ 4 := by
    rw [Lib.decodeL_N]
    rcases Lib.decodeN_shape (s.data.toList.drop i).length ((s.data.toList.drop i).getD 0 0).toNat ((s.data.toList.drop i).getD 1 0).toNat ((s.data.toList.drop i).getD 2 0).toNat ((s.data.toList.drop i).getD 3 0).toNat with ⟨c, e⟩ | ⟨c1, c2, c3, cv, e⟩ | ⟨c1, c2, c3, c4, cv, cs, e⟩ | ⟨c1, c2, c3, c4, c5, cv, cw, e⟩ | e
    all_goals (rw [e]; dsimp only; omega)
  unfold wid
  split <;> omega
theorem drop_ne (s : ByteArray) (i : Nat) (hi : i < s.size) : s.data.toList.drop i ≠ [] := by
  intro h
  have := congrArg List.length h
  rw [List.length_drop, List.length_nil] at this
  simp at this
  omega
theorem valid_at (s : ByteArray) (i : Nat) (hi : i < s.size) : Lib.validD (s.data.toList.drop i) = if wid s i = 0 then false else Lib.validD (s.data.toList.drop (i + wid s i)) := by
  have hge := Lib.decodeL_width (s.data.toList.drop i)
  rw [Lib.validD_step _ (drop_ne s i hi)]
  unfold wid
  by_cases h : wrong (s.data.toList.drop i)
  · have h' := h
    unfold wrong at h'
    rw [if_pos h', if_pos h, if_pos rfl]
  · have h' := h
    unfold wrong at h'
    rw [if_neg h', if_neg h, if_neg (by omega), List.drop_drop]
theorem len_at (s : ByteArray) (i : Nat) (hi : i < s.size) : lenL (s.data.toList.drop i) = 1 + lenL (s.data.toList.drop (i + max (wid s i) 1)) := by
  have hge := Lib.decodeL_width (s.data.toList.drop i)
  rw [lenL_step _ (drop_ne s i hi), List.drop_drop]
  have : max (wid s i) 1 = (Lib.decodeL (s.data.toList.drop i)).2 := by
    unfold wid
    by_cases h : wrong (s.data.toList.drop i)
    · rw [if_pos h]
      unfold wrong at h
      rw [h.2]
      rfl
    · rw [if_neg h]
      exact Nat.max_eq_left hge
  rw [this]

set_option maxHeartbeats 1000000 in
theorem ref_valid (s : ByteArray) (w : World) (hs : s.size ≤ 1000000) :
    Calls Tryz.prog 105 #[.string s] w fun e w' => e = .returned (.bool (okL s.data.toList)) ∧ Q w w' := by
  unfold okL
  rw [show s.data.toList.length = s.size by simp]
  by_cases h : s.size ≤ 4096
  · rw [decide_eq_true h, Bool.true_and]
    have hz : (s.size : Int) ≤ 4096 := by omega
    obtain ⟨ANS, hANS⟩ : ∃ A, Lib.validD s.data.toList = A := ⟨_, rfl⟩
    rw [hANS]
    have H0 : Hid (Lib.validD (s.data.toList.drop 0) = ANS) := by rw [List.drop_zero]; exact hANS
    have hst := Lib.hid (valid_at s)
    have hwl := Lib.hid (wid_le s)
    have cD := Lib.hid (fun i w hi => dec_any s i w hs hi)
    have hzb : decide ((4096 : Int) < (s.size : Int)) = false := decide_eq_false (by omega)
    clear hANS h
    go_enter Tryz.func105, Tryz.ntmps105
    go_wp2_with fail
    go_loopw [3] (fun i wr => ∃ k : Nat, k ≤ s.size ∧ i = .int .i64 k ∧ Hid (Q w wr) ∧ Hid (Lib.validD (s.data.toList.drop k) = ANS)) (fun i _ => s.size - (intOf i).toNat)
    case atStart => exact ⟨0, Nat.zero_le _, rfl, Q.refl _, H0⟩
    case round =>
      obtain ⟨k, hk, rfl, hq, hv⟩ := hrel
      by_cases hlt : k < s.size
      · have hltz : (k : Int) < (s.size : Int) := by omega
        have hw2 := hwl.out k hlt
        have hst2 := Lib.hid (hst.out k hlt)
        have cD2 := Lib.hid (fun w => cD.out k w hlt)
        generalize wid s k = n at *
        by_cases hn : n = 0
        · subst hn
          have hres : ANS = false := by
            have := hst2.out
            rw [if_pos rfl] at this
            rw [← hv.out, this]
          subst hres
          go_wp2_with fail
          refine (cD2.out _).mono ?_; rintro e w1 ⟨c, rfl, q1⟩
          go_wp2_with fail
          go_ret
          exact ⟨rfl, hq.out.trans q1⟩
        · have hres : Hid (Lib.validD (s.data.toList.drop (k + n)) = ANS) := by
            have := hst2.out
            rw [if_neg hn] at this
            exact this.symm.trans hv.out
          have hnz : ¬ (n : Int) = 0 := by omega
          go_wp2_with fail
          refine (cD2.out _).mono ?_; rintro e w1 ⟨c, rfl, q1⟩
          have Q1 := Lib.hid (hq.out.trans q1)
          go_wp2_with fail
          go_roundw
          case rel => exact ⟨k + n, hw2.1, by go_num, Q1, hres⟩
          case measure => simp [intOf]; omega
      · obtain rfl : s.size = k := by omega
        have hres : ANS = true := by
          rw [← hv.out, List.drop_of_length_le (by simp)]
          rfl
        subst hres
        go_wp2_with fail
        go_ret
        exact ⟨rfl, hq.out⟩
  · rw [decide_eq_false h, Bool.false_and]
    have hz : ¬ (s.size : Int) ≤ 4096 := by omega
    go_enter Tryz.func105, Tryz.ntmps105
    go_wp2_with fail
    go_ret
    exact ⟨rfl, Q.refl _⟩

end Go.Proofs.YtjmchjphdfbhiaaGreatDoor.lit
