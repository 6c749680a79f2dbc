/- What the loops over the bits and bytes of a checksum return: the program's and the reference's. -/
import Derived.Test.YtffadpnlbaihgaaCrc
import Derived.Test.YtffadpnlbaihgaaShelf
import Derived.WalkKit
import Derived.WalkSpells
import Derived.WalkLawsBesides
import Derived.Handy
import Derived.Lib.Hide
import Derived.BigQuiet
import Derived.Deep.QuietTactic
import Derived.Laws.BitsAllLaws
namespace Go.Proofs.Ytffadpnlbaihgaa.crc
open Go.RowKit

/-- What a call does to the world at most: what was there is as it was. -/
def Q (w w' : World) : Prop := Below w.heap.size w w'
theorem Q.refl (w : World) : Q w w := Below.refl _ _
theorem Q.trans {a b c : World} (h : Q a b) (k : Q b c) : Q a c := Below.trans h (Below.mono k h.size)
theorem Q.drewN (w : World) (n : Nat) : Q w (w.drewN n) := ⟨rfl, rfl, rfl, by simp, fun _ _ => rfl⟩

theorem and_one (a : Nat) (h : a < 4294967296) : bits .and .u32 (a : Int) 1 = ((a % 2 : Nat) : Int) := by
  have := u32_and_nat a 1 h (by decide)
  rw [Nat.and_one_is_mod] at this
  exact this
theorem xor_poly (a : Nat) (h : a < 4294967296) : bits .xor .u32 (a : Int) 3988292384 = ((a ^^^ 3988292384 : Nat) : Int) := u32_xor_nat a 3988292384 h (by decide)
theorem xor_byte (a b : Nat) (h : a < 4294967296) (hb : b < 256) : bits .xor .u32 (a : Int) (b : Int) = ((a ^^^ b : Nat) : Int) := u32_xor_nat a b h (by omega)

theorem iter_snoc (k c : Nat) : iter (k + 1) c = step (iter k c) := by
  rw [iter_add k 1]; rfl

set_option maxRecDepth 100000 in
set_option maxHeartbeats 1000000 in
theorem addByte_any (c b : Nat) (w : World) (hc : c < 4294967296) (hb : b < 256) :
    Calls Try.prog 18 #[.int .u32 (c : Int), .int .u8 (b : Int)] w fun e w' => e = .returned (.int .u32 (turn c b : Nat)) ∧ w = w' := by
  have hx := Lib.hid (xor_byte c b hc hb)
  have hx' : (c ^^^ b) < 4294967296 := Nat.xor_lt_two_pow (n := 32) hc (by omega)
  have hbz : (b : Int) < 256 := by omega
  have hl : ∀ k, iter k (c ^^^ b) < 4294967296 := fun k => iter_lt k _ hx'
  have HL := Lib.hid hl
  have T : Hid (turn c b = iter 8 (c ^^^ b)) := Lib.hid rfl
  clear hl hx' hc hb
  go_enter Try.func18, Try.ntmps18
  go_wp2_with fail
  go_loop [0, 5, 10] (fun r o i => ∃ k : Nat, k ≤ 8 ∧ i = .int .i64 k ∧ r = .int .u32 (iter k (c ^^^ b) : Nat)) (fun _ _ i => 8 - (intOf i).toNat)
  case atStart => exact ⟨0, Nat.zero_le _, rfl, by rw [hx.out]; rfl⟩
  case round =>
    obtain ⟨k, hk, rfl, rfl⟩ := hrel
    by_cases hlt : k < 8
    · clear hk
      have hb0 := and_one (iter k (c ^^^ b)) (HL.out k)
      have hs := iter_snoc k (c ^^^ b)
      have hp := xor_poly (iter k (c ^^^ b) / 2) (by have := HL.out k; omega)
      unfold step at hs
      generalize iter k (c ^^^ b) = R at *
      by_cases h1 : R % 2 = 1
      · rw [if_pos h1] at hs
        have hbt : (bits .and .u32 (R : Int) 1 == 1) = true := by rw [hb0, h1]; rfl
        have HS := Lib.hid hs
        have HP := Lib.hid hp
        clear hb0 hs hp h1
        go_wp2_with fail
        go_round
        case rel => exact ⟨k + 1, by omega, by go_num, by rw [HS.out, ← HP.out]; rfl⟩
        case measure => simp [intOf]; omega
      · rw [if_neg h1] at hs
        have hbt : (bits .and .u32 (R : Int) 1 == 1) = false := by rw [hb0, show R % 2 = 0 by omega]; rfl
        have HS := Lib.hid hs
        clear hb0 hs hp h1
        go_wp2_with fail
        go_round
        case rel => exact ⟨k + 1, by omega, by go_num, by rw [HS.out]; rfl⟩
        case measure => simp [intOf]; omega
    · obtain rfl : k = 8 := by omega
      go_wp2_with fail
      go_ret
      exact ⟨by rw [T.out]; rfl, rfl⟩

set_option maxRecDepth 100000 in
set_option maxHeartbeats 1000000 in
theorem turn_any (c b : Nat) (w : World) (hc : c < 4294967296) (hb : b < 256) :
    Calls Try.prog 19 #[.int .u32 (c : Int), .int .u8 (b : Int)] w fun e w' => e = .returned (.int .u32 (turn c b : Nat)) ∧ w = w' := by
  have hx := Lib.hid (xor_byte c b hc hb)
  have hx' : (c ^^^ b) < 4294967296 := Nat.xor_lt_two_pow (n := 32) hc (by omega)
  have hbz : (b : Int) < 256 := by omega
  have hl : ∀ k, iter k (c ^^^ b) < 4294967296 := fun k => iter_lt k _ hx'
  have HL := Lib.hid hl
  have T : Hid (turn c b = iter 8 (c ^^^ b)) := Lib.hid rfl
  clear hl hx' hc hb
  go_enter Try.func19, Try.ntmps19
  go_wp2_with fail
  go_loop [0, 5] (fun r i => ∃ k : Nat, k ≤ 8 ∧ i = .int .i64 k ∧ r = .int .u32 (iter k (c ^^^ b) : Nat)) (fun _ i => 8 - (intOf i).toNat)
  case atStart => exact ⟨0, Nat.zero_le _, rfl, by rw [hx.out]; rfl⟩
  case round =>
    obtain ⟨k, hk, rfl, rfl⟩ := hrel
    by_cases hlt : k < 8
    · clear hk
      have hs := iter_snoc k (c ^^^ b)
      have hbig := HL.out k
      have hp := xor_poly (iter k (c ^^^ b) / 2) (by have := HL.out k; omega)
      unfold step at hs
      generalize iter k (c ^^^ b) = R at *
      have HB : Hid ((R : Int) / 2 % 4294967296 = ((R / 2 : Nat) : Int)) := by
        have : (R : Int) / 2 % 4294967296 = ((R / 2 : Nat) : Int) := by omega
        exact this
      clear hbig
      by_cases h1 : R % 2 = 1
      · rw [if_pos h1] at hs
        have hbt : ((R : Int) % 2 == 1) = true := by rw [show (R : Int) % 2 = 1 by omega]; rfl
        have HS := Lib.hid hs
        have HP := Lib.hid hp
        clear hs hp h1
        go_wp2_with fail
        go_round
        case rel => exact ⟨k + 1, by omega, by go_num, by rw [HS.out, ← HP.out, HB.out]⟩
        case measure => simp [intOf]; omega
      · rw [if_neg h1] at hs
        have hbt : ((R : Int) % 2 == 1) = false := by rw [show (R : Int) % 2 = 0 by omega]; rfl
        have HS := Lib.hid hs
        clear hs hp h1
        go_wp2_with fail
        go_round
        case rel => exact ⟨k + 1, by omega, by go_num, by rw [HS.out, HB.out]⟩
        case measure => simp [intOf]; omega
    · obtain rfl : k = 8 := by omega
      go_wp2_with fail
      go_ret
      exact ⟨by rw [T.out]; rfl, rfl⟩

/-- The bytes of a text so far. -/
theorem upto_next (s : ByteArray) (k : Nat) (h : k < s.size) : s.data.toList.take (k + 1) = s.data.toList.take k ++ [s[k]] :=
  List.take_succ_eq_append_getElem (show k < s.data.toList.length by simpa using h)
theorem take_whole (s : ByteArray) : s.data.toList.take s.size = s.data.toList := List.take_of_length_le (by simp)
theorem not_full (c : Nat) (h : c < 4294967296) : bits .xor .u32 (c : Int) 4294967295 = ((c ^^^ full : Nat) : Int) := u32_xor_nat c 4294967295 h (by decide)
/-- What goes on from a checksum. -/
def upd (c : Nat) (l : List UInt8) : Nat := reg (c ^^^ full) l ^^^ full
theorem full_lt : full < 4294967296 := by decide
theorem upd_lt (c : Nat) (l : List UInt8) (h : c < 4294967296) : upd c l < 4294967296 :=
  Nat.xor_lt_two_pow (n := 32) (reg_lt l _ (Nat.xor_lt_two_pow (n := 32) h full_lt)) full_lt
theorem upd_zero (l : List UInt8) : upd 0 l = sum l := by unfold upd sum; rw [Nat.zero_xor]
theorem upd_app (c : Nat) (l m : List UInt8) : upd (upd c l) m = upd c (l ++ m) := by
  unfold upd
  rw [reg_app]
  congr 2
  rw [Nat.xor_assoc, Nat.xor_self, Nat.xor_zero]

theorem not_pre (c : Nat) (h : c < 4294967296) : bits .xor .u32 IntKind.u32.max (c : Int) = ((c ^^^ full : Nat) : Int) := by
  rw [show IntKind.u32.max = ((4294967295 : Nat) : Int) by decide, u32_xor_nat 4294967295 c (by decide) h, Nat.xor_comm]
  rfl

set_option maxRecDepth 100000 in
set_option maxHeartbeats 1000000 in
theorem update_any (c : Nat) (s : ByteArray) (w : World) (hc : c < 4294967296) (hs : s.size ≤ 1000000) :
    Calls Try.prog 11 #[.int .u32 (c : Int), .string s] w fun e w' => e = .returned (.int .u32 (upd c s.data.toList : Nat)) ∧ w = w' := by
  have h0 := Lib.hid (not_pre c hc)
  have hc0 : c ^^^ full < 4294967296 := Nat.xor_lt_two_pow (n := 32) hc full_lt
  have HL : Hid (∀ k, reg (c ^^^ full) (s.data.toList.take k) < 4294967296) := fun k => reg_lt _ _ hc0
  have HT : Hid (∀ k (h : k < s.size), reg (c ^^^ full) (s.data.toList.take (k + 1)) = turn (reg (c ^^^ full) (s.data.toList.take k)) s[k].toNat) := fun k h => by rw [upto_next s k h, reg_snoc]
  have HE : Hid (bits .xor .u32 IntKind.u32.max (reg (c ^^^ full) (s.data.toList.take s.size) : Nat) = (upd c s.data.toList : Nat)) := by
    have h := not_pre (reg (c ^^^ full) s.data.toList) (reg_lt _ _ hc0)
    rw [take_whole]
    exact h
  have H0 : Hid (reg (c ^^^ full) (s.data.toList.take 0) = c ^^^ full) := rfl
  generalize upd c s.data.toList = U at *
  obtain ⟨R, hR⟩ : ∃ R : Nat → Nat, ∀ k, reg (c ^^^ full) (s.data.toList.take k) = R k := ⟨_, fun _ => rfl⟩
  simp only [hR] at HL HT HE H0
  clear hR hc0 hc
  go_enter Try.func11, Try.ntmps11
  go_wp2_with fail
  go_loop [5, 6] (fun r i => ∃ k : Nat, k ≤ s.size ∧ i = .int .i64 k ∧ r = .int .u32 (R k : Nat)) (fun _ i => s.size - (intOf i).toNat)
  case atStart => exact ⟨0, Nat.zero_le _, rfl, by rw [h0.out, H0.out]⟩
  case round =>
    obtain ⟨k, hk, rfl, rfl⟩ := hrel
    by_cases hlt : k < s.size
    · have hb := s[k].toNat_lt
      have CT : Hid (∀ w, Calls Try.prog 18 #[.int .u32 (R k : Nat), .int .u8 (s[k].toNat : Int)] w fun e w' => e = .returned (.int .u32 (R (k + 1) : Nat)) ∧ w = w') := fun w => by
        rw [HT.out k hlt]
        exact addByte_any _ _ w (HL.out k) hb
      clear hb HT HL HE h0 H0
      go_wp2_with fail
      refine (CT.out _).mono ?_; rintro e w' ⟨rfl, rfl⟩
      go_wp2_with fail
      go_round
      case rel => exact ⟨k + 1, by omega, by go_num, rfl⟩
      case measure => simp [intOf]; omega
    · obtain rfl : k = s.size := by omega
      clear HT HL h0 H0
      go_wp2_with fail
      go_ret
      exact ⟨by rw [← HE.out]; rfl, rfl⟩

set_option maxRecDepth 100000 in
set_option maxHeartbeats 1000000 in
theorem rupdate_any (c : Nat) (s : ByteArray) (w : World) (hc : c < 4294967296) (hs : s.size ≤ 1000000) :
    Calls Try.prog 12 #[.int .u32 (c : Int), .string s] w fun e w' => e = .returned (.int .u32 (upd c s.data.toList : Nat)) ∧ w = w' := by
  have h0 := Lib.hid (not_full c hc)
  have hc0 : c ^^^ full < 4294967296 := Nat.xor_lt_two_pow (n := 32) hc full_lt
  have HL : Hid (∀ k, reg (c ^^^ full) (s.data.toList.take k) < 4294967296) := fun k => reg_lt _ _ hc0
  have HT : Hid (∀ k (h : k < s.size), reg (c ^^^ full) (s.data.toList.take (k + 1)) = turn (reg (c ^^^ full) (s.data.toList.take k)) s[k].toNat) := fun k h => by rw [upto_next s k h, reg_snoc]
  have HE : Hid (bits .xor .u32 (reg (c ^^^ full) (s.data.toList.take s.size) : Nat) 4294967295 = (upd c s.data.toList : Nat)) := by
    have h := not_full (reg (c ^^^ full) s.data.toList) (reg_lt _ _ hc0)
    rw [take_whole]
    exact h
  have H0 : Hid (reg (c ^^^ full) (s.data.toList.take 0) = c ^^^ full) := rfl
  generalize upd c s.data.toList = U at *
  obtain ⟨R, hR⟩ : ∃ R : Nat → Nat, ∀ k, reg (c ^^^ full) (s.data.toList.take k) = R k := ⟨_, fun _ => rfl⟩
  simp only [hR] at HL HT HE H0
  clear hR hc0 hc
  go_enter Try.func12, Try.ntmps12
  go_wp2_with fail
  go_loop [5, 6] (fun r i => ∃ k : Nat, k ≤ s.size ∧ i = .int .i64 k ∧ r = .int .u32 (R k : Nat)) (fun _ i => s.size - (intOf i).toNat)
  case atStart => exact ⟨0, Nat.zero_le _, rfl, by rw [h0.out, H0.out]⟩
  case round =>
    obtain ⟨k, hk, rfl, rfl⟩ := hrel
    by_cases hlt : k < s.size
    · have hb := s[k].toNat_lt
      have CT : Hid (∀ w, Calls Try.prog 19 #[.int .u32 (R k : Nat), .int .u8 (s[k].toNat : Int)] w fun e w' => e = .returned (.int .u32 (R (k + 1) : Nat)) ∧ w = w') := fun w => by
        rw [HT.out k hlt]
        exact turn_any _ _ w (HL.out k) hb
      clear hb HT HL HE h0 H0
      go_wp2_with fail
      refine (CT.out _).mono ?_; rintro e w' ⟨rfl, rfl⟩
      go_wp2_with fail
      go_round
      case rel => exact ⟨k + 1, by omega, by go_num, rfl⟩
      case measure => simp [intOf]; omega
    · obtain rfl : k = s.size := by omega
      clear HT HL h0 H0
      go_wp2_with fail
      go_ret
      exact ⟨by rw [← HE.out]; rfl, rfl⟩

theorem sum_any (s : ByteArray) (w : World) (hs : s.size ≤ 1000000) :
    Calls Try.prog 9 #[.string s] w fun e w' => e = .returned (.int .u32 (sum s.data.toList : Nat)) ∧ w = w' := by
  have H : Hid (∀ w, Calls Try.prog 11 #[.int .u32 0, .string s] w fun e w' => e = .returned (.int .u32 (sum s.data.toList : Nat)) ∧ w = w') := fun w => by
    rw [← upd_zero]
    exact update_any 0 s w (by decide) hs
  go_enter Try.func9, Try.ntmps9
  go_wp2_with fail
  refine (H.out _).mono ?_; rintro e w' ⟨rfl, rfl⟩
  go_wp2_with fail
  go_ret
  exact ⟨rfl, rfl⟩
theorem rsum_any (s : ByteArray) (w : World) (hs : s.size ≤ 1000000) :
    Calls Try.prog 10 #[.string s] w fun e w' => e = .returned (.int .u32 (sum s.data.toList : Nat)) ∧ w = w' := by
  have H : Hid (∀ w, Calls Try.prog 12 #[.int .u32 0, .string s] w fun e w' => e = .returned (.int .u32 (sum s.data.toList : Nat)) ∧ w = w') := fun w => by
    rw [← upd_zero]
    exact rupdate_any 0 s w (by decide) hs
  go_enter Try.func10, Try.ntmps10
  go_wp2_with fail
  refine (H.out _).mono ?_; rintro e w' ⟨rfl, rfl⟩
  go_wp2_with fail
  go_ret
  exact ⟨rfl, rfl⟩

end Go.Proofs.Ytffadpnlbaihgaa.crc
