/- The law ChecksumBursts returns true for every input: changes within 32 consecutive bits are detected. -/
import Derived.Test.YtffadpnlbaihgaaCchg
import Derived.Test.YtffadpnlbaihgaaClawa
namespace Go.Proofs.Ytffadpnlbaihgaa.crc
open Go.RowKit

theorem xor_add (k b Y : Nat) (h : b < 2 ^ k) : b ^^^ 2 ^ k * Y = 2 ^ k * Y + b := by
  have hp := Nat.two_pow_pos k
  have h1 : (b ^^^ 2 ^ k * Y) % 2 ^ k = b := by
    rw [Nat.xor_mod_two_pow, Nat.mod_eq_of_lt h, Nat.mul_mod_right, Nat.xor_zero]
  have h2 : (b ^^^ 2 ^ k * Y) / 2 ^ k = Y := by
    rw [Nat.xor_div_two_pow, Nat.div_eq_of_lt h, Nat.mul_div_cancel_left _ hp, Nat.zero_xor]
  have h3 := Nat.div_add_mod (b ^^^ 2 ^ k * Y) (2 ^ k)
  rw [h1, h2] at h3
  exact h3.symm
theorem val4_add (a b c d : Nat) (ha : a < 256) (hb : b < 256) (hc : c < 256) : val4 a b c d = a + 256 * b + 65536 * c + 16777216 * d := by
  unfold val4
  have e1 := xor_add 8 a b ha
  rw [show a ^^^ 256 * b = 256 * b + a from e1]
  have e2 := xor_add 16 (256 * b + a) c (by omega)
  rw [show 256 * b + a ^^^ 65536 * c = 65536 * c + (256 * b + a) from e2]
  have e3 := xor_add 24 (65536 * c + (256 * b + a)) d (by omega)
  rw [show 65536 * c + (256 * b + a) ^^^ 16777216 * d = 16777216 * d + (65536 * c + (256 * b + a)) from e3]
  omega
theorem enc_val (c : Nat) (h : c < 4294967296) : val4 (UInt8.ofNat (c % 256)).toNat (UInt8.ofNat (c / 256 % 256)).toNat (UInt8.ofNat (c / 65536 % 256)).toNat (UInt8.ofNat (c / 16777216 % 256)).toNat = c := by
  rw [byte_val _ (by omega), byte_val _ (by omega), byte_val _ (by omega), byte_val _ (by omega), val4_add _ _ _ _ (by omega) (by omega) (by omega)]
  omega
/-- What is accepted leaves one number in the register. -/
theorem accepted (l : List UInt8) : reg full (l ++ enc (sum l)) = iter 32 full :=
  (accepts_iff l _ _ _ _).1 (enc_val (sum l) (sum_lt l))
theorem opens_reg (x : ByteArray) (h4 : 4 ≤ x.size) (h : reg full x.data.toList ≠ iter 32 full) : opens x = 20 := by
  unfold opens
  rw [if_neg (by omega)]
  split
  · rename_i he
    refine absurd ?_ h
    have e : x = headB x ++ tailB x := by
      unfold headB tailB
      rw [← ByteArray.extract_eq_extract_append_extract (x.size - 4) (by omega) (by omega)]
      exact ByteArray.extract_zero_size.symm
    rw [he] at e
    have e2 : x.data.toList = (headB x).data.toList ++ enc (sum (headB x).data.toList) := by
      conv => lhs; rw [e]
      simp [mark]
    rw [e2]
    exact accepted _
  · rfl

/-- What the law needs of the function that changes bits. -/
def Hits (x : ByteArray) (A : Bool) : Prop := x.size ≤ 1000 ∧ (A = true → opens x = 20)
theorem chg_hits (s : ByteArray) (hs : s.size ≤ 200) (at' : Nat) (w : World) {e : Ending} {w' : World} (h : Chg (s ++ mark s) at' w e w') :
    ∃ x A, e = .returned (.tuple #[.string x, .bool A]) ∧ Hid (Hits x A) ∧ Q w w' := by
  obtain ⟨l, M, rfl, h1, h2, h3, q⟩ := h
  rw [ByteArray.size_append, mark_size] at h1
  have hsz : (⟨l.toArray⟩ : ByteArray).size = s.size + 4 := by rw [← h1]; simp [ByteArray.size]
  refine ⟨_, _, rfl, ⟨by rw [hsz]; omega, fun hA => opens_reg _ (by rw [hsz]; omega) ?_⟩, q⟩
  have hM : M ≠ 0 := of_decide_eq_true hA
  have e : (s ++ mark s).data.toList = s.data.toList ++ enc (sum s.data.toList) := by simp [mark]
  show reg full l ≠ _
  rw [h3, e, accepted]
  exact burst _ _ _ _ h2 hM

set_option maxHeartbeats 1000000 in
theorem bursts_any (s : ByteArray) (a m : Int) (w : World) (hs : s.size ≤ maxLen) (ha : 0 ≤ a ∧ a ≤ 65535) (hm : 0 ≤ m ∧ m ≤ 4294967295) :
    Calls Try.prog 7 #[.string s, .int .u16 a, .int .u32 m] w fun e w' => e = .returned (.bool true) ∧ Q w w' := by
  unfold maxLen at hs
  by_cases h : 200 < s.size
  · have z1 : (200 : Int) < (s.size : Int) := by omega
    clear h hs ha hm
    go_enter Try.func7, Try.ntmps7
    go_wp2_with fail
    refine (awake_true _).mono ?_; rintro e w1 ⟨rfl, q1⟩
    go_wp2_with fail
    go_ret
    exact ⟨rfl, q1⟩
  · have z1 : ¬ (200 : Int) < (s.size : Int) := by omega
    have z0 : (s.size : Int) ≤ 200 := by omega
    obtain ⟨mask, rfl⟩ := Int.eq_ofNat_of_zero_le hm.1
    obtain ⟨at', rfl⟩ := Int.eq_ofNat_of_zero_le ha.1
    have hat : ((at' : Int) % (8 * (s.size : Int) + 32)) = ((at' % (8 * s.size + 32) : Nat) : Int) := by
      rw [Int.natCast_emod]; rfl
    have hat2 : at' % (8 * s.size + 32) ≤ 10000000 := by
      have := Nat.mod_le at' (8 * s.size + 32)
      omega
    obtain ⟨at2, hat3⟩ : ∃ n, at' % (8 * s.size + 32) = n := ⟨_, rfl⟩
    rw [hat3] at hat hat2
    have hsz : (s ++ mark s).size = s.size + 4 := by rw [ByteArray.size_append, mark_size]
    have cA : Hid (∀ w, Calls Try.prog 13 #[.string s] w fun e w' => e = .returned (.string (s ++ mark s)) ∧ Q w w') := fun w => append_any s w (by omega)
    have cC : Hid (∀ w, Calls Try.prog 17 #[.string (s ++ mark s), .int .i64 (at2 : Int), .int .u32 (mask : Int)] w fun e w' => ∃ x A, e = .returned (.tuple #[.string x, .bool A]) ∧ Hid (Hits x A) ∧ Q w w') :=
      fun w => (changed_any (s ++ mark s) at2 mask w (by omega) hat2 (by omega)).mono fun e w' h => chg_hits s (by omega) at2 w h
    have cV : Hid (∀ x w, Hid (Hits x true) → Calls Try.prog 14 #[.string x] w fun e w' => ∃ u, e = .returned (.tuple #[.string u, .int .i64 20]) ∧ Q w w') := fun x w hx => by
      have h := verify_any x w (by have := hx.out.1; omega)
      rw [hx.out.2 rfl] at h
      exact h.mono fun e w' h => ⟨_, h.1, h.2⟩
    clear h hs hat2 hat3 hm hsz
    generalize s ++ mark s = T at *
    go_enter Try.func7, Try.ntmps7
    go_wp2_with fail
    refine (cA.out _).mono ?_; rintro e w1 ⟨rfl, q1⟩
    go_wp2_with fail
    refine (cC.out _).mono ?_; rintro e w2 ⟨x, A, rfl, HX, q2⟩
    cases A with
    | false =>
      go_wp2_with fail
      refine (awake_true _).mono ?_; rintro e w3 ⟨rfl, q3⟩
      go_wp2_with fail
      go_ret
      exact ⟨rfl, (q1.trans q2).trans q3⟩
    | true =>
      go_wp2_with fail
      refine (cV.out _ _ HX).mono ?_; rintro e w3 ⟨u, rfl, q3⟩
      go_wp2_with fail
      refine (awake_true _).mono ?_; rintro e w4 ⟨rfl, q4⟩
      go_wp2_with fail
      go_ret
      exact ⟨rfl, ((q1.trans q2).trans q3).trans q4⟩

end Go.Proofs.Ytffadpnlbaihgaa.crc
