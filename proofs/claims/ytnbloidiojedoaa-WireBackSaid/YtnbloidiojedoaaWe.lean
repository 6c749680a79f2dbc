/- Appending of both: fold and zig, AppendNumber, AppendString; unfold and zag. -/
import Derived.Test.YtnbloidiojedoaaWb
namespace Go.Proofs.Ytnbloidiojedoaa.wir
open Go.RowKit

theorem all_one (n : Nat) : BitVec.ofInt n (-1) = BitVec.allOnes n := by
  rw [← BitVec.neg_one_eq_allOnes]
  simp [BitVec.ofInt_neg]
theorem not_u64 (a : Nat) (h : a < 18446744073709551616) : bits .xor .u64 IntKind.u64.max (a : Int) = ((18446744073709551615 - a : Nat) : Int) := by
  show IntKind.u64.wrap ((BitVec.ofInt 64 18446744073709551615 ^^^ BitVec.ofInt 64 (a : Int)).toNat : Int) = _
  rw [show BitVec.ofInt 64 18446744073709551615 = BitVec.allOnes 64 by decide, BitVec.allOnes_xor, BitVec.toNat_not, ofInt_u64 a h, IntKind.wrap_u64]
  omega
theorem not_i64 (a : Int) (h1 : -9223372036854775808 ≤ a) (h2 : a ≤ 9223372036854775807) : bits .xor .i64 (-1) a = -a - 1 := by
  show IntKind.i64.wrap ((BitVec.ofInt 64 (-1) ^^^ BitVec.ofInt 64 a).toNat : Int) = _
  rw [all_one, BitVec.allOnes_xor, BitVec.toNat_not, BitVec.toNat_ofInt]
  simp [IntKind.wrap, IntKind.signed, IntKind.bits]
  omega
theorem fold_val (n : Int) (h1 : -9223372036854775808 ≤ n) (h2 : n < 0) : bits .xor .u64 IntKind.u64.max (IntKind.u64.wrap (IntKind.u64.wrap n * 2)) = ((zig n : Nat) : Int) := by
  have e : IntKind.u64.wrap (IntKind.u64.wrap n * 2) = ((18446744073709551615 - zig n : Nat) : Int) := by
    rw [IntKind.wrap_u64, IntKind.wrap_u64]
    unfold zig
    rw [if_pos h2]
    omega
  rw [e, not_u64 _ (by omega)]
  unfold zig
  rw [if_pos h2]
  omega
theorem unfold_val (u : Nat) (h : u < 18446744073709551616) (h2 : u % 2 = 1) : bits .xor .i64 (-1) (wrap64 ((u : Int) / 2)) = zag u := by
  have e : wrap64 ((u : Int) / 2) = ((u / 2 : Nat) : Int) := by unfold wrap64; omega
  rw [e, not_i64 _ (by omega) (by omega)]
  unfold zag
  rw [if_pos h2]
theorem unfold_val0 (u : Nat) (h : u < 18446744073709551616) (h2 : ¬ u % 2 = 1) : wrap64 ((u : Int) / 2) = zag u := by
  unfold zag wrap64
  rw [if_neg h2]
  omega

theorem fold_any (n : Int) (w : World) (h1 : -9223372036854775808 ≤ n ∧ n ≤ 9223372036854775807) :
    Calls Try.prog 28 #[.int .i64 n] w fun e w' => e = .returned (.int .u64 ((zig n : Nat) : Int)) ∧ w = w' := by
  by_cases h : n < 0
  · have H := Lib.hid (fold_val n h1.1 h)
    clear h1
    have hsg : IntKind.u64.signed = false := rfl
    go_enter Try.func28, Try.ntmps28
    go_wp2_with fail
    go_ret
    exact ⟨by rw [← H.out]; rfl, rfl⟩
  · have h0 : 0 ≤ n := by omega
    have h3 : n ≤ 9223372036854775807 := h1.2
    have H : Hid (n * 2 = ((zig n : Nat) : Int)) := by
      have : n * 2 = ((zig n : Nat) : Int) := by unfold zig; rw [if_neg h]; omega
      exact this
    clear h1 h
    go_enter Try.func28, Try.ntmps28
    go_wp2_with fail
    go_ret
    exact ⟨by rw [← H.out]; rfl, rfl⟩
theorem zig_any (n : Int) (w : World) (h1 : -9223372036854775808 ≤ n ∧ n ≤ 9223372036854775807) :
    Calls Try.prog 29 #[.int .i64 n] w fun e w' => e = .returned (.int .u64 ((zig n : Nat) : Int)) ∧ w = w' := by
  by_cases h : n < 0
  · have h2 := h1.1
    clear h1
    have H : Hid (2 * -(n + 1) + 1 = ((zig n : Nat) : Int)) := by
      have : 2 * -(n + 1) + 1 = ((zig n : Nat) : Int) := by unfold zig; rw [if_pos h]; omega
      exact this
    go_enter Try.func29, Try.ntmps29
    go_wp2_with fail
    go_ret
    exact ⟨by rw [← H.out]; rfl, rfl⟩
  · have h0 : 0 ≤ n := by omega
    have h3 : n ≤ 9223372036854775807 := h1.2
    have H : Hid (2 * n = ((zig n : Nat) : Int)) := by
      have : 2 * n = ((zig n : Nat) : Int) := by unfold zig; rw [if_neg h]; omega
      exact this
    clear h1 h
    go_enter Try.func29, Try.ntmps29
    go_wp2_with fail
    go_ret
    exact ⟨by rw [← H.out]; rfl, rfl⟩
set_option maxRecDepth 100000 in
theorem unfold_any (u : Nat) (w : World) (h1 : u < 18446744073709551616) :
    Calls Try.prog 37 #[.int .u64 (u : Int)] w fun e w' => e = .returned (.int .i64 (zag u)) ∧ w = w' := by
  by_cases h : u % 2 = 1
  · have H := Lib.hid (unfold_val u h1 h)
    have h2 : ((u : Int) % 2 == 1) = true := by rw [show (u : Int) % 2 = 1 by omega]; rfl
    have hsg : IntKind.i64.signed = true := rfl
    clear h1 h
    go_enter Try.func37, Try.ntmps37
    go_wp2_with fail
    go_ret
    exact ⟨by rw [← H.out]; rfl, rfl⟩
  · have H := Lib.hid (unfold_val0 u h1 h)
    have h2 : ((u : Int) % 2 == 1) = false := by rw [show (u : Int) % 2 = 0 by omega]; rfl
    clear h1 h
    go_enter Try.func37, Try.ntmps37
    go_wp2_with fail
    go_ret
    exact ⟨by rw [← H.out]; rfl, rfl⟩
set_option maxRecDepth 100000 in
theorem zag_any (u : Nat) (w : World) (h1 : u < 18446744073709551616) :
    Calls Try.prog 31 #[.int .u64 (u : Int)] w fun e w' => e = .returned (.int .i64 (zag u)) ∧ w = w' := by
  by_cases h : u % 2 = 1
  · have H : Hid (-((u : Int) / 2) - 1 = zag u) := by
      have : -((u : Int) / 2) - 1 = zag u := by unfold zag; rw [if_pos h]; rfl
      exact this
    have h2 : ((u : Int) % 2 == 1) = true := by rw [show (u : Int) % 2 = 1 by omega]; rfl
    have h3 : (u : Int) / 2 ≤ 9223372036854775807 := by omega
    clear h1 h
    go_enter Try.func31, Try.ntmps31
    go_wp2_with fail
    go_ret
    exact ⟨by rw [← H.out]; rfl, rfl⟩
  · have H : Hid (((u : Int) / 2) = zag u) := by
      have : ((u : Int) / 2) = zag u := by unfold zag; rw [if_neg h]; rfl
      exact this
    have h2 : ((u : Int) % 2 == 1) = false := by rw [show (u : Int) % 2 = 0 by omega]; rfl
    have h3 : (u : Int) / 2 ≤ 9223372036854775807 := by omega
    clear h1 h
    go_enter Try.func31, Try.ntmps31
    go_wp2_with fail
    go_ret
    exact ⟨by rw [← H.out]; rfl, rfl⟩
end Go.Proofs.Ytnbloidiojedoaa.wir
