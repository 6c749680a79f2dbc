/- The reference's Encode, for every code point. -/
import Derived.Test.YthekabflbpfjoaaGreatDoorRptm
import Derived.Laws.BitsLemmas
namespace Go.Proofs.YthekabflbpfjoaaGreatDoor.lit
open Go.RowKit

theorem and63 (n : Int) : bits .and .i64 n 63 = n % 64 := by
  have h63 : (BitVec.ofInt 64 63).toNat = 2 ^ 6 - 1 := by decide
  have key : (BitVec.ofInt 64 n &&& BitVec.ofInt 64 63).toNat = (n % ((2 ^ 64 : Nat) : Int)).toNat % 2 ^ 6 := by
    rw [BitVec.toNat_and, BitVec.toNat_ofInt, h63, Nat.and_two_pow_sub_one_eq_mod]
  show IntKind.i64.wrap ((BitVec.ofInt 64 n &&& BitVec.ofInt 64 63).toNat : Nat) = n % 64
  rw [key, IntKind.wrap_i64]
  omega
theorem or128F : ∀ X : Fin 64, bits .or .i64 128 ((X.val : Nat) : Int) = 128 + ((X.val : Nat) : Int) := by decide +kernel
theorem or192F : ∀ X : Fin 32, bits .or .i64 192 ((X.val : Nat) : Int) = 192 + ((X.val : Nat) : Int) := by decide +kernel
theorem or224F : ∀ X : Fin 16, bits .or .i64 224 ((X.val : Nat) : Int) = 224 + ((X.val : Nat) : Int) := by decide +kernel
theorem or240F : ∀ X : Fin 8, bits .or .i64 240 ((X.val : Nat) : Int) = 240 + ((X.val : Nat) : Int) := by decide +kernel
theorem or128 (x : Int) (h0 : 0 ≤ x) (h1 : x < 64) : bits .or .i64 128 x % 256 = 128 + x := by
  obtain ⟨n, rfl⟩ := Int.eq_ofNat_of_zero_le h0
  have := or128F ⟨n, by omega⟩
  simp only at this
  rw [this]; omega
theorem or192 (x : Int) (h0 : 0 ≤ x) (h1 : x < 32) : bits .or .i64 192 x % 256 = 192 + x := by
  obtain ⟨n, rfl⟩ := Int.eq_ofNat_of_zero_le h0
  have := or192F ⟨n, by omega⟩
  simp only at this
  rw [this]; omega
theorem or224 (x : Int) (h0 : 0 ≤ x) (h1 : x < 16) : bits .or .i64 224 x % 256 = 224 + x := by
  obtain ⟨n, rfl⟩ := Int.eq_ofNat_of_zero_le h0
  have := or224F ⟨n, by omega⟩
  simp only at this
  rw [this]; omega
theorem or240 (x : Int) (h0 : 0 ≤ x) (h1 : x < 8) : bits .or .i64 240 x % 256 = 240 + x := by
  obtain ⟨n, rfl⟩ := Int.eq_ofNat_of_zero_le h0
  have := or240F ⟨n, by omega⟩
  simp only at this
  rw [this]; omega

/-- The bytes of a code point in memory. -/
theorem rune_made (w : World) (r : Int) (cs : List Value) (h : Lib.runeCells r = cs) :
    (convert 49 9 (.slice (some ⟨w.heap.size, 0, none⟩) cs.length cs.length)).run Tryz.prog (w.alloc (.cells cs.toArray 5)) = .ok (.string ⟨(Lib.encodeRune r).toArray⟩) (w.alloc (.cells cs.toArray 5)) := by
  have hl := encode_len r
  have := (Row.made w (Lib.encodeRune r) (by omega)).text
  rw [Lib.byteCells_encodeRune, h] at this
  rw [← Lib.runeCells_length, h] at this
  exact this
set_option maxRecDepth 100000 in
set_option maxHeartbeats 1000000 in
theorem enc_one (c : Nat) (w : World) (h1 : c < 128) :
    Calls Tryz.prog 129 #[.int .i64 (c : Int)] w fun e w' => e = .returned (.string ⟨(Lib.encodeRune (c : Int)).toArray⟩) ∧ Q w w' := by
  have z0 : (c : Int) < 128 := by omega
  have hcv : (convert 49 9 (.slice (some ⟨w.heap.size, 0, none⟩) 1 1)).run Tryz.prog (w.alloc (.cells #[.int .u8 (c : Int)] 5)) = .ok (.string ⟨(Lib.encodeRune (c : Int)).toArray⟩) (w.alloc (.cells #[.int .u8 (c : Int)] 5)) := by
    refine rune_made w (c : Int) [.int .u8 (c : Int)] ?_
    unfold Lib.runeCells
    rw [Lib.encodeRuneZ_one (by omega) (by omega)]
    rfl
  generalize Lib.encodeRune (c : Int) = E at *
  go_enter Tryz.func129, Tryz.ntmps129
  go_wp2_with fail
  go_ret
  exact ⟨rfl, Below.alloc (Below.refl _ _) (Nat.le_refl _) _⟩
set_option maxRecDepth 100000 in
set_option maxHeartbeats 1000000 in
theorem enc_two (c : Nat) (w : World) (h0 : 128 ≤ c) (h1 : c < 2048) :
    Calls Tryz.prog 129 #[.int .i64 (c : Int)] w fun e w' => e = .returned (.string ⟨(Lib.encodeRune (c : Int)).toArray⟩) ∧ Q w w' := by
  have z0 : ¬ (c : Int) < 128 := by omega
  have z1 : (c : Int) < 2048 := by omega
  have hcv : (convert 49 9 (.slice (some ⟨w.heap.size, 0, none⟩) 2 2)).run Tryz.prog (w.alloc (.cells #[.int .u8 (bits .or .i64 192 ((c : Int) / 64) % 256), .int .u8 (bits .or .i64 128 (bits .and .i64 (c : Int) 63) % 256)] 5)) = .ok (.string ⟨(Lib.encodeRune (c : Int)).toArray⟩) (w.alloc (.cells #[.int .u8 (bits .or .i64 192 ((c : Int) / 64) % 256), .int .u8 (bits .or .i64 128 (bits .and .i64 (c : Int) 63) % 256)] 5)) := by
    refine rune_made w (c : Int) [.int .u8 (bits .or .i64 192 ((c : Int) / 64) % 256), .int .u8 (bits .or .i64 128 (bits .and .i64 (c : Int) 63) % 256)] ?_
    unfold Lib.runeCells
    rw [Lib.encodeRuneZ_two (by omega) (by omega), or192 _ (by omega) (by omega), and63, or128 _ (by omega) (by omega)]
    rfl
  generalize Lib.encodeRune (c : Int) = E at *
  go_enter Tryz.func129, Tryz.ntmps129
  go_wp2_with fail
  go_ret
  exact ⟨rfl, Below.alloc (Below.refl _ _) (Nat.le_refl _) _⟩
set_option maxRecDepth 100000 in
set_option maxHeartbeats 1000000 in
theorem enc_three (c : Nat) (w : World) (h0 : 2048 ≤ c) (h1 : c < 65536) (h2 : ¬ (55296 ≤ c ∧ c ≤ 57343)) :
    Calls Tryz.prog 129 #[.int .i64 (c : Int)] w fun e w' => e = .returned (.string ⟨(Lib.encodeRune (c : Int)).toArray⟩) ∧ Q w w' := by
  have z0 : ¬ (c : Int) < 128 := by omega
  have z1 : ¬ (c : Int) < 2048 := by omega
  have z2 : (c : Int) < 65536 := by omega
  have hcv : (convert 49 9 (.slice (some ⟨w.heap.size, 0, none⟩) 3 3)).run Tryz.prog (w.alloc (.cells #[.int .u8 (bits .or .i64 224 ((c : Int) / 4096) % 256), .int .u8 (bits .or .i64 128 (bits .and .i64 ((c : Int) / 64) 63) % 256), .int .u8 (bits .or .i64 128 (bits .and .i64 (c : Int) 63) % 256)] 5)) = .ok (.string ⟨(Lib.encodeRune (c : Int)).toArray⟩) (w.alloc (.cells #[.int .u8 (bits .or .i64 224 ((c : Int) / 4096) % 256), .int .u8 (bits .or .i64 128 (bits .and .i64 ((c : Int) / 64) 63) % 256), .int .u8 (bits .or .i64 128 (bits .and .i64 (c : Int) 63) % 256)] 5)) := by
    refine rune_made w (c : Int) [.int .u8 (bits .or .i64 224 ((c : Int) / 4096) % 256), .int .u8 (bits .or .i64 128 (bits .and .i64 ((c : Int) / 64) 63) % 256), .int .u8 (bits .or .i64 128 (bits .and .i64 (c : Int) 63) % 256)] ?_
    unfold Lib.runeCells
    rw [Lib.encodeRuneZ_three (by omega), or224 _ (by omega) (by omega), and63, and63, or128 _ (by omega) (by omega), or128 _ (by omega) (by omega)]
    rfl
  generalize Lib.encodeRune (c : Int) = E at *
  go_enter Tryz.func129, Tryz.ntmps129
  go_wp2_with fail
  go_ret
  exact ⟨rfl, Below.alloc (Below.refl _ _) (Nat.le_refl _) _⟩
set_option maxRecDepth 100000 in
set_option maxHeartbeats 1000000 in
theorem enc_four (c : Nat) (w : World) (h0 : 65536 ≤ c) (h1 : c ≤ 1114111) :
    Calls Tryz.prog 129 #[.int .i64 (c : Int)] w fun e w' => e = .returned (.string ⟨(Lib.encodeRune (c : Int)).toArray⟩) ∧ Q w w' := by
  have z0 : ¬ (c : Int) < 128 := by omega
  have z1 : ¬ (c : Int) < 2048 := by omega
  have z2 : ¬ (c : Int) < 65536 := by omega
  have z3 : (c : Int) ≤ 1114111 := by omega
  have hcv : (convert 49 9 (.slice (some ⟨w.heap.size, 0, none⟩) 4 4)).run Tryz.prog (w.alloc (.cells #[.int .u8 (bits .or .i64 240 ((c : Int) / 262144) % 256), .int .u8 (bits .or .i64 128 (bits .and .i64 ((c : Int) / 4096) 63) % 256), .int .u8 (bits .or .i64 128 (bits .and .i64 ((c : Int) / 64) 63) % 256), .int .u8 (bits .or .i64 128 (bits .and .i64 (c : Int) 63) % 256)] 5)) = .ok (.string ⟨(Lib.encodeRune (c : Int)).toArray⟩) (w.alloc (.cells #[.int .u8 (bits .or .i64 240 ((c : Int) / 262144) % 256), .int .u8 (bits .or .i64 128 (bits .and .i64 ((c : Int) / 4096) 63) % 256), .int .u8 (bits .or .i64 128 (bits .and .i64 ((c : Int) / 64) 63) % 256), .int .u8 (bits .or .i64 128 (bits .and .i64 (c : Int) 63) % 256)] 5)) := by
    refine rune_made w (c : Int) [.int .u8 (bits .or .i64 240 ((c : Int) / 262144) % 256), .int .u8 (bits .or .i64 128 (bits .and .i64 ((c : Int) / 4096) 63) % 256), .int .u8 (bits .or .i64 128 (bits .and .i64 ((c : Int) / 64) 63) % 256), .int .u8 (bits .or .i64 128 (bits .and .i64 (c : Int) 63) % 256)] ?_
    unfold Lib.runeCells
    rw [Lib.encodeRuneZ_four (by omega) (by omega), or240 _ (by omega) (by omega), and63, and63, and63, or128 _ (by omega) (by omega), or128 _ (by omega) (by omega), or128 _ (by omega) (by omega)]
    rfl
  generalize Lib.encodeRune (c : Int) = E at *
  go_enter Tryz.func129, Tryz.ntmps129
  go_wp2_with fail
  go_ret
  exact ⟨rfl, Below.alloc (Below.refl _ _) (Nat.le_refl _) _⟩
theorem enc_any (c : Nat) (w : World) (h : Lib.validRune (c : Int) = true) :
    Calls Tryz.prog 129 #[.int .i64 (c : Int)] w fun e w' => e = .returned (.string ⟨(Lib.encodeRune (c : Int)).toArray⟩) ∧ Q w w' := by
  have h' := (rune_iff c).1 h
  by_cases a : c < 128
  · exact enc_one c w a
  by_cases b : c < 2048
  · exact enc_two c w (by omega) b
  by_cases d : c < 65536
  · exact enc_three c w (by omega) d (by omega)
  · exact enc_four c w (by omega) (by omega)

end Go.Proofs.YthekabflbpfjoaaGreatDoor.lit
