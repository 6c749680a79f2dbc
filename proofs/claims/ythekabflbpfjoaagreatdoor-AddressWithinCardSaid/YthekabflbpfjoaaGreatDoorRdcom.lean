/- The reference's decoder: what Decode returns. -/
import Derived.Test.YthekabflbpfjoaaGreatDoorRdecm
namespace Go.Proofs.YthekabflbpfjoaaGreatDoor.lit
open Go.RowKit

set_option maxRecDepth 100000 in
set_option maxHeartbeats 8000000 in
theorem dec_ascii (s : ByteArray) (i : Nat) (w : World) (_hs : s.size ≤ 1000000) (hi : i < s.size) (hb : (s[i].toNat : Int) < 128) :
    Calls Tryz.prog 78 #[.string s, .int .i64 (i : Int)] w fun e w' => ∃ c : Int, e = .returned (.tuple #[.int .i64 c, .int .i64 1]) ∧ Q w w' := by
  have hz : (i : Int) < (s.size : Int) := by omega
  have hneg : decide ((i : Int) < 0) = false := decide_eq_false (by omega)
  have hp1 : (0 : Int) ≤ (i : Int) + 1 := by omega
  have hp2 : (0 : Int) ≤ (i : Int) + 2 := by omega
  have hp3 : (0 : Int) ≤ (i : Int) + 3 := by omega
  go_enter Tryz.func78, Tryz.ntmps78
  go_wp2_with fail
  go_ret2
  first | exact ⟨⟨_, rfl⟩, Q.refl _⟩ | exact ⟨_, rfl, Q.refl _⟩
set_option maxRecDepth 100000 in
set_option maxHeartbeats 8000000 in
theorem dec_lo (s : ByteArray) (i : Nat) (w : World) (_hs : s.size ≤ 1000000) (hi : i < s.size) (hb0 : ¬ (s[i].toNat : Int) < 128) (hb : (s[i].toNat : Int) < 194) :
    Calls Tryz.prog 78 #[.string s, .int .i64 (i : Int)] w fun e w' => ∃ c : Int, e = .returned (.tuple #[.int .i64 c, .int .i64 0]) ∧ Q w w' := by
  have hz : (i : Int) < (s.size : Int) := by omega
  have hneg : decide ((i : Int) < 0) = false := decide_eq_false (by omega)
  have hp1 : (0 : Int) ≤ (i : Int) + 1 := by omega
  have hp2 : (0 : Int) ≤ (i : Int) + 2 := by omega
  have hp3 : (0 : Int) ≤ (i : Int) + 3 := by omega
  have g1 : ¬ 194 ≤ (s[i].toNat : Int) := by omega
  have g2 : ¬ 224 ≤ (s[i].toNat : Int) := by omega
  have g3 : ¬ 240 ≤ (s[i].toNat : Int) := by omega
  have e1 : ((s[i].toNat : Int) == 224) = false := beq_eq_false_iff_ne.2 (by omega)
  have e2 : ((s[i].toNat : Int) == 237) = false := beq_eq_false_iff_ne.2 (by omega)
  have e3 : ((s[i].toNat : Int) == 240) = false := beq_eq_false_iff_ne.2 (by omega)
  have e4 : ((s[i].toNat : Int) == 244) = false := beq_eq_false_iff_ne.2 (by omega)
  clear hb
  go_enter Tryz.func78, Tryz.ntmps78
  go_wp2_with fail
  go_ret2
  first | exact ⟨⟨_, rfl⟩, Q.refl _⟩ | exact ⟨_, rfl, Q.refl _⟩
set_option maxRecDepth 100000 in
set_option maxHeartbeats 8000000 in
theorem dec_hi (s : ByteArray) (i : Nat) (w : World) (_hs : s.size ≤ 1000000) (hi : i < s.size) (hb : 245 ≤ (s[i].toNat : Int)) :
    Calls Tryz.prog 78 #[.string s, .int .i64 (i : Int)] w fun e w' => ∃ c : Int, e = .returned (.tuple #[.int .i64 c, .int .i64 0]) ∧ Q w w' := by
  have hz : (i : Int) < (s.size : Int) := by omega
  have hneg : decide ((i : Int) < 0) = false := decide_eq_false (by omega)
  have hp1 : (0 : Int) ≤ (i : Int) + 1 := by omega
  have hp2 : (0 : Int) ≤ (i : Int) + 2 := by omega
  have hp3 : (0 : Int) ≤ (i : Int) + 3 := by omega
  have g0 : ¬ (s[i].toNat : Int) < 128 := by omega
  have g1 : 194 ≤ (s[i].toNat : Int) := by omega
  have g1b : ¬ (s[i].toNat : Int) ≤ 223 := by omega
  have g2 : 224 ≤ (s[i].toNat : Int) := by omega
  have g2b : ¬ (s[i].toNat : Int) ≤ 239 := by omega
  have g3 : 240 ≤ (s[i].toNat : Int) := by omega
  have g3b : ¬ (s[i].toNat : Int) ≤ 244 := by omega
  have e1 : ((s[i].toNat : Int) == 224) = false := beq_eq_false_iff_ne.2 (by omega)
  have e2 : ((s[i].toNat : Int) == 237) = false := beq_eq_false_iff_ne.2 (by omega)
  have e3 : ((s[i].toNat : Int) == 240) = false := beq_eq_false_iff_ne.2 (by omega)
  have e4 : ((s[i].toNat : Int) == 244) = false := beq_eq_false_iff_ne.2 (by omega)
  clear hb
  go_enter Tryz.func78, Tryz.ntmps78
  go_wp2_with fail
  go_ret2
  first | exact ⟨⟨_, rfl⟩, Q.refl _⟩ | exact ⟨_, rfl, Q.refl _⟩
set_option maxRecDepth 100000 in
set_option maxHeartbeats 8000000 in
theorem dec_two (s : ByteArray) (i : Nat) (w : World) (hs : s.size ≤ 1000000) (hi : i < s.size) (hb0 : 194 ≤ (s[i].toNat : Int)) (hb : (s[i].toNat : Int) ≤ 223) :
    Calls Tryz.prog 78 #[.string s, .int .i64 (i : Int)] w fun e w' => ∃ c : Int, e = .returned (.tuple #[.int .i64 c, .int .i64 (if contB s (i + 1) 128 191 then 2 else 0)]) ∧ Q w w' := by
  have hz : (i : Int) < (s.size : Int) := by omega
  have hneg : decide ((i : Int) < 0) = false := decide_eq_false (by omega)
  have hp1 : (0 : Int) ≤ (i : Int) + 1 := by omega
  have hp2 : (0 : Int) ≤ (i : Int) + 2 := by omega
  have hp3 : (0 : Int) ≤ (i : Int) + 3 := by omega
  have g0 : ¬ (s[i].toNat : Int) < 128 := by omega
  have g2 : ¬ 224 ≤ (s[i].toNat : Int) := by omega
  have g3 : ¬ 240 ≤ (s[i].toNat : Int) := by omega
  have e1 : ((s[i].toNat : Int) == 224) = false := beq_eq_false_iff_ne.2 (by omega)
  have e2 : ((s[i].toNat : Int) == 237) = false := beq_eq_false_iff_ne.2 (by omega)
  have e3 : ((s[i].toNat : Int) == 240) = false := beq_eq_false_iff_ne.2 (by omega)
  have e4 : ((s[i].toNat : Int) == 244) = false := beq_eq_false_iff_ne.2 (by omega)
  try clear hb
  have c1 : Hid (∀ w, Calls Tryz.prog 94 #[.string s, .int .i64 ((i : Int) + 1), .int .u8 128, .int .u8 191] w fun e w' => e = .returned (.bool (contB s (i + 1) 128 191)) ∧ w = w') := fun w => cont_any s (i + 1) 128 191 w
  cases h1 : contB s (i + 1) 128 191 with
  | true =>
    have hi1 : i + 1 < s.size := by unfold contB at h1; exact (of_decide_eq_true h1).1
    have hz1 : (i : Int) + 1 < (s.size : Int) := by omega
    rw [h1] at c1
    clear h1
    go_enter Tryz.func78, Tryz.ntmps78
    go_wp2_with fail
    refine (c1.out _).mono ?_; rintro e w' ⟨rfl, rfl⟩
    go_wp2_with fail
    go_ret2
    first | exact ⟨⟨_, rfl⟩, Q.refl _⟩ | exact ⟨_, rfl, Q.refl _⟩
  | false =>
    rw [h1] at c1
    clear h1
    go_enter Tryz.func78, Tryz.ntmps78
    go_wp2_with fail
    refine (c1.out _).mono ?_; rintro e w' ⟨rfl, rfl⟩
    go_wp2_with fail
    go_ret2
    first | exact ⟨⟨_, rfl⟩, Q.refl _⟩ | exact ⟨_, rfl, Q.refl _⟩
set_option maxRecDepth 100000 in
set_option maxHeartbeats 8000000 in
theorem dec_E0 (s : ByteArray) (i : Nat) (w : World) (hs : s.size ≤ 1000000) (hi : i < s.size) (hb : (s[i].toNat : Int) = 224) :
    Calls Tryz.prog 78 #[.string s, .int .i64 (i : Int)] w fun e w' => ∃ c : Int, e = .returned (.tuple #[.int .i64 c, .int .i64 (if contB s (i + 1) 160 191 then (if contB s (i + 2) 128 191 then 3 else 0) else 0)]) ∧ Q w w' := by
  have hz : (i : Int) < (s.size : Int) := by omega
  have hneg : decide ((i : Int) < 0) = false := decide_eq_false (by omega)
  have hp1 : (0 : Int) ≤ (i : Int) + 1 := by omega
  have hp2 : (0 : Int) ≤ (i : Int) + 2 := by omega
  have hp3 : (0 : Int) ≤ (i : Int) + 3 := by omega
  have g0 : ¬ (s[i].toNat : Int) < 128 := by omega
  have g1 : 194 ≤ (s[i].toNat : Int) := by omega
  have g1b : ¬ (s[i].toNat : Int) ≤ 223 := by omega
  have g2 : 224 ≤ (s[i].toNat : Int) := by omega
  have g2b : (s[i].toNat : Int) ≤ 239 := by omega
  have g3 : ¬ 240 ≤ (s[i].toNat : Int) := by omega
  have e1 : ((s[i].toNat : Int) == 224) = true := beq_iff_eq.2 (by omega)
  have e2 : ((s[i].toNat : Int) == 237) = false := beq_eq_false_iff_ne.2 (by omega)
  have e3 : ((s[i].toNat : Int) == 240) = false := beq_eq_false_iff_ne.2 (by omega)
  have e4 : ((s[i].toNat : Int) == 244) = false := beq_eq_false_iff_ne.2 (by omega)
  try clear hb
  have c1 : Hid (∀ w, Calls Tryz.prog 94 #[.string s, .int .i64 ((i : Int) + 1), .int .u8 160, .int .u8 191] w fun e w' => e = .returned (.bool (contB s (i + 1) 160 191)) ∧ w = w') := fun w => cont_any s (i + 1) 160 191 w
  have c2 : Hid (∀ w, Calls Tryz.prog 94 #[.string s, .int .i64 ((i : Int) + 2), .int .u8 128, .int .u8 191] w fun e w' => e = .returned (.bool (contB s (i + 2) 128 191)) ∧ w = w') := fun w => cont_any s (i + 2) 128 191 w
  cases h1 : contB s (i + 1) 160 191 with
  | false =>
    rw [h1] at c1
    clear h1
    go_enter Tryz.func78, Tryz.ntmps78
    go_wp2_with fail
    refine (c1.out _).mono ?_; rintro e w' ⟨rfl, rfl⟩
    go_wp2_with fail
    go_ret2
    first | exact ⟨⟨_, rfl⟩, Q.refl _⟩ | exact ⟨_, rfl, Q.refl _⟩
  | true =>
    have hi1 : i + 1 < s.size := by unfold contB at h1; exact (of_decide_eq_true h1).1
    have hz1 : (i : Int) + 1 < (s.size : Int) := by omega
    rw [h1] at c1
    clear h1
    cases h2 : contB s (i + 2) 128 191 with
    | false =>
      rw [h2] at c2
      clear h2
      go_enter Tryz.func78, Tryz.ntmps78
      go_wp2_with fail
      refine (c1.out _).mono ?_; rintro e w' ⟨rfl, rfl⟩
      go_wp2_with fail
      refine (c2.out _).mono ?_; rintro e w' ⟨rfl, rfl⟩
      go_wp2_with fail
      go_ret2
      first | exact ⟨⟨_, rfl⟩, Q.refl _⟩ | exact ⟨_, rfl, Q.refl _⟩
    | true =>
      have hi2 : i + 2 < s.size := by unfold contB at h2; exact (of_decide_eq_true h2).1
      have hz2 : (i : Int) + 2 < (s.size : Int) := by omega
      rw [h2] at c2
      clear h2
      go_enter Tryz.func78, Tryz.ntmps78
      go_wp2_with fail
      refine (c1.out _).mono ?_; rintro e w' ⟨rfl, rfl⟩
      go_wp2_with fail
      refine (c2.out _).mono ?_; rintro e w' ⟨rfl, rfl⟩
      go_wp2_with fail
      go_quiet (fail)
      go_wp2_with fail
      go_ret2
      first | exact ⟨⟨_, rfl⟩, Q.drewN _ _⟩ | exact ⟨_, rfl, Q.drewN _ _⟩
set_option maxRecDepth 100000 in
set_option maxHeartbeats 8000000 in
theorem dec_ED (s : ByteArray) (i : Nat) (w : World) (hs : s.size ≤ 1000000) (hi : i < s.size) (hb : (s[i].toNat : Int) = 237) :
    Calls Tryz.prog 78 #[.string s, .int .i64 (i : Int)] w fun e w' => ∃ c : Int, e = .returned (.tuple #[.int .i64 c, .int .i64 (if contB s (i + 1) 128 159 then (if contB s (i + 2) 128 191 then 3 else 0) else 0)]) ∧ Q w w' := by
  have hz : (i : Int) < (s.size : Int) := by omega
  have hneg : decide ((i : Int) < 0) = false := decide_eq_false (by omega)
  have hp1 : (0 : Int) ≤ (i : Int) + 1 := by omega
  have hp2 : (0 : Int) ≤ (i : Int) + 2 := by omega
  have hp3 : (0 : Int) ≤ (i : Int) + 3 := by omega
  have g0 : ¬ (s[i].toNat : Int) < 128 := by omega
  have g1 : 194 ≤ (s[i].toNat : Int) := by omega
  have g1b : ¬ (s[i].toNat : Int) ≤ 223 := by omega
  have g2 : 224 ≤ (s[i].toNat : Int) := by omega
  have g2b : (s[i].toNat : Int) ≤ 239 := by omega
  have g3 : ¬ 240 ≤ (s[i].toNat : Int) := by omega
  have e1 : ((s[i].toNat : Int) == 224) = false := beq_eq_false_iff_ne.2 (by omega)
  have e2 : ((s[i].toNat : Int) == 237) = true := beq_iff_eq.2 (by omega)
  have e3 : ((s[i].toNat : Int) == 240) = false := beq_eq_false_iff_ne.2 (by omega)
  have e4 : ((s[i].toNat : Int) == 244) = false := beq_eq_false_iff_ne.2 (by omega)
  try clear hb
  have c1 : Hid (∀ w, Calls Tryz.prog 94 #[.string s, .int .i64 ((i : Int) + 1), .int .u8 128, .int .u8 159] w fun e w' => e = .returned (.bool (contB s (i + 1) 128 159)) ∧ w = w') := fun w => cont_any s (i + 1) 128 159 w
  have c2 : Hid (∀ w, Calls Tryz.prog 94 #[.string s, .int .i64 ((i : Int) + 2), .int .u8 128, .int .u8 191] w fun e w' => e = .returned (.bool (contB s (i + 2) 128 191)) ∧ w = w') := fun w => cont_any s (i + 2) 128 191 w
  cases h1 : contB s (i + 1) 128 159 with
  | false =>
    rw [h1] at c1
    clear h1
    go_enter Tryz.func78, Tryz.ntmps78
    go_wp2_with fail
    refine (c1.out _).mono ?_; rintro e w' ⟨rfl, rfl⟩
    go_wp2_with fail
    go_ret2
    first | exact ⟨⟨_, rfl⟩, Q.refl _⟩ | exact ⟨_, rfl, Q.refl _⟩
  | true =>
    have hi1 : i + 1 < s.size := by unfold contB at h1; exact (of_decide_eq_true h1).1
    have hz1 : (i : Int) + 1 < (s.size : Int) := by omega
    rw [h1] at c1
    clear h1
    cases h2 : contB s (i + 2) 128 191 with
    | false =>
      rw [h2] at c2
      clear h2
      go_enter Tryz.func78, Tryz.ntmps78
      go_wp2_with fail
      refine (c1.out _).mono ?_; rintro e w' ⟨rfl, rfl⟩
      go_wp2_with fail
      refine (c2.out _).mono ?_; rintro e w' ⟨rfl, rfl⟩
      go_wp2_with fail
      go_ret2
      first | exact ⟨⟨_, rfl⟩, Q.refl _⟩ | exact ⟨_, rfl, Q.refl _⟩
    | true =>
      have hi2 : i + 2 < s.size := by unfold contB at h2; exact (of_decide_eq_true h2).1
      have hz2 : (i : Int) + 2 < (s.size : Int) := by omega
      rw [h2] at c2
      clear h2
      go_enter Tryz.func78, Tryz.ntmps78
      go_wp2_with fail
      refine (c1.out _).mono ?_; rintro e w' ⟨rfl, rfl⟩
      go_wp2_with fail
      refine (c2.out _).mono ?_; rintro e w' ⟨rfl, rfl⟩
      go_wp2_with fail
      go_quiet (fail)
      go_wp2_with fail
      go_ret2
      first | exact ⟨⟨_, rfl⟩, Q.drewN _ _⟩ | exact ⟨_, rfl, Q.drewN _ _⟩
set_option maxRecDepth 100000 in
set_option maxHeartbeats 8000000 in
theorem dec_E1 (s : ByteArray) (i : Nat) (w : World) (hs : s.size ≤ 1000000) (hi : i < s.size) (hb0 : 224 ≤ (s[i].toNat : Int)) (hb : (s[i].toNat : Int) ≤ 239) (hn1 : ¬ (s[i].toNat : Int) = 224) (hn2 : ¬ (s[i].toNat : Int) = 237) :
    Calls Tryz.prog 78 #[.string s, .int .i64 (i : Int)] w fun e w' => ∃ c : Int, e = .returned (.tuple #[.int .i64 c, .int .i64 (if contB s (i + 1) 128 191 then (if contB s (i + 2) 128 191 then 3 else 0) else 0)]) ∧ Q w w' := by
  have hz : (i : Int) < (s.size : Int) := by omega
  have hneg : decide ((i : Int) < 0) = false := decide_eq_false (by omega)
  have hp1 : (0 : Int) ≤ (i : Int) + 1 := by omega
  have hp2 : (0 : Int) ≤ (i : Int) + 2 := by omega
  have hp3 : (0 : Int) ≤ (i : Int) + 3 := by omega
  have g0 : ¬ (s[i].toNat : Int) < 128 := by omega
  have g1 : 194 ≤ (s[i].toNat : Int) := by omega
  have g1b : ¬ (s[i].toNat : Int) ≤ 223 := by omega
  have g2 : 224 ≤ (s[i].toNat : Int) := by omega
  have g2b : (s[i].toNat : Int) ≤ 239 := by omega
  have g3 : ¬ 240 ≤ (s[i].toNat : Int) := by omega
  have e1 : ((s[i].toNat : Int) == 224) = false := beq_eq_false_iff_ne.2 (by omega)
  have e2 : ((s[i].toNat : Int) == 237) = false := beq_eq_false_iff_ne.2 (by omega)
  have e3 : ((s[i].toNat : Int) == 240) = false := beq_eq_false_iff_ne.2 (by omega)
  have e4 : ((s[i].toNat : Int) == 244) = false := beq_eq_false_iff_ne.2 (by omega)
  try clear hb
  have c1 : Hid (∀ w, Calls Tryz.prog 94 #[.string s, .int .i64 ((i : Int) + 1), .int .u8 128, .int .u8 191] w fun e w' => e = .returned (.bool (contB s (i + 1) 128 191)) ∧ w = w') := fun w => cont_any s (i + 1) 128 191 w
  have c2 : Hid (∀ w, Calls Tryz.prog 94 #[.string s, .int .i64 ((i : Int) + 2), .int .u8 128, .int .u8 191] w fun e w' => e = .returned (.bool (contB s (i + 2) 128 191)) ∧ w = w') := fun w => cont_any s (i + 2) 128 191 w
  cases h1 : contB s (i + 1) 128 191 with
  | false =>
    rw [h1] at c1
    clear h1
    go_enter Tryz.func78, Tryz.ntmps78
    go_wp2_with fail
    refine (c1.out _).mono ?_; rintro e w' ⟨rfl, rfl⟩
    go_wp2_with fail
    go_ret2
    first | exact ⟨⟨_, rfl⟩, Q.refl _⟩ | exact ⟨_, rfl, Q.refl _⟩
  | true =>
    have hi1 : i + 1 < s.size := by unfold contB at h1; exact (of_decide_eq_true h1).1
    have hz1 : (i : Int) + 1 < (s.size : Int) := by omega
    rw [h1] at c1
    clear h1
    cases h2 : contB s (i + 2) 128 191 with
    | false =>
      rw [h2] at c2
      clear h2
      go_enter Tryz.func78, Tryz.ntmps78
      go_wp2_with fail
      refine (c1.out _).mono ?_; rintro e w' ⟨rfl, rfl⟩
      go_wp2_with fail
      refine (c2.out _).mono ?_; rintro e w' ⟨rfl, rfl⟩
      go_wp2_with fail
      go_ret2
      first | exact ⟨⟨_, rfl⟩, Q.refl _⟩ | exact ⟨_, rfl, Q.refl _⟩
    | true =>
      have hi2 : i + 2 < s.size := by unfold contB at h2; exact (of_decide_eq_true h2).1
      have hz2 : (i : Int) + 2 < (s.size : Int) := by omega
      rw [h2] at c2
      clear h2
      go_enter Tryz.func78, Tryz.ntmps78
      go_wp2_with fail
      refine (c1.out _).mono ?_; rintro e w' ⟨rfl, rfl⟩
      go_wp2_with fail
      refine (c2.out _).mono ?_; rintro e w' ⟨rfl, rfl⟩
      go_wp2_with fail
      go_quiet (fail)
      go_wp2_with fail
      go_ret2
      first | exact ⟨⟨_, rfl⟩, Q.drewN _ _⟩ | exact ⟨_, rfl, Q.drewN _ _⟩
set_option maxRecDepth 100000 in
set_option maxHeartbeats 8000000 in
theorem dec_F0 (s : ByteArray) (i : Nat) (w : World) (hs : s.size ≤ 1000000) (hi : i < s.size) (hb : (s[i].toNat : Int) = 240) :
    Calls Tryz.prog 78 #[.string s, .int .i64 (i : Int)] w fun e w' => ∃ c : Int, e = .returned (.tuple #[.int .i64 c, .int .i64 (if contB s (i + 1) 144 191 then (if contB s (i + 2) 128 191 then (if contB s (i + 3) 128 191 then 4 else 0) else 0) else 0)]) ∧ Q w w' := by
  have hz : (i : Int) < (s.size : Int) := by omega
  have hneg : decide ((i : Int) < 0) = false := decide_eq_false (by omega)
  have hp1 : (0 : Int) ≤ (i : Int) + 1 := by omega
  have hp2 : (0 : Int) ≤ (i : Int) + 2 := by omega
  have hp3 : (0 : Int) ≤ (i : Int) + 3 := by omega
  have g0 : ¬ (s[i].toNat : Int) < 128 := by omega
  have g1 : 194 ≤ (s[i].toNat : Int) := by omega
  have g1b : ¬ (s[i].toNat : Int) ≤ 223 := by omega
  have g2 : 224 ≤ (s[i].toNat : Int) := by omega
  have g2b : ¬ (s[i].toNat : Int) ≤ 239 := by omega
  have g3 : 240 ≤ (s[i].toNat : Int) := by omega
  have g3b : (s[i].toNat : Int) ≤ 244 := by omega
  have e1 : ((s[i].toNat : Int) == 224) = false := beq_eq_false_iff_ne.2 (by omega)
  have e2 : ((s[i].toNat : Int) == 237) = false := beq_eq_false_iff_ne.2 (by omega)
  have e3 : ((s[i].toNat : Int) == 240) = true := beq_iff_eq.2 (by omega)
  have e4 : ((s[i].toNat : Int) == 244) = false := beq_eq_false_iff_ne.2 (by omega)
  try clear hb
  have c1 : Hid (∀ w, Calls Tryz.prog 94 #[.string s, .int .i64 ((i : Int) + 1), .int .u8 144, .int .u8 191] w fun e w' => e = .returned (.bool (contB s (i + 1) 144 191)) ∧ w = w') := fun w => cont_any s (i + 1) 144 191 w
  have c2 : Hid (∀ w, Calls Tryz.prog 94 #[.string s, .int .i64 ((i : Int) + 2), .int .u8 128, .int .u8 191] w fun e w' => e = .returned (.bool (contB s (i + 2) 128 191)) ∧ w = w') := fun w => cont_any s (i + 2) 128 191 w
  have c3 : Hid (∀ w, Calls Tryz.prog 94 #[.string s, .int .i64 ((i : Int) + 3), .int .u8 128, .int .u8 191] w fun e w' => e = .returned (.bool (contB s (i + 3) 128 191)) ∧ w = w') := fun w => cont_any s (i + 3) 128 191 w
  cases h1 : contB s (i + 1) 144 191 with
  | false =>
    rw [h1] at c1
    clear h1
    go_enter Tryz.func78, Tryz.ntmps78
    go_wp2_with fail
    refine (c1.out _).mono ?_; rintro e w' ⟨rfl, rfl⟩
    go_wp2_with fail
    go_ret2
    first | exact ⟨⟨_, rfl⟩, Q.refl _⟩ | exact ⟨_, rfl, Q.refl _⟩
  | true =>
    have hi1 : i + 1 < s.size := by unfold contB at h1; exact (of_decide_eq_true h1).1
    have hz1 : (i : Int) + 1 < (s.size : Int) := by omega
    rw [h1] at c1
    clear h1
    cases h2 : contB s (i + 2) 128 191 with
    | false =>
      rw [h2] at c2
      clear h2
      go_enter Tryz.func78, Tryz.ntmps78
      go_wp2_with fail
      refine (c1.out _).mono ?_; rintro e w' ⟨rfl, rfl⟩
      go_wp2_with fail
      refine (c2.out _).mono ?_; rintro e w' ⟨rfl, rfl⟩
      go_wp2_with fail
      go_ret2
      first | exact ⟨⟨_, rfl⟩, Q.refl _⟩ | exact ⟨_, rfl, Q.refl _⟩
    | true =>
      have hi2 : i + 2 < s.size := by unfold contB at h2; exact (of_decide_eq_true h2).1
      have hz2 : (i : Int) + 2 < (s.size : Int) := by omega
      rw [h2] at c2
      clear h2
      cases h3 : contB s (i + 3) 128 191 with
      | false =>
        rw [h3] at c3
        clear h3
        go_enter Tryz.func78, Tryz.ntmps78
        go_wp2_with fail
        refine (c1.out _).mono ?_; rintro e w' ⟨rfl, rfl⟩
        go_wp2_with fail
        refine (c2.out _).mono ?_; rintro e w' ⟨rfl, rfl⟩
        go_wp2_with fail
        refine (c3.out _).mono ?_; rintro e w' ⟨rfl, rfl⟩
        go_wp2_with fail
        go_ret2
        first | exact ⟨⟨_, rfl⟩, Q.refl _⟩ | exact ⟨_, rfl, Q.refl _⟩
      | true =>
        have hi3 : i + 3 < s.size := by unfold contB at h3; exact (of_decide_eq_true h3).1
        have hz3 : (i : Int) + 3 < (s.size : Int) := by omega
        rw [h3] at c3
        clear h3
        go_enter Tryz.func78, Tryz.ntmps78
        go_wp2_with fail
        refine (c1.out _).mono ?_; rintro e w' ⟨rfl, rfl⟩
        go_wp2_with fail
        refine (c2.out _).mono ?_; rintro e w' ⟨rfl, rfl⟩
        go_wp2_with fail
        refine (c3.out _).mono ?_; rintro e w' ⟨rfl, rfl⟩
        go_wp2_with fail
        go_quiet (fail)
        go_wp2_with fail
        go_ret2
        first | exact ⟨⟨_, rfl⟩, Q.drewN _ _⟩ | exact ⟨_, rfl, Q.drewN _ _⟩
set_option maxRecDepth 100000 in
set_option maxHeartbeats 8000000 in
theorem dec_F4 (s : ByteArray) (i : Nat) (w : World) (hs : s.size ≤ 1000000) (hi : i < s.size) (hb : (s[i].toNat : Int) = 244) :
    Calls Tryz.prog 78 #[.string s, .int .i64 (i : Int)] w fun e w' => ∃ c : Int, e = .returned (.tuple #[.int .i64 c, .int .i64 (if contB s (i + 1) 128 143 then (if contB s (i + 2) 128 191 then (if contB s (i + 3) 128 191 then 4 else 0) else 0) else 0)]) ∧ Q w w' := by
  have hz : (i : Int) < (s.size : Int) := by omega
  have hneg : decide ((i : Int) < 0) = false := decide_eq_false (by omega)
  have hp1 : (0 : Int) ≤ (i : Int) + 1 := by omega
  have hp2 : (0 : Int) ≤ (i : Int) + 2 := by omega
  have hp3 : (0 : Int) ≤ (i : Int) + 3 := by omega
  have g0 : ¬ (s[i].toNat : Int) < 128 := by omega
  have g1 : 194 ≤ (s[i].toNat : Int) := by omega
  have g1b : ¬ (s[i].toNat : Int) ≤ 223 := by omega
  have g2 : 224 ≤ (s[i].toNat : Int) := by omega
  have g2b : ¬ (s[i].toNat : Int) ≤ 239 := by omega
  have g3 : 240 ≤ (s[i].toNat : Int) := by omega
  have g3b : (s[i].toNat : Int) ≤ 244 := by omega
  have e1 : ((s[i].toNat : Int) == 224) = false := beq_eq_false_iff_ne.2 (by omega)
  have e2 : ((s[i].toNat : Int) == 237) = false := beq_eq_false_iff_ne.2 (by omega)
  have e3 : ((s[i].toNat : Int) == 240) = false := beq_eq_false_iff_ne.2 (by omega)
  have e4 : ((s[i].toNat : Int) == 244) = true := beq_iff_eq.2 (by omega)
  try clear hb
  have c1 : Hid (∀ w, Calls Tryz.prog 94 #[.string s, .int .i64 ((i : Int) + 1), .int .u8 128, .int .u8 143] w fun e w' => e = .returned (.bool (contB s (i + 1) 128 143)) ∧ w = w') := fun w => cont_any s (i + 1) 128 143 w
  have c2 : Hid (∀ w, Calls Tryz.prog 94 #[.string s, .int .i64 ((i : Int) + 2), .int .u8 128, .int .u8 191] w fun e w' => e = .returned (.bool (contB s (i + 2) 128 191)) ∧ w = w') := fun w => cont_any s (i + 2) 128 191 w
  have c3 : Hid (∀ w, Calls Tryz.prog 94 #[.string s, .int .i64 ((i : Int) + 3), .int .u8 128, .int .u8 191] w fun e w' => e = .returned (.bool (contB s (i + 3) 128 191)) ∧ w = w') := fun w => cont_any s (i + 3) 128 191 w
  cases h1 : contB s (i + 1) 128 143 with
  | false =>
    rw [h1] at c1
    clear h1
    go_enter Tryz.func78, Tryz.ntmps78
    go_wp2_with fail
    refine (c1.out _).mono ?_; rintro e w' ⟨rfl, rfl⟩
    go_wp2_with fail
    go_ret2
    first | exact ⟨⟨_, rfl⟩, Q.refl _⟩ | exact ⟨_, rfl, Q.refl _⟩
  | true =>
    have hi1 : i + 1 < s.size := by unfold contB at h1; exact (of_decide_eq_true h1).1
    have hz1 : (i : Int) + 1 < (s.size : Int) := by omega
    rw [h1] at c1
    clear h1
    cases h2 : contB s (i + 2) 128 191 with
    | false =>
      rw [h2] at c2
      clear h2
      go_enter Tryz.func78, Tryz.ntmps78
      go_wp2_with fail
      refine (c1.out _).mono ?_; rintro e w' ⟨rfl, rfl⟩
      go_wp2_with fail
      refine (c2.out _).mono ?_; rintro e w' ⟨rfl, rfl⟩
      go_wp2_with fail
      go_ret2
      first | exact ⟨⟨_, rfl⟩, Q.refl _⟩ | exact ⟨_, rfl, Q.refl _⟩
    | true =>
      have hi2 : i + 2 < s.size := by unfold contB at h2; exact (of_decide_eq_true h2).1
      have hz2 : (i : Int) + 2 < (s.size : Int) := by omega
      rw [h2] at c2
      clear h2
      cases h3 : contB s (i + 3) 128 191 with
      | false =>
        rw [h3] at c3
        clear h3
        go_enter Tryz.func78, Tryz.ntmps78
        go_wp2_with fail
        refine (c1.out _).mono ?_; rintro e w' ⟨rfl, rfl⟩
        go_wp2_with fail
        refine (c2.out _).mono ?_; rintro e w' ⟨rfl, rfl⟩
        go_wp2_with fail
        refine (c3.out _).mono ?_; rintro e w' ⟨rfl, rfl⟩
        go_wp2_with fail
        go_ret2
        first | exact ⟨⟨_, rfl⟩, Q.refl _⟩ | exact ⟨_, rfl, Q.refl _⟩
      | true =>
        have hi3 : i + 3 < s.size := by unfold contB at h3; exact (of_decide_eq_true h3).1
        have hz3 : (i : Int) + 3 < (s.size : Int) := by omega
        rw [h3] at c3
        clear h3
        go_enter Tryz.func78, Tryz.ntmps78
        go_wp2_with fail
        refine (c1.out _).mono ?_; rintro e w' ⟨rfl, rfl⟩
        go_wp2_with fail
        refine (c2.out _).mono ?_; rintro e w' ⟨rfl, rfl⟩
        go_wp2_with fail
        refine (c3.out _).mono ?_; rintro e w' ⟨rfl, rfl⟩
        go_wp2_with fail
        go_quiet (fail)
        go_wp2_with fail
        go_ret2
        first | exact ⟨⟨_, rfl⟩, Q.drewN _ _⟩ | exact ⟨_, rfl, Q.drewN _ _⟩
set_option maxRecDepth 100000 in
set_option maxHeartbeats 8000000 in
theorem dec_F1 (s : ByteArray) (i : Nat) (w : World) (hs : s.size ≤ 1000000) (hi : i < s.size) (hb0 : 240 ≤ (s[i].toNat : Int)) (hb : (s[i].toNat : Int) ≤ 244) (hn1 : ¬ (s[i].toNat : Int) = 240) (hn2 : ¬ (s[i].toNat : Int) = 244) :
    Calls Tryz.prog 78 #[.string s, .int .i64 (i : Int)] w fun e w' => ∃ c : Int, e = .returned (.tuple #[.int .i64 c, .int .i64 (if contB s (i + 1) 128 191 then (if contB s (i + 2) 128 191 then (if contB s (i + 3) 128 191 then 4 else 0) else 0) else 0)]) ∧ Q w w' := by
  have hz : (i : Int) < (s.size : Int) := by omega
  have hneg : decide ((i : Int) < 0) = false := decide_eq_false (by omega)
  have hp1 : (0 : Int) ≤ (i : Int) + 1 := by omega
  have hp2 : (0 : Int) ≤ (i : Int) + 2 := by omega
  have hp3 : (0 : Int) ≤ (i : Int) + 3 := by omega
  have g0 : ¬ (s[i].toNat : Int) < 128 := by omega
  have g1 : 194 ≤ (s[i].toNat : Int) := by omega
  have g1b : ¬ (s[i].toNat : Int) ≤ 223 := by omega
  have g2 : 224 ≤ (s[i].toNat : Int) := by omega
  have g2b : ¬ (s[i].toNat : Int) ≤ 239 := by omega
  have g3 : 240 ≤ (s[i].toNat : Int) := by omega
  have g3b : (s[i].toNat : Int) ≤ 244 := by omega
  have e1 : ((s[i].toNat : Int) == 224) = false := beq_eq_false_iff_ne.2 (by omega)
  have e2 : ((s[i].toNat : Int) == 237) = false := beq_eq_false_iff_ne.2 (by omega)
  have e3 : ((s[i].toNat : Int) == 240) = false := beq_eq_false_iff_ne.2 (by omega)
  have e4 : ((s[i].toNat : Int) == 244) = false := beq_eq_false_iff_ne.2 (by omega)
  try clear hb
  have c1 : Hid (∀ w, Calls Tryz.prog 94 #[.string s, .int .i64 ((i : Int) + 1), .int .u8 128, .int .u8 191] w fun e w' => e = .returned (.bool (contB s (i + 1) 128 191)) ∧ w = w') := fun w => cont_any s (i + 1) 128 191 w
  have c2 : Hid (∀ w, Calls Tryz.prog 94 #[.string s, .int .i64 ((i : Int) + 2), .int .u8 128, .int .u8 191] w fun e w' => e = .returned (.bool (contB s (i + 2) 128 191)) ∧ w = w') := fun w => cont_any s (i + 2) 128 191 w
  have c3 : Hid (∀ w, Calls Tryz.prog 94 #[.string s, .int .i64 ((i : Int) + 3), .int .u8 128, .int .u8 191] w fun e w' => e = .returned (.bool (contB s (i + 3) 128 191)) ∧ w = w') := fun w => cont_any s (i + 3) 128 191 w
  cases h1 : contB s (i + 1) 128 191 with
  | false =>
    rw [h1] at c1
    clear h1
    go_enter Tryz.func78, Tryz.ntmps78
    go_wp2_with fail
    refine (c1.out _).mono ?_; rintro e w' ⟨rfl, rfl⟩
    go_wp2_with fail
    go_ret2
    first | exact ⟨⟨_, rfl⟩, Q.refl _⟩ | exact ⟨_, rfl, Q.refl _⟩
  | true =>
    have hi1 : i + 1 < s.size := by unfold contB at h1; exact (of_decide_eq_true h1).1
    have hz1 : (i : Int) + 1 < (s.size : Int) := by omega
    rw [h1] at c1
    clear h1
    cases h2 : contB s (i + 2) 128 191 with
    | false =>
      rw [h2] at c2
      clear h2
      go_enter Tryz.func78, Tryz.ntmps78
      go_wp2_with fail
      refine (c1.out _).mono ?_; rintro e w' ⟨rfl, rfl⟩
      go_wp2_with fail
      refine (c2.out _).mono ?_; rintro e w' ⟨rfl, rfl⟩
      go_wp2_with fail
      go_ret2
      first | exact ⟨⟨_, rfl⟩, Q.refl _⟩ | exact ⟨_, rfl, Q.refl _⟩
    | true =>
      have hi2 : i + 2 < s.size := by unfold contB at h2; exact (of_decide_eq_true h2).1
      have hz2 : (i : Int) + 2 < (s.size : Int) := by omega
      rw [h2] at c2
      clear h2
      cases h3 : contB s (i + 3) 128 191 with
      | false =>
        rw [h3] at c3
        clear h3
        go_enter Tryz.func78, Tryz.ntmps78
        go_wp2_with fail
        refine (c1.out _).mono ?_; rintro e w' ⟨rfl, rfl⟩
        go_wp2_with fail
        refine (c2.out _).mono ?_; rintro e w' ⟨rfl, rfl⟩
        go_wp2_with fail
        refine (c3.out _).mono ?_; rintro e w' ⟨rfl, rfl⟩
        go_wp2_with fail
        go_ret2
        first | exact ⟨⟨_, rfl⟩, Q.refl _⟩ | exact ⟨_, rfl, Q.refl _⟩
      | true =>
        have hi3 : i + 3 < s.size := by unfold contB at h3; exact (of_decide_eq_true h3).1
        have hz3 : (i : Int) + 3 < (s.size : Int) := by omega
        rw [h3] at c3
        clear h3
        go_enter Tryz.func78, Tryz.ntmps78
        go_wp2_with fail
        refine (c1.out _).mono ?_; rintro e w' ⟨rfl, rfl⟩
        go_wp2_with fail
        refine (c2.out _).mono ?_; rintro e w' ⟨rfl, rfl⟩
        go_wp2_with fail
        refine (c3.out _).mono ?_; rintro e w' ⟨rfl, rfl⟩
        go_wp2_with fail
        go_quiet (fail)
        go_wp2_with fail
        go_ret2
        first | exact ⟨⟨_, rfl⟩, Q.drewN _ _⟩ | exact ⟨_, rfl, Q.drewN _ _⟩

/-- What Decode returns at a place in a text: some number, and the bytes that the code point takes. -/
theorem dec_any (s : ByteArray) (i : Nat) (w : World) (hs : s.size ≤ 1000000) (hi : i < s.size) :
    Calls Tryz.prog 78 #[.string s, .int .i64 (i : Int)] w fun e w' => ∃ c : Int, e = .returned (.tuple #[.int .i64 c, .int .i64 (wid s i : Int)]) ∧ Q w w' := by
  have e := get_of s i hi
  have hlt := (s.get! i).toNat_lt
  by_cases a0 : (s.get! i).toNat < 128
  · rw [wid_ascii s i a0]
    exact dec_ascii s i w hs hi (by rw [e]; omega)
  by_cases a1 : (s.get! i).toNat < 194
  · rw [wid_bad s i (.inl ⟨by omega, a1⟩)]
    exact dec_lo s i w hs hi (by rw [e]; omega) (by rw [e]; omega)
  by_cases a2 : (s.get! i).toNat < 224
  · have h := dec_two s i w hs hi (by rw [e]; omega) (by rw [e]; omega)
    rw [wid_two s i hi ⟨by omega, a2⟩]
    revert h
    split <;> exact fun h => h
  by_cases a3 : (s.get! i).toNat < 240
  · by_cases c0 : (s.get! i).toNat = 224
    · have h := dec_E0 s i w hs hi (by rw [e]; omega)
      rw [wid_three s i 160 191 hi (fun n b1 b2 b3 hn h1 h2 h3 => Lib.slow_E0 n _ b1 b2 b3 hn h1 h2 h3 c0)]
      revert h
      repeat' split
      all_goals exact fun h => h
    by_cases c1 : (s.get! i).toNat = 237
    · have h := dec_ED s i w hs hi (by rw [e]; omega)
      rw [wid_three s i 128 159 hi (fun n b1 b2 b3 hn h1 h2 h3 => Lib.slow_ED n _ b1 b2 b3 hn h1 h2 h3 c1)]
      revert h
      repeat' split
      all_goals exact fun h => h
    · have h := dec_E1 s i w hs hi (by rw [e]; omega) (by rw [e]; omega) (by rw [e]; omega) (by rw [e]; omega)
      rw [wid_three s i 128 191 hi (fun n b1 b2 b3 hn h1 h2 h3 => Lib.slow_E1 n _ b1 b2 b3 hn h1 h2 h3 (by omega))]
      revert h
      repeat' split
      all_goals exact fun h => h
  by_cases a4 : (s.get! i).toNat < 245
  · by_cases c0 : (s.get! i).toNat = 240
    · have h := dec_F0 s i w hs hi (by rw [e]; omega)
      rw [wid_four s i 144 191 hi (fun n b1 b2 b3 hn h1 h2 h3 => Lib.slow_F0 n _ b1 b2 b3 hn h1 h2 h3 c0)]
      revert h
      repeat' split
      all_goals exact fun h => h
    by_cases c1 : (s.get! i).toNat = 244
    · have h := dec_F4 s i w hs hi (by rw [e]; omega)
      rw [wid_four s i 128 143 hi (fun n b1 b2 b3 hn h1 h2 h3 => Lib.slow_F4 n _ b1 b2 b3 hn h1 h2 h3 c1)]
      revert h
      repeat' split
      all_goals exact fun h => h
    · have h := dec_F1 s i w hs hi (by rw [e]; omega) (by rw [e]; omega) (by rw [e]; omega) (by rw [e]; omega)
      rw [wid_four s i 128 191 hi (fun n b1 b2 b3 hn h1 h2 h3 => Lib.slow_F1 n _ b1 b2 b3 hn h1 h2 h3 (by omega))]
      revert h
      repeat' split
      all_goals exact fun h => h
  · rw [wid_bad s i (.inr (by omega))]
    exact dec_hi s i w hs hi (by rw [e]; omega)

end Go.Proofs.YthekabflbpfjoaaGreatDoor.lit
