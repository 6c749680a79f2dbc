/- Plain facts on the division of integers: rounding down out of rounding towards zero, remainders, sizes. They speak of numbers alone. -/
namespace Go.Proofs.YtapnnoedlkoilaaDoor.num

theorem tm_pos (a b : Int) (h : 0 < b) : -b < a.tmod b ∧ a.tmod b < b := ⟨Int.lt_tmod_of_pos a h, Int.tmod_lt_of_pos a h⟩
theorem tm_neg (a b : Int) (h : b < 0) : b < a.tmod b ∧ a.tmod b < -b := by
  have h' := tm_pos a (-b) (by omega)
  rw [Int.tmod_neg] at h'
  omega

theorem fd_pos_same (a b : Int) (h : 0 < b) (hm : 0 ≤ a.tmod b) : a.tdiv b = a.fdiv b :=
  (((Int.fdiv_fmod_unique h).2 ⟨Int.tmod_add_mul_tdiv a b, hm, (tm_pos a b h).2⟩).1).symm
theorem fd_pos_less (a b : Int) (h : 0 < b) (hm : a.tmod b < 0) : a.tdiv b - 1 = a.fdiv b := by
  have e := Int.tmod_add_mul_tdiv a b
  refine (((Int.fdiv_fmod_unique (r := a.tmod b + b) h).2 ⟨?_, ?_, by omega⟩).1).symm
  · rw [Int.mul_sub]; omega
  · have := (tm_pos a b h).1; omega
theorem fd_neg_same (a b : Int) (h : b < 0) (hm : a.tmod b ≤ 0) : a.tdiv b = a.fdiv b :=
  (((Int.fdiv_fmod_unique' h).2 ⟨Int.tmod_add_mul_tdiv a b, (tm_neg a b h).1, hm⟩).1).symm
theorem fd_neg_less (a b : Int) (h : b < 0) (hm : 0 < a.tmod b) : a.tdiv b - 1 = a.fdiv b := by
  have e := Int.tmod_add_mul_tdiv a b
  refine (((Int.fdiv_fmod_unique' (r := a.tmod b + b) h).2 ⟨?_, by omega, ?_⟩).1).symm
  · rw [Int.mul_sub]; omega
  · have := (tm_neg a b h).2; omega

theorem fm_pos (a b : Int) (h : 0 < b) : 0 ≤ a.fmod b ∧ a.fmod b < b := by
  have := ((Int.fdiv_fmod_unique h).1 ⟨rfl, rfl⟩ : a.fmod b + b * a.fdiv b = a ∧ 0 ≤ a.fmod b ∧ a.fmod b < b)
  exact this.2
theorem fm_neg (a b : Int) (h : b < 0) : b < a.fmod b ∧ a.fmod b ≤ 0 := by
  have := ((Int.fdiv_fmod_unique' h).1 ⟨rfl, rfl⟩ : a.fmod b + b * a.fdiv b = a ∧ b < a.fmod b ∧ a.fmod b ≤ 0)
  exact this.2

/-- The size of the quotient that is rounded towards zero. -/
theorem td_size (a b : Int) (h0 : -9007199254740992 ≤ a) (h1 : a ≤ 9007199254740992) : -9007199254740992 ≤ a.tdiv b ∧ a.tdiv b ≤ 9007199254740992 := by
  have h := Int.natAbs_tdiv a b
  have h2 : a.natAbs / b.natAbs ≤ a.natAbs := Nat.div_le_self _ _
  have h3 : (a.tdiv b).natAbs ≤ a.natAbs := by rw [h]; exact h2
  omega

/-- The size of the quotient that is rounded down: that of the dividend at most. -/
theorem fd_size (a b : Int) (hb : b ≠ 0) (h0 : -9007199254740992 ≤ a) (h1 : a ≤ 9007199254740992) : -9007199254740992 ≤ a.fdiv b ∧ a.fdiv b ≤ 9007199254740992 := by
  have ht := td_size a b h0 h1
  have e := Int.tmod_add_mul_tdiv a b
  rcases Int.lt_trichotomy b 0 with h | h | h
  · by_cases hm : a.tmod b ≤ 0
    · rw [← fd_neg_same a b h hm]; exact ht
    · rw [← fd_neg_less a b h (by omega)]
      have h5 := (tm_neg a b h).2
      refine ⟨?_, by omega⟩
      -- a remainder above 0 bears the dividend's sign: a > 0, b < -1: the quotient is less than a in size
      have h6 := Int.natAbs_tdiv a b
      have h7 : a.natAbs / b.natAbs ≤ a.natAbs / 2 := Nat.div_le_div_left (by omega) (by omega)
      have h8 : (a.tdiv b).natAbs ≤ a.natAbs / 2 := by rw [h6]; exact h7
      omega
  · exact absurd h hb
  · by_cases hm : 0 ≤ a.tmod b
    · rw [← fd_pos_same a b h hm]; exact ht
    · rw [← fd_pos_less a b h (by omega)]
      have h5 := (tm_pos a b h).1
      refine ⟨?_, by omega⟩
      have h6 := Int.natAbs_tdiv a b
      have h7 : a.natAbs / b.natAbs ≤ a.natAbs / 2 := Nat.div_le_div_left (by omega) (by omega)
      have h8 : (a.tdiv b).natAbs ≤ a.natAbs / 2 := by rw [h6]; exact h7
      omega

theorem fm_def (a b : Int) : a - b * a.fdiv b = a.fmod b := (Int.fmod_def a b).symm
theorem fd_mul (a b : Int) : a.fdiv b * b = a - a.fmod b := by rw [Int.mul_comm]; have := Int.mul_fdiv_add_fmod a b; omega

theorem mul_fd (a b : Int) (hb : b ≠ 0) : (a * b).fdiv b = a := Int.mul_fdiv_cancel a hb
theorem mul_fm (a b : Int) : (a * b).fmod b = 0 := Int.mul_fmod_left a b

/-- Whether a product is too large, by a division of the bound. -/
theorem big_iff (x y M : Nat) (hy : 0 < y) : M / y < x ↔ M < x * y := Nat.div_lt_iff_lt_mul hy

/-- The absolute value. -/
def abs (n : Int) : Int := if n < 0 then -n else n
theorem abs_is (n : Int) : (0 ≤ n ∧ abs n = n) ∨ (n < 0 ∧ abs n = -n) := by
  unfold abs
  by_cases h : n < 0
  · exact .inr ⟨h, if_pos h⟩
  · exact .inl ⟨by omega, if_neg h⟩
theorem abs_nat (n : Int) : abs n = (n.natAbs : Int) := by have := abs_is n; omega

/-- The test of a multiplication: a product of absolute values is too large just if one of them is above the bound divided by the other. -/
theorem over_iff (a b : Int) (hb : b ≠ 0) : 9007199254740992 / abs b < abs a ↔ (a * b < -9007199254740992 ∨ 9007199254740992 < a * b) := by
  rw [abs_nat, abs_nat]
  have h1 := big_iff a.natAbs b.natAbs 9007199254740992 (by omega)
  have h2 : (a * b).natAbs = a.natAbs * b.natAbs := Int.natAbs_mul a b
  have h3 : ((9007199254740992 : Int) / (b.natAbs : Int)) = ((9007199254740992 / b.natAbs : Nat) : Int) := by
    rw [Int.natCast_ediv]; rfl
  have h4 : 9007199254740992 / b.natAbs < a.natAbs ↔ 9007199254740992 < (a * b).natAbs := by rw [h2]; exact h1
  rw [h3]
  clear h1 h2 h3
  generalize a * b = p at *
  generalize 9007199254740992 / b.natAbs = q at *
  omega

end Go.Proofs.YtapnnoedlkoilaaDoor.num
