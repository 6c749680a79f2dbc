/- Plain facts on the encoding of numbers: groups of seven bits, what is read of them. -/
namespace Go.Proofs.Ytnbloidiojedoaa.wir

/-- A number from 0 on in groups of seven bits, the least significant one first. -/
def encU (u : Nat) : List UInt8 := if u < 128 then [UInt8.ofNat u] else UInt8.ofNat (u % 128 + 128) :: encU (u / 128)
termination_by u
decreasing_by omega
theorem encU_small (u : Nat) (h : u < 128) : encU u = [UInt8.ofNat u] := by rw [encU, if_pos h]
theorem encU_big (u : Nat) (h : 128 ≤ u) : encU u = UInt8.ofNat (u % 128 + 128) :: encU (u / 128) := by rw [encU, if_neg (by omega)]
theorem byte_val (x : Nat) (h : x < 256) : (UInt8.ofNat x).toNat = x := by simp; omega
theorem encU_pos (u : Nat) : 0 < (encU u).length := by
  rw [encU]; split <;> simp
theorem encU_len (k : Nat) : ∀ u, u < 128 ^ (k + 1) → (encU u).length ≤ k + 1 := by
  induction k with
  | zero => intro u h; rw [encU_small u (by omega)]; simp
  | succ k ih =>
    intro u h
    by_cases hu : u < 128
    · rw [encU_small u hu]; simp
    · rw [encU_big u (by omega), List.length_cons]
      have := ih (u / 128) (by rw [Nat.div_lt_iff_lt_mul (by decide), ← Nat.pow_succ]; exact h)
      omega
theorem encU_ten (u : Nat) (h : u < 18446744073709551616) : (encU u).length ≤ 10 := encU_len 9 u (Nat.lt_of_lt_of_le h (by decide))

/-- The number from 0 on that stands for an integer, and back. -/
def zig (n : Int) : Nat := if n < 0 then (-2 * n - 1).toNat else (2 * n).toNat
def zag (u : Nat) : Int := if u % 2 = 1 then -((u / 2 : Nat) : Int) - 1 else ((u / 2 : Nat) : Int)
theorem zag_zig (n : Int) : zag (zig n) = n := by
  unfold zig zag
  split <;> split <;> omega
theorem zig_zag (u : Nat) : zig (zag u) = u := by
  unfold zig zag
  split <;> split <;> omega
theorem zig_lt (n : Int) (h : -9223372036854775808 ≤ n ∧ n ≤ 9223372036854775807) : zig n < 18446744073709551616 := by
  unfold zig
  split <;> omega
theorem zag_fits (u : Nat) (h : u < 18446744073709551616) : -9223372036854775808 ≤ zag u ∧ zag u ≤ 9223372036854775807 := by
  unfold zag
  split <;> omega

/-- What is read: at the i-th byte of a number of which u is known: the integer, the bytes that were read, the error. -/
def dec : Nat → Nat → List UInt8 → Int × Nat × Int
  | _, _, [] => (0, 0, 40)
  | i, u, c :: r =>
    if i = 9 ∧ 1 < c.toNat then (0, 0, 5)
    else if 128 ≤ c.toNat then dec (i + 1) (u + c.toNat % 128 * 128 ^ i) r
    else if c.toNat = 0 ∧ 0 < i then (0, 0, 1)
    else (zag (u + c.toNat % 128 * 128 ^ i), i + 1, 0)
theorem dec_nil (i u : Nat) : dec i u [] = (0, 0, 40) := rfl
theorem dec_range (u : Nat) (c : UInt8) (r : List UInt8) (h : 1 < c.toNat) : dec 9 u (c :: r) = (0, 0, 5) := by
  rw [dec, if_pos ⟨rfl, h⟩]
theorem dec_more (i u : Nat) (c : UInt8) (r : List UInt8) (h : ¬ (i = 9 ∧ 1 < c.toNat)) (h2 : 128 ≤ c.toNat) : dec i u (c :: r) = dec (i + 1) (u + c.toNat % 128 * 128 ^ i) r := by
  rw [dec, if_neg h, if_pos h2]
theorem dec_zero (i u : Nat) (c : UInt8) (r : List UInt8) (h : c.toNat = 0) (h2 : 0 < i) : dec i u (c :: r) = (0, 0, 1) := by
  rw [dec, if_neg (by omega), if_neg (by omega), if_pos ⟨h, h2⟩]
theorem dec_last (i u : Nat) (c : UInt8) (r : List UInt8) (h : ¬ (i = 9 ∧ 1 < c.toNat)) (h2 : c.toNat < 128) (h3 : ¬ (c.toNat = 0 ∧ 0 < i)) :
    dec i u (c :: r) = (zag (u + c.toNat % 128 * 128 ^ i), i + 1, 0) := by
  rw [dec, if_neg h, if_neg (by omega), if_neg h3]

theorem pow9 : 128 ^ 9 = 9223372036854775808 := by decide
theorem part_lt (a u P : Nat) (h : a < P) : a + u % 128 * P < 128 * P := by
  have h1 : u % 128 * P ≤ 127 * P := Nat.mul_le_mul_right _ (by omega)
  omega
theorem part_all (a u P : Nat) : a + u % 128 * P + u / 128 * (128 * P) = a + u * P := by
  have h1 : u / 128 * (128 * P) + u % 128 * P = u * P := by
    rw [← Nat.mul_assoc, ← Nat.add_mul]
    congr 1
    omega
  omega
theorem pow_next (i : Nat) : 128 ^ (i + 1) = 128 * 128 ^ i := by rw [Nat.pow_succ, Nat.mul_comm]
theorem top_small (u : Nat) (a : Nat) (h : a + u * 128 ^ 9 < 18446744073709551616) : u < 2 := by
  rw [pow9] at h
  omega
/-- What was encoded is read back, whatever follows. -/
theorem dec_enc (u : Nat) : ∀ (i a : Nat) (r : List UInt8), a < 128 ^ i → a + u * 128 ^ i < 18446744073709551616 → (0 < i → 0 < u) →
    dec i a (encU u ++ r) = (zag (a + u * 128 ^ i), i + (encU u).length, 0) := by
  induction u using Nat.strongRecOn with
  | ind u ih =>
    intro i a r h1 h2 h3
    by_cases hu : u < 128
    · have e := byte_val u (by omega)
      have h9 : ¬ (i = 9 ∧ 1 < u) := by rintro ⟨rfl, hh⟩; have := top_small u a h2; omega
      rw [encU_small u hu, List.singleton_append, dec_last i a _ r (by rw [e]; exact h9) (by rw [e]; exact hu) (by rw [e]; omega), e, Nat.mod_eq_of_lt hu]
      rfl
    · have e := byte_val (u % 128 + 128) (by omega)
      have h9 : ¬ (i = 9 ∧ 1 < u % 128 + 128) := by rintro ⟨rfl, hh⟩; have := top_small u a h2; omega
      rw [encU_big u (by omega), List.cons_append, dec_more i a _ _ (by rw [e]; exact h9) (by rw [e]; omega), e, show (u % 128 + 128) % 128 = u % 128 by omega,
        ih (u / 128) (by omega) (i + 1) _ r (by rw [pow_next]; exact part_lt a u _ h1) (by rw [pow_next, part_all]; exact h2) (by omega), pow_next, part_all, List.length_cons]
      congr 2
      omega
/-- A proper prefix is truncated. -/
theorem dec_cut (u : Nat) : ∀ (i a k : Nat), a + u * 128 ^ i < 18446744073709551616 → k < (encU u).length → dec i a ((encU u).take k) = (0, 0, 40) := by
  induction u using Nat.strongRecOn with
  | ind u ih =>
    intro i a k h2 hk
    match k, hk with
    | 0, _ => rfl
    | k + 1, hk =>
      by_cases hu : u < 128
      · rw [encU_small u hu] at hk
        simp at hk
      · have e := byte_val (u % 128 + 128) (by omega)
        have h9 : ¬ (i = 9 ∧ 1 < u % 128 + 128) := by rintro ⟨rfl, hh⟩; have := top_small u a h2; omega
        rw [encU_big u (by omega), List.length_cons] at hk
        rw [encU_big u (by omega), List.take_succ_cons, dec_more i a _ _ (by rw [e]; exact h9) (by rw [e]; omega), e, show (u % 128 + 128) % 128 = u % 128 by omega,
          ih (u / 128) (by omega) (i + 1) _ k (by rw [pow_next, part_all]; exact h2) (by omega)]
/-- What is read without an error is the encoding. -/
theorem dec_back (l : List UInt8) : ∀ (i a k : Nat) (n : Int), dec i a l = (n, k, 0) → a < 128 ^ i → i ≤ 9 →
    ∃ u, l.take (k - i) = encU u ∧ n = zag (a + u * 128 ^ i) ∧ a + u * 128 ^ i < 18446744073709551616 ∧ i < k ∧ k ≤ 10 ∧ k - i ≤ l.length ∧ (0 < i → 0 < u) := by
  induction l with
  | nil => intro i a k n h; simp [dec_nil] at h
  | cons c r ih =>
    intro i a k n h ha hi
    have hc := c.toNat_lt
    by_cases h1 : i = 9 ∧ 1 < c.toNat
    · obtain ⟨rfl, h1⟩ := h1
      rw [dec_range a c r h1] at h
      simp at h
    · by_cases h2 : 128 ≤ c.toNat
      · rw [dec_more i a c r h1 h2] at h
        obtain ⟨u, e1, e2, e3, e4, e5, e6, e7⟩ := ih (i + 1) _ k n h (by rw [pow_next]; exact part_lt a _ _ ha) (by omega)
        have hu : 0 < u := e7 (by omega)
        have e8 := part_all a (u * 128 + c.toNat % 128) (128 ^ i)
        rw [show (u * 128 + c.toNat % 128) % 128 = c.toNat % 128 by omega, show (u * 128 + c.toNat % 128) / 128 = u by omega, ← pow_next] at e8
        refine ⟨u * 128 + c.toNat % 128, ?_, by rw [e2, e8], by rw [← e8]; exact e3, by omega, e5, by rw [List.length_cons]; omega, fun _ => by omega⟩
        rw [encU_big _ (by omega), show (u * 128 + c.toNat % 128) % 128 = c.toNat % 128 by omega, show (u * 128 + c.toNat % 128) / 128 = u by omega, ← e1, show k - i = (k - (i + 1)) + 1 by omega, List.take_succ_cons]
        congr 1
        rw [show c.toNat % 128 + 128 = c.toNat by omega]
        simp
      · by_cases h3 : c.toNat = 0 ∧ 0 < i
        · rw [dec_zero i a c r h3.1 h3.2] at h
          simp at h
        · rw [dec_last i a c r h1 (by omega) h3] at h
          simp only [Prod.mk.injEq] at h
          obtain ⟨rfl, rfl, -⟩ := h
          refine ⟨c.toNat, ?_, by rw [Nat.mod_eq_of_lt (by omega)], ?_, by omega, by omega, by rw [List.length_cons]; omega, by omega⟩
          · rw [encU_small _ (by omega), show i + 1 - i = 1 by omega]
            simp
          · by_cases h9 : i = 9
            · subst h9
              have : c.toNat ≤ 1 := by omega
              have h4 : c.toNat * 128 ^ 9 ≤ 1 * 128 ^ 9 := Nat.mul_le_mul_right _ this
              rw [pow9] at *
              omega
            · have h4 := part_lt a c.toNat (128 ^ i) ha
              rw [Nat.mod_eq_of_lt (by omega), ← pow_next] at h4
              have h5 : 128 ^ (i + 1) ≤ 128 ^ 9 := Nat.pow_le_pow_right (by decide) (by omega)
              rw [pow9] at h5
              omega
theorem dec_none (l : List UInt8) : ∀ (i a : Nat), (dec i a l).2.2 ≠ 0 → (dec i a l).1 = 0 ∧ (dec i a l).2.1 = 0 := by
  induction l with
  | nil => intro i a _; exact ⟨rfl, rfl⟩
  | cons c r ih =>
    intro i a h
    unfold dec at h ⊢
    split at h <;> rename_i h1
    · rw [if_pos h1]; exact ⟨rfl, rfl⟩
    · rw [if_neg h1]
      split at h <;> rename_i h2
      · rw [if_pos h2]; exact ih _ _ h
      · rw [if_neg h2]
        split at h <;> rename_i h3
        · rw [if_pos h3]; exact ⟨rfl, rfl⟩
        · exact absurd rfl h

end Go.Proofs.Ytnbloidiojedoaa.wir
