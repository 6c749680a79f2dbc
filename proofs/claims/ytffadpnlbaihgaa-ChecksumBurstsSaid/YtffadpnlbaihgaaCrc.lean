/- Plain facts on the register of a checksum, as numbers: its steps are linear, none loses anything, and what a change of bits does to it. -/
namespace Go.Proofs.Ytffadpnlbaihgaa.crc

/-- One step of the register. -/
def step (c : Nat) : Nat := if c % 2 = 1 then c / 2 ^^^ 3988292384 else c / 2
def iter : Nat → Nat → Nat
  | 0, c => c
  | n + 1, c => iter n (step c)
/-- The register after one byte. -/
def turn (c b : Nat) : Nat := iter 8 (c ^^^ b)
def reg (c : Nat) (l : List UInt8) : Nat := l.foldl (fun c b => turn c b.toNat) c

theorem xor_half (a b : Nat) : (a ^^^ b) / 2 = a / 2 ^^^ b / 2 := by
  have := Nat.xor_div_two_pow (a := a) (b := b) (n := 1)
  simpa using this
theorem xor_odd (a b : Nat) : (a ^^^ b) % 2 = (a % 2 + b % 2) % 2 := by
  have h : (a ^^^ b) % 2 ^ 1 = a % 2 ^ 1 ^^^ b % 2 ^ 1 := Nat.xor_mod_two_pow
  simp only [Nat.pow_one] at h
  rw [h]
  rcases Nat.mod_two_eq_zero_or_one a with h1 | h1 <;> rcases Nat.mod_two_eq_zero_or_one b with h2 | h2 <;> rw [h1, h2] <;> decide
theorem xor_swap (a b c d : Nat) : (a ^^^ b) ^^^ (c ^^^ d) = (a ^^^ c) ^^^ (b ^^^ d) := by
  rw [Nat.xor_assoc, ← Nat.xor_assoc b c d, Nat.xor_comm b c, Nat.xor_assoc c b d, ← Nat.xor_assoc]

theorem xor_eq (a b : Nat) (h : a ^^^ b = 0) : a = b := by
  have e : (a ^^^ b) ^^^ b = a := by rw [Nat.xor_assoc, Nat.xor_self, Nat.xor_zero]
  rw [h, Nat.zero_xor] at e
  exact e.symm
theorem xor_move (a b c : Nat) : a ^^^ b = c ↔ a = c ^^^ b := by
  constructor
  · rintro rfl; rw [Nat.xor_assoc, Nat.xor_self, Nat.xor_zero]
  · rintro rfl; rw [Nat.xor_assoc, Nat.xor_self, Nat.xor_zero]

theorem step_zero : step 0 = 0 := rfl
theorem step_xor (a b : Nat) : step (a ^^^ b) = step a ^^^ step b := by
  unfold step
  rw [xor_half, xor_odd]
  rcases Nat.mod_two_eq_zero_or_one a with h1 | h1 <;> rcases Nat.mod_two_eq_zero_or_one b with h2 | h2 <;> simp only [h1, h2]
  · simp
  · simp [Nat.xor_assoc]
  · simp only [if_true, Nat.zero_ne_one, if_false]
    rw [Nat.xor_assoc, Nat.xor_comm (b / 2), ← Nat.xor_assoc]
  · simp only [if_true]
    rw [xor_swap, Nat.xor_self, Nat.xor_zero]
    simp
theorem step_lt (c : Nat) (h : c < 4294967296) : step c < 4294967296 := by
  unfold step
  split
  · exact Nat.xor_lt_two_pow (n := 32) (by omega) (by decide)
  · omega
theorem step_pos (c : Nat) (h : c < 4294967296) (h0 : c ≠ 0) : step c ≠ 0 := by
  unfold step
  split
  · intro e
    have := xor_eq _ _ e
    omega
  · omega
theorem step_even (c : Nat) : step (2 * c) = c := by
  unfold step
  rw [if_neg (by omega)]
  omega

theorem iter_zero : ∀ n, iter n 0 = 0
  | 0 => rfl
  | n + 1 => by rw [iter, step_zero, iter_zero n]
theorem iter_xor : ∀ (n a b : Nat), iter n (a ^^^ b) = iter n a ^^^ iter n b
  | 0, _, _ => rfl
  | n + 1, a, b => by rw [iter, step_xor, iter_xor n]; rfl
theorem iter_add : ∀ (m n c : Nat), iter (m + n) c = iter n (iter m c)
  | 0, n, c => by rw [Nat.zero_add]; rfl
  | m + 1, n, c => by rw [show m + 1 + n = (m + n) + 1 by omega, iter, iter_add m n]; rfl
theorem iter_lt : ∀ (n c : Nat), c < 4294967296 → iter n c < 4294967296
  | 0, _, h => h
  | n + 1, c, h => iter_lt n _ (step_lt c h)
theorem iter_pos : ∀ (n c : Nat), c < 4294967296 → c ≠ 0 → iter n c ≠ 0
  | 0, _, _, h0 => h0
  | n + 1, c, h, h0 => iter_pos n _ (step_lt c h) (step_pos c h h0)
theorem iter_inj (n a b : Nat) (ha : a < 4294967296) (hb : b < 4294967296) (h : iter n a = iter n b) : a = b := by
  have e : iter n (a ^^^ b) = 0 := by rw [iter_xor, h, Nat.xor_self]
  by_cases hz : a ^^^ b = 0
  · exact xor_eq _ _ hz
  · exact absurd e (iter_pos n _ (Nat.xor_lt_two_pow (n := 32) ha hb) hz)
/-- A bit that is i places up takes i steps to come down. -/
theorem iter_pow : ∀ (i c : Nat), iter i (2 ^ i * c) = c
  | 0, c => by simp [iter]
  | i + 1, c => by
    rw [iter, show 2 ^ (i + 1) * c = 2 * (2 ^ i * c) by rw [Nat.pow_succ]; rw [Nat.mul_comm (2 ^ i) 2, Nat.mul_assoc], step_even, iter_pow i]
theorem iter_bit (n i : Nat) (h : i ≤ n) : iter n (2 ^ i) = iter (n - i) 1 := by
  have e := iter_add i (n - i) (2 ^ i)
  have e2 := iter_pow i 1
  rw [Nat.mul_one] at e2
  rw [show i + (n - i) = n by omega, e2] at e
  exact e

/-! ### bytes -/
theorem reg_nil (c : Nat) : reg c [] = c := rfl
theorem reg_cons (c : Nat) (b : UInt8) (l : List UInt8) : reg c (b :: l) = reg (turn c b.toNat) l := rfl
theorem reg_app (c : Nat) (l m : List UInt8) : reg c (l ++ m) = reg (reg c l) m := by simp [reg]
theorem reg_snoc (c : Nat) (l : List UInt8) (b : UInt8) : reg c (l ++ [b]) = turn (reg c l) b.toNat := by rw [reg_app]; rfl
theorem turn_xor (c d b : Nat) : turn (c ^^^ d) b = turn c b ^^^ iter 8 d := by
  unfold turn
  rw [Nat.xor_assoc, Nat.xor_comm d b, ← Nat.xor_assoc, iter_xor]
theorem turn_byte (c b e : Nat) : turn c (b ^^^ e) = turn c b ^^^ iter 8 e := by
  unfold turn
  rw [← Nat.xor_assoc, iter_xor]
theorem turn_lt (c b : Nat) (hc : c < 4294967296) (hb : b < 256) : turn c b < 4294967296 :=
  iter_lt 8 _ (Nat.xor_lt_two_pow (n := 32) hc (by omega))
theorem reg_lt : ∀ (l : List UInt8) (c : Nat), c < 4294967296 → reg c l < 4294967296
  | [], _, h => h
  | b :: l, c, h => reg_lt l _ (turn_lt c _ h b.toNat_lt)
theorem reg_xor : ∀ (l : List UInt8) (c d : Nat), reg (c ^^^ d) l = reg c l ^^^ iter (8 * l.length) d
  | [], _, _ => rfl
  | b :: l, c, d => by
    rw [reg_cons, reg_cons, turn_xor, reg_xor l, List.length_cons, show 8 * (l.length + 1) = 8 + 8 * l.length by omega, iter_add]

/-- What the change of one bit does to the register behind it all. -/
theorem reg_flip (c : Nat) (l m : List UInt8) (b b' : UInt8) (r : Nat) (hr : r < 8) (hb : b'.toNat = b.toNat ^^^ 2 ^ r) :
    reg c (l ++ b' :: m) = reg c (l ++ b :: m) ^^^ iter (8 * (m.length + 1) - r) 1 := by
  rw [reg_app, reg_app, reg_cons, reg_cons, hb, turn_byte, reg_xor, iter_bit 8 r (by omega), ← iter_add]
  congr 2
  omega

/-- The four bytes of a number, the least one first. -/
def val4 (b0 b1 b2 b3 : Nat) : Nat := b0 ^^^ 256 * b1 ^^^ 65536 * b2 ^^^ 16777216 * b3
theorem reg_four (c : Nat) (b0 b1 b2 b3 : UInt8) : reg c [b0, b1, b2, b3] = iter 32 (c ^^^ val4 b0.toNat b1.toNat b2.toNat b3.toNat) := by
  show turn (turn (turn (turn c b0.toNat) b1.toNat) b2.toNat) b3.toNat = _
  have h1 : iter 8 (256 * b1.toNat) = b1.toNat := iter_pow 8 _
  have h2 : iter 16 (65536 * b2.toNat) = b2.toNat := iter_pow 16 _
  have h3 : iter 24 (16777216 * b3.toNat) = b3.toNat := iter_pow 24 _
  unfold val4 turn
  rw [show (32 : Nat) = 8 + 24 from rfl, iter_add]
  conv => rhs; rw [← Nat.xor_assoc, ← Nat.xor_assoc, ← Nat.xor_assoc]
  rw [iter_xor 8 (c ^^^ b0.toNat ^^^ 256 * b1.toNat ^^^ 65536 * b2.toNat), iter_xor 8 (c ^^^ b0.toNat ^^^ 256 * b1.toNat), iter_xor 8 (c ^^^ b0.toNat), h1]
  rw [show (24 : Nat) = 8 + 16 from rfl, iter_add 8 16, iter_xor 8 (_ ^^^ _ ^^^ _), iter_xor 8 (_ ^^^ _) (iter 8 (65536 * b2.toNat))]
  rw [← iter_add 8 8 (65536 * b2.toNat), h2]
  rw [show (16 : Nat) = 8 + 8 from rfl, iter_add 8 8, iter_xor 8 (_ ^^^ _) (iter 8 (iter 8 (16777216 * b3.toNat)))]
  rw [← iter_add 8 8 (16777216 * b3.toNat), ← iter_add (8 + 8) 8 (16777216 * b3.toNat), h3]

/-! ### accepting, and bursts -/
/-- All bits set. -/
def full : Nat := 4294967295
/-- The checksum of a text. -/
def sum (l : List UInt8) : Nat := reg full l ^^^ full
theorem sum_lt (l : List UInt8) : sum l < 4294967296 := Nat.xor_lt_two_pow (n := 32) (reg_lt l full (by decide)) (by decide)
theorem val4_lt (b0 b1 b2 b3 : UInt8) : val4 b0.toNat b1.toNat b2.toNat b3.toNat < 4294967296 := by
  have h0 := b0.toNat_lt
  have h1 := b1.toNat_lt
  have h2 := b2.toNat_lt
  have h3 := b3.toNat_lt
  unfold val4
  exact Nat.xor_lt_two_pow (n := 32) (Nat.xor_lt_two_pow (n := 32) (Nat.xor_lt_two_pow (n := 32) (by omega) (by omega)) (by omega)) (by omega)
/-- A text with four bytes behind it is accepted just where the whole leaves one number in the register. -/
theorem accepts_iff (l : List UInt8) (b0 b1 b2 b3 : UInt8) : val4 b0.toNat b1.toNat b2.toNat b3.toNat = sum l ↔ reg full (l ++ [b0, b1, b2, b3]) = iter 32 full := by
  rw [reg_app, reg_four]
  constructor
  · intro h
    rw [h]
    unfold sum
    rw [← Nat.xor_assoc, Nat.xor_self, Nat.zero_xor]
  · intro h
    have hl := reg_lt l full (by decide)
    have := iter_inj 32 _ _ (Nat.xor_lt_two_pow (n := 32) hl (val4_lt b0 b1 b2 b3)) (by decide) h
    unfold sum
    generalize reg full l = X at *
    rw [← this, ← Nat.xor_assoc, Nat.xor_self, Nat.zero_xor]

/-- The mask of changed bits grows by one that is new. -/
theorem mask_next (M i : Nat) (h : M < 2 ^ i) : M ^^^ 2 ^ i < 2 ^ (i + 1) ∧ M ^^^ 2 ^ i ≠ 0 := by
  refine ⟨Nat.xor_lt_two_pow (n := i + 1) (by rw [Nat.pow_succ]; omega) (by rw [Nat.pow_succ]; have := Nat.two_pow_pos i; omega), fun e => ?_⟩
  have := xor_eq _ _ e
  omega
/-- After changes of the bits M from bit 'at' on, of N bits in all, the register differs, if any was changed. -/
theorem burst (R N at' M : Nat) (hM : M < 4294967296) (h0 : M ≠ 0) : R ^^^ iter (N - at') M ≠ R := by
  intro e
  have h : R ^^^ iter (N - at') M = R ^^^ 0 := by rw [e, Nat.xor_zero]
  have h2 : iter (N - at') M = 0 := by
    have h3 : R ^^^ (R ^^^ iter (N - at') M) = R ^^^ (R ^^^ 0) := by rw [h]
    rw [← Nat.xor_assoc, ← Nat.xor_assoc, Nat.xor_self, Nat.zero_xor, Nat.zero_xor] at h3
    exact h3
  exact iter_pos _ M hM h0 h2
/-- One more changed bit: the i-th behind 'at'. -/
theorem burst_next (R N at' M i : Nat) (h : at' + i < N) : (R ^^^ iter (N - at') M) ^^^ iter (N - (at' + i)) 1 = R ^^^ iter (N - at') (M ^^^ 2 ^ i) := by
  rw [iter_xor, iter_bit (N - at') i (by omega), Nat.xor_assoc, show N - at' - i = N - (at' + i) by omega]

end Go.Proofs.Ytffadpnlbaihgaa.crc
