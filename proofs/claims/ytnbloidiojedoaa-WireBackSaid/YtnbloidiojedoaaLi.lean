/- A slice of items: what is appended of it, and read back. -/
import Derived.Test.YtnbloidiojedoaaLx
import Derived.Test.YtnbloidiojedoaaLq
namespace Go.Proofs.Ytnbloidiojedoaa.wir
open Go.RowKit

/-- The items of a slice: its block, where it begins there, and what the cells hold. -/
def Items (b o n : Nat) (T : Nat → Bool) (N : Nat → Int) (S : Nat → ByteArray) (w : World) : Prop :=
  b < w.heap.size ∧ ∀ i, i < n → w.cell? ⟨b, o + i * 3, none⟩ = some (.bool (T i)) ∧ w.cell? ⟨b, o + i * 3 + 1, none⟩ = some (.int .i64 (N i)) ∧ w.cell? ⟨b, o + i * 3 + 2, none⟩ = some (.string (S i)) ∧
    (-9223372036854775808 ≤ N i ∧ N i ≤ 9223372036854775807)
theorem Items.later {b o n : Nat} {T : Nat → Bool} {N : Nat → Int} {S : Nat → ByteArray} {w w' : World} (h : Items b o n T N S w) (q : Q w w') : Items b o n T N S w' :=
  ⟨Nat.lt_of_lt_of_le h.1 q.size, fun i hi => by
    rw [Below.cell q (p := ⟨b, o + i * 3, none⟩) h.1, Below.cell q (p := ⟨b, o + i * 3 + 1, none⟩) h.1, Below.cell q (p := ⟨b, o + i * 3 + 2, none⟩) h.1]
    exact h.2 i hi⟩
/-- An argument of items: nothing is read of an empty one. -/
def ItemArg (A : Option Addr) (n : Nat) (T : Nat → Bool) (N : Nat → Int) (S : Nat → ByteArray) (w : World) : Prop := 0 < n → ∃ b o, A = some ⟨b, o, none⟩ ∧ Items b o n T N S w

/-- What one item adds. -/
def encI (T : Nat → Bool) (N : Nat → Int) (S : Nat → ByteArray) (i : Nat) : ByteArray := if T i = true then encS (S i) else encN (N i)
/-- What j items add, from the k-th on. -/
def encF (I : Nat → ByteArray) : Nat → Nat → ByteArray
  | _, 0 => ⟨#[]⟩
  | k, j + 1 => I k ++ encF I (k + 1) j
theorem encF_next (I : Nat → ByteArray) (j : Nat) : ∀ k, encF I k (j + 1) = encF I k j ++ I (k + j) := by
  induction j with
  | zero => intro k; show I k ++ ⟨#[]⟩ = ⟨#[]⟩ ++ I (k + 0); rw [none_app]; apply ba_ext; simp
  | succ j ih =>
    intro k
    show I k ++ encF I (k + 1) (j + 1) = (I k ++ encF I (k + 1) j) ++ I (k + (j + 1))
    rw [ih (k + 1), ByteArray.append_assoc, show k + 1 + j = k + (j + 1) by omega]
theorem encF_size (I : Nat → ByteArray) (n : Nat) (h : ∀ i, i < n → (I i).size ≤ 210) (j : Nat) : ∀ k, k + j ≤ n → (encF I k j).size ≤ 210 * j := by
  induction j with
  | zero => intro k _; exact Nat.zero_le _
  | succ j ih =>
    intro k hk
    show (I k ++ encF I (k + 1) j).size ≤ _
    rw [ByteArray.size_append]
    have h1 := h k (by omega)
    have h2 := ih (k + 1) (by omega)
    omega
theorem encI_size (T : Nat → Bool) (N : Nat → Int) (S : Nat → ByteArray) (i : Nat) (hN : -9223372036854775808 ≤ N i ∧ N i ≤ 9223372036854775807) (hS : (S i).size ≤ 200) : (encI T N S i).size ≤ 210 := by
  unfold encI
  split
  · unfold encS
    have := (encN_bound ((S i).size : Int) (by omega)).2
    rw [ByteArray.size_append]
    omega
  · have := (encN_bound (N i) hN).2
    omega

theorem back_n (n : Int) (t : ByteArray) (hn : -9223372036854775808 ≤ n ∧ n ≤ 9223372036854775807) : nxN (encN n ++ t) 0 = (n, t, 0) := by
  show (gotN (num (encN n ++ t)), gotS (encN n ++ t) (num (encN n ++ t)), (num (encN n ++ t)).2.2) = _
  rw [num_enc n t hn]
  show (n, (encN n ++ t).extract (encN n).size (encN n ++ t).size, (0 : Int)) = _
  rw [ByteArray.extract_append_eq_right rfl (by rw [ByteArray.size_append])]
theorem back_s (s t : ByteArray) (hs : s.size ≤ 1000000) : nxS (encS s ++ t) 0 = (s, t, 0) := by
  have hb : -9223372036854775808 ≤ (s.size : Int) ∧ (s.size : Int) ≤ 9223372036854775807 := by omega
  have e1 : encS s ++ t = encN (s.size : Int) ++ (s ++ t) := by unfold encS; rw [ByteArray.append_assoc]
  have e2 : num (encS s ++ t) = ((s.size : Int), (encN (s.size : Int)).size, 0) := by rw [e1]; exact num_enc _ _ hb
  have e3 : cnt (encS s ++ t) 1 = ((s.size : Int), (encN (s.size : Int)).size, 0) := by
    unfold cnt
    rw [e2]
    dsimp only
    rw [if_neg (by omega), if_neg (by omega), if_neg]
    rw [Int.ediv_one, e1, ByteArray.size_append, ByteArray.size_append]
    omega
  have e4 : nxC (encS s ++ t) 0 1 = ((s.size : Int), s ++ t, 0) := by
    show (gotN (cnt (encS s ++ t) 1), gotS (encS s ++ t) (cnt (encS s ++ t) 1), (cnt (encS s ++ t) 1).2.2) = _
    rw [e3]
    show ((s.size : Int), (encS s ++ t).extract (encN (s.size : Int)).size (encS s ++ t).size, (0 : Int)) = _
    rw [e1, ByteArray.extract_append_eq_right rfl (by rw [ByteArray.size_append])]
  unfold nxS
  rw [e4, if_pos rfl]
  show ((s ++ t).extract 0 s.size, (s ++ t).extract s.size (s ++ t).size, (0 : Int)) = _
  rw [ByteArray.extract_append_eq_left rfl, ByteArray.extract_append_eq_right rfl (by rw [ByteArray.size_append])]

end Go.Proofs.Ytnbloidiojedoaa.wir
