/- Match and Any of the program; the statements' function awake. -/
import Derived.Test.YthknlllaclgekaaGm
namespace Go.Proofs.Ythknlllaclgekaa.glo
open Go.RowKit

theorem match_any (p s : ByteArray) (w : World) (mx : MX w) (hp : p.size ≤ 1000000) (hs : s.size ≤ 1000000) :
    Calls Try.prog 13 #[.string p, .string s] w fun e w' => e = .returned (.bool (hitB p.data.toList s.data.toList)) ∧ Q w w' := by
  have cC := Lib.hid (check_any p w mx hp)
  have cM := Lib.hid (matches_any p s w mx hp hs)
  unfold hitB
  generalize chk p.data.toList = C at *
  generalize mb (parts p.data.toList) s.data.toList = R at *
  clear mx
  by_cases h : C = 0
  · have f1 : (C == 0) = true := by rw [beq_iff_eq]; exact h
    clear h
    rw [f1, Bool.true_and]
    go_enter Try.func13, Try.ntmps13
    go_wp2_with fail
    refine (cC.out).mono ?_; rintro e w' ⟨rfl, rfl⟩
    go_wp2_with fail
    refine (cM.out).mono ?_; rintro e w' ⟨rfl, q⟩
    have q := Lib.hid q
    go_wp2_with fail
    go_ret
    exact ⟨rfl, q.out⟩
  · have f1 : (C == 0) = false := by rw [beq_eq_false_iff_ne]; exact h
    clear h
    rw [f1, Bool.false_and]
    go_enter Try.func13, Try.ntmps13
    go_wp2_with fail
    refine (cC.out).mono ?_; rintro e w' ⟨rfl, rfl⟩
    go_wp2_with fail
    go_ret
    exact ⟨rfl, Q.refl _⟩

/-- The strings of a slice. -/
def Strs (b o n : Nat) (S : Nat → ByteArray) (w : World) : Prop := b < w.heap.size ∧ ∀ i, i < n → w.cell? ⟨b, o + i, none⟩ = some (.string (S i))
theorem Strs.later {b o n : Nat} {S : Nat → ByteArray} {w w' : World} (h : Strs b o n S w) (q : Q w w') : Strs b o n S w' :=
  ⟨Nat.lt_of_lt_of_le h.1 q.size, fun i hi => by
    rw [Below.cell q (p := ⟨b, o + i, none⟩) h.1]
    exact h.2 i hi⟩
/-- An argument of strings: nothing is read of an empty one. -/
def StrArg (A : Option Addr) (n : Nat) (S : Nat → ByteArray) (w : World) : Prop := 0 < n → ∃ b o, A = some ⟨b, o, none⟩ ∧ Strs b o n S w
/-- Whether one of them matches. -/
def anyB (S : Nat → ByteArray) (s : List UInt8) : Nat → Bool
  | 0 => false
  | k + 1 => anyB S s k || hitB (S k).data.toList s
theorem anyB_yes {S : Nat → ByteArray} {s : List UInt8} {n k : Nat} (hk : k < n) (h : hitB (S k).data.toList s = true) : anyB S s n = true := by
  induction n with
  | zero => omega
  | succ n ih =>
    unfold anyB
    rw [Bool.or_eq_true]
    by_cases hx : k = n
    · subst hx; exact .inr h
    · exact .inl (ih (by omega))

set_option maxRecDepth 100000 in
set_option maxHeartbeats 4000000 in
theorem globAny_any (A : Option Addr) (n c : Nat) (S : Nat → ByteArray) (s : ByteArray) (w : World) (mx : MX w) (hn : n ≤ 1000) (hA : StrArg A n S w) (hS : ∀ i, i < n → (S i).size ≤ 1000000) (hs : s.size ≤ 1000000) :
    Calls Try.prog 15 #[.slice A n c, .string s] w fun e w' => e = .returned (.bool (anyB S s.data.toList n)) ∧ Q w w' := by
  have HA := Lib.hid hA
  have HM := Lib.hid mx
  have HS := Lib.hid hS
  clear hA mx hS
  go_enter Try.func15, Try.ntmps15
  go_wp2_with fail
  go_loopw [9] (fun i wr => ∃ k : Nat, k ≤ n ∧ i = .int .i64 k ∧ Hid (anyB S s.data.toList k = false ∧ Q w wr)) (fun i _ => n - (intOf i).toNat)
  case atStart => exact ⟨0, Nat.zero_le _, rfl, rfl, Q.refl _⟩
  case round =>
    obtain ⟨k, hk, rfl, HG⟩ := hrel
    by_cases hlt : k < n
    · have f1 : (k : Int) < (n : Int) := by omega
      obtain ⟨b, o, rfl, hI⟩ := HA.out (by omega)
      have a0 := (hI.later HG.out.2).2 k hlt
      have cM := Lib.hid (match_any (S k) s wr (HM.out.stays HG.out.2) (HS.out k hlt) hs)
      have h1 : Hid (hitB (S k).data.toList s.data.toList = true → anyB S s.data.toList n = true) := anyB_yes hlt
      have h2 : Hid (anyB S s.data.toList (k + 1) = (anyB S s.data.toList k || hitB (S k).data.toList s.data.toList)) := rfl
      generalize hitB (S k).data.toList s.data.toList = H at *
      clear hI
      cases H with
      | true =>
        have HR := Lib.hid (h1.out rfl)
        clear h1 h2
        go_wp2_with fail
        refine (cM.out).mono ?_; rintro e w' ⟨rfl, q⟩
        have HQ := Lib.hid (HG.out.2.trans q)
        clear q HG a0 cM
        go_wp2_with fail
        go_ret
        exact ⟨by rw [HR.out]; rfl, HQ.out⟩
      | false =>
        have HN : Hid (anyB S s.data.toList (k + 1) = false) := by
          have := h2.out
          rw [HG.out.1, Bool.or_false] at this
          exact this
        clear h1 h2
        go_wp2_with fail
        refine (cM.out).mono ?_; rintro e w' ⟨rfl, q⟩
        have HQ := Lib.hid (And.intro HN.out (HG.out.2.trans q))
        clear q HG a0 cM
        go_wp2_with fail
        go_roundw
        case rel => exact ⟨k + 1, by omega, by go_num, HQ⟩
        case measure => simp [intOf]; omega
    · obtain rfl : k = n := by omega
      clear HA HM HS hlt
      go_wp2_with fail
      go_ret
      exact ⟨by rw [HG.out.1]; rfl, HG.out.2⟩

theorem ex1 : hitB [110, 101, 116, 46, 42] [110, 101, 116, 46, 97] = true := by decide +kernel
theorem ex2 : hitB [110, 101, 116, 46, 42] [110, 101, 116, 46] = true := by decide +kernel
theorem ex3 : hitB [110, 101, 116, 46, 42] [110, 101, 116, 46, 97, 46, 98] = false := by decide +kernel
theorem ex4 : hitB [110, 101, 116, 46, 42] [110, 101, 116] = false := by decide +kernel
theorem ex5 : hitB [110, 101, 116, 46, 42, 42] [110, 101, 116, 46, 97, 46, 98] = true := by decide +kernel
theorem ex6 : chk [97, 46, 42, 42, 42] = 2 := by decide +kernel
theorem ex7 : plain [110, 101, 116, 46, 97] = true := by decide +kernel
theorem ex8 : plain [110, 101, 116, 46, 42] = false := by decide +kernel

set_option maxRecDepth 100000 in
set_option maxHeartbeats 2000000 in
theorem awake_true (w : World) (mx : MX w) : Calls Try.prog 8 #[] w fun e w' => e = .returned (.bool true) ∧ Q w w' := by
  have HM := Lib.hid mx
  have c1 : Hid (∀ w1, Q w w1 → Calls Try.prog 13 #[.string ⟨#[110, 101, 116, 46, 42]⟩, .string ⟨#[110, 101, 116, 46, 97]⟩] w1 fun e w' => e = .returned (.bool true) ∧ Q w w') := fun w1 q => by
    have h := match_any ⟨#[110, 101, 116, 46, 42]⟩ ⟨#[110, 101, 116, 46, 97]⟩ w1 (mx.stays q) (by decide) (by decide)
    rw [ex1] at h
    exact h.mono fun e w' h => ⟨h.1, q.trans h.2⟩
  have c2 : Hid (∀ w1, Q w w1 → Calls Try.prog 13 #[.string ⟨#[110, 101, 116, 46, 42]⟩, .string ⟨#[110, 101, 116, 46]⟩] w1 fun e w' => e = .returned (.bool true) ∧ Q w w') := fun w1 q => by
    have h := match_any ⟨#[110, 101, 116, 46, 42]⟩ ⟨#[110, 101, 116, 46]⟩ w1 (mx.stays q) (by decide) (by decide)
    rw [ex2] at h
    exact h.mono fun e w' h => ⟨h.1, q.trans h.2⟩
  have c3 : Hid (∀ w1, Q w w1 → Calls Try.prog 13 #[.string ⟨#[110, 101, 116, 46, 42]⟩, .string ⟨#[110, 101, 116, 46, 97, 46, 98]⟩] w1 fun e w' => e = .returned (.bool false) ∧ Q w w') := fun w1 q => by
    have h := match_any ⟨#[110, 101, 116, 46, 42]⟩ ⟨#[110, 101, 116, 46, 97, 46, 98]⟩ w1 (mx.stays q) (by decide) (by decide)
    rw [ex3] at h
    exact h.mono fun e w' h => ⟨h.1, q.trans h.2⟩
  have c4 : Hid (∀ w1, Q w w1 → Calls Try.prog 13 #[.string ⟨#[110, 101, 116, 46, 42]⟩, .string ⟨#[110, 101, 116]⟩] w1 fun e w' => e = .returned (.bool false) ∧ Q w w') := fun w1 q => by
    have h := match_any ⟨#[110, 101, 116, 46, 42]⟩ ⟨#[110, 101, 116]⟩ w1 (mx.stays q) (by decide) (by decide)
    rw [ex4] at h
    exact h.mono fun e w' h => ⟨h.1, q.trans h.2⟩
  have c5 : Hid (∀ w1, Q w w1 → Calls Try.prog 13 #[.string ⟨#[110, 101, 116, 46, 42, 42]⟩, .string ⟨#[110, 101, 116, 46, 97, 46, 98]⟩] w1 fun e w' => e = .returned (.bool true) ∧ Q w w') := fun w1 q => by
    have h := match_any ⟨#[110, 101, 116, 46, 42, 42]⟩ ⟨#[110, 101, 116, 46, 97, 46, 98]⟩ w1 (mx.stays q) (by decide) (by decide)
    rw [ex5] at h
    exact h.mono fun e w' h => ⟨h.1, q.trans h.2⟩
  have c6 : Hid (∀ w1, Q w w1 → Calls Try.prog 9 #[.string ⟨#[97, 46, 42, 42, 42]⟩] w1 fun e w' => e = .returned (.int .i64 2) ∧ Q w w') := fun w1 q => by
    have h := check_any ⟨#[97, 46, 42, 42, 42]⟩ w1 (mx.stays q) (by decide)
    rw [ex6] at h
    exact h.mono fun e w' h => ⟨h.1, h.2 ▸ q⟩
  have c7 : Hid (∀ w1, Q w w1 → Calls Try.prog 11 #[.string ⟨#[110, 101, 116, 46, 97]⟩] w1 fun e w' => e = .returned (.bool true) ∧ Q w w') := fun w1 q => by
    have h := literal_any ⟨#[110, 101, 116, 46, 97]⟩ w1
    rw [ex7] at h
    exact h.mono fun e w' h => ⟨h.1, h.2 ▸ q⟩
  have c8 : Hid (∀ w1, Q w w1 → Calls Try.prog 11 #[.string ⟨#[110, 101, 116, 46, 42]⟩] w1 fun e w' => e = .returned (.bool false) ∧ Q w w') := fun w1 q => by
    have h := literal_any ⟨#[110, 101, 116, 46, 42]⟩ w1
    rw [ex8] at h
    exact h.mono fun e w' h => ⟨h.1, h.2 ▸ q⟩
  have c9 : Hid (∀ w1, Q w w1 → Calls Try.prog 15 #[.slice none 0 0, .string ⟨#[]⟩] w1 fun e w' => e = .returned (.bool false) ∧ Q w w') := fun w1 q => by
    have h := globAny_any none 0 0 (fun _ => ⟨#[]⟩) ⟨#[]⟩ w1 (mx.stays q) (by decide) (fun h => absurd h (by decide)) (fun i h => absurd h (by omega)) (by decide)
    exact h.mono fun e w' h => ⟨h.1, q.trans h.2⟩
  have q0 := Lib.hid (Q.refl w)
  clear mx HM
  go_enter Try.func8, Try.ntmps8
  go_wp2_with fail
  refine (c1.out _ q0.out).mono ?_; rintro e w1 ⟨rfl, q⟩
  have q1 := Lib.hid q; clear q c1
  go_wp2_with fail
  refine (c2.out _ q1.out).mono ?_; rintro e w2 ⟨rfl, q⟩
  have q2 := Lib.hid q; clear q c2
  go_wp2_with fail
  refine (c3.out _ q2.out).mono ?_; rintro e w3 ⟨rfl, q⟩
  have q3 := Lib.hid q; clear q c3
  go_wp2_with fail
  refine (c4.out _ q3.out).mono ?_; rintro e w4 ⟨rfl, q⟩
  have q4 := Lib.hid q; clear q c4
  go_wp2_with fail
  refine (c5.out _ q4.out).mono ?_; rintro e w5 ⟨rfl, q⟩
  have q5 := Lib.hid q; clear q c5
  go_wp2_with fail
  refine (c6.out _ q5.out).mono ?_; rintro e w6 ⟨rfl, q⟩
  have q6 := Lib.hid q; clear q c6
  go_wp2_with fail
  refine (c7.out _ q6.out).mono ?_; rintro e w7 ⟨rfl, q⟩
  have q7 := Lib.hid q; clear q c7
  go_wp2_with fail
  refine (c8.out _ q7.out).mono ?_; rintro e w8 ⟨rfl, q⟩
  have q8 := Lib.hid q; clear q c8
  go_wp2_with fail
  refine (c9.out _ q8.out).mono ?_; rintro e w9 ⟨rfl, q⟩
  have q9 := Lib.hid q; clear q c9
  go_wp2_with fail
  go_ret
  exact ⟨rfl, q9.out⟩

end Go.Proofs.Ythknlllaclgekaa.glo
