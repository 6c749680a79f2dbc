/- The laws NumberInverse and NumberDivides return true for all integers. -/
import Derived.Test.YtapnnoedlkoilaaDoorLaw
namespace Go.Proofs.YtapnnoedlkoilaaDoor.num
open Go.RowKit

set_option maxHeartbeats 2000000 in
theorem inverse_core (a b c e d g : Int) (w : World) (ht : Tab w)
    (h1 : ∀ w, Calls Tryd.prog 10 #[.int .i64 a, .int .i64 b] w fun x w' => x = .returned (.tuple #[.int .i64 c, .int .i64 e]) ∧ w = w')
    (h3 : ∀ w, Calls Tryd.prog 14 #[.int .i64 a, .int .i64 b] w fun x w' => x = .returned (.tuple #[.int .i64 d, .int .i64 g]) ∧ w = w')
    (he : (e = 0 ∧ ∀ w, Calls Tryd.prog 12 #[.int .i64 c, .int .i64 b] w fun x w' => x = .returned (.tuple #[.int .i64 a, .int .i64 0]) ∧ w = w') ∨ (e == 0) = false)
    (hg : (g = 0 ∧ (b != 0) = true ∧ (∀ w, Calls Tryd.prog 16 #[.int .i64 d, .int .i64 b] w fun x w' => x = .returned (.tuple #[.int .i64 a, .int .i64 0]) ∧ Q w w') ∧ (∀ w, Calls Tryd.prog 18 #[.int .i64 d, .int .i64 b] w fun x w' => x = .returned (.tuple #[.int .i64 0, .int .i64 0]) ∧ Q w w')) ∨ (g == 0) = false ∨ (g = 0 ∧ b = 0)) :
    Calls Tryd.prog 8 #[.int .i64 a, .int .i64 b] w fun e w' => e = .returned (.bool true) ∧ Q w w' := by
  have HT := Lib.hid ht
  have H1 := Lib.hid h1
  have H3 := Lib.hid h3
  clear ht h1 h3
  rcases he with ⟨rfl, hs⟩ | he
  · rcases hg with ⟨rfl, hb, hd, hm⟩ | hg | ⟨rfl, rfl⟩
    · have HS := Lib.hid hs; clear hs
      have HD := Lib.hid hd; have HM := Lib.hid hm; clear hd hm
      go_enter Tryd.func8, Tryd.ntmps8
      go_wp2_with fail
      refine (H1.out _).mono ?_; rintro e w' ⟨rfl, rfl⟩
      go_wp2_with fail
      refine (HS.out _).mono ?_; rintro e w' ⟨rfl, rfl⟩
      go_wp2_with fail
      refine (H3.out _).mono ?_; rintro e w' ⟨rfl, rfl⟩
      go_wp2_with fail
      refine (HD.out _).mono ?_; rintro e w1 ⟨rfl, q1⟩
      go_wp2_with fail
      refine (HM.out _).mono ?_; rintro e w2 ⟨rfl, q2⟩
      go_wp2_with fail
      refine (awake_true _ (q2.tab (q1.tab HT.out))).mono ?_; rintro e w3 ⟨rfl, q3⟩
      go_wp2_with fail
      go_ret
      exact ⟨rfl, (q1.trans q2).trans q3⟩
    · have HS := Lib.hid hs; clear hs
      go_enter Tryd.func8, Tryd.ntmps8
      go_wp2_with fail
      refine (H1.out _).mono ?_; rintro e w' ⟨rfl, rfl⟩
      go_wp2_with fail
      refine (HS.out _).mono ?_; rintro e w' ⟨rfl, rfl⟩
      go_wp2_with fail
      refine (H3.out _).mono ?_; rintro e w' ⟨rfl, rfl⟩
      go_wp2_with fail
      refine (awake_true _ HT.out).mono ?_; rintro e w3 ⟨rfl, q3⟩
      go_wp2_with fail
      go_ret
      exact ⟨rfl, q3⟩
    · have HS := Lib.hid hs; clear hs
      go_enter Tryd.func8, Tryd.ntmps8
      go_wp2_with fail
      refine (H1.out _).mono ?_; rintro e w' ⟨rfl, rfl⟩
      go_wp2_with fail
      refine (HS.out _).mono ?_; rintro e w' ⟨rfl, rfl⟩
      go_wp2_with fail
      refine (H3.out _).mono ?_; rintro e w' ⟨rfl, rfl⟩
      go_wp2_with fail
      refine (awake_true _ HT.out).mono ?_; rintro e w3 ⟨rfl, q3⟩
      go_wp2_with fail
      go_ret
      exact ⟨rfl, q3⟩
  · rcases hg with ⟨rfl, hb, hd, hm⟩ | hg | ⟨rfl, rfl⟩
    · have HD := Lib.hid hd; have HM := Lib.hid hm; clear hd hm
      go_enter Tryd.func8, Tryd.ntmps8
      go_wp2_with fail
      refine (H1.out _).mono ?_; rintro e w' ⟨rfl, rfl⟩
      go_wp2_with fail
      refine (H3.out _).mono ?_; rintro e w' ⟨rfl, rfl⟩
      go_wp2_with fail
      refine (HD.out _).mono ?_; rintro e w1 ⟨rfl, q1⟩
      go_wp2_with fail
      refine (HM.out _).mono ?_; rintro e w2 ⟨rfl, q2⟩
      go_wp2_with fail
      refine (awake_true _ (q2.tab (q1.tab HT.out))).mono ?_; rintro e w3 ⟨rfl, q3⟩
      go_wp2_with fail
      go_ret
      exact ⟨rfl, (q1.trans q2).trans q3⟩
    · go_enter Tryd.func8, Tryd.ntmps8
      go_wp2_with fail
      refine (H1.out _).mono ?_; rintro e w' ⟨rfl, rfl⟩
      go_wp2_with fail
      refine (H3.out _).mono ?_; rintro e w' ⟨rfl, rfl⟩
      go_wp2_with fail
      refine (awake_true _ HT.out).mono ?_; rintro e w3 ⟨rfl, q3⟩
      go_wp2_with fail
      go_ret
      exact ⟨rfl, q3⟩
    · go_enter Tryd.func8, Tryd.ntmps8
      go_wp2_with fail
      refine (H1.out _).mono ?_; rintro e w' ⟨rfl, rfl⟩
      go_wp2_with fail
      refine (H3.out _).mono ?_; rintro e w' ⟨rfl, rfl⟩
      go_wp2_with fail
      refine (awake_true _ HT.out).mono ?_; rintro e w3 ⟨rfl, q3⟩
      go_wp2_with fail
      go_ret
      exact ⟨rfl, q3⟩

theorem inverse_any (a b : Int) (w : World) (ht : Tab w) : Calls Tryd.prog 8 #[.int .i64 a, .int .i64 b] w fun e w' => e = .returned (.bool true) ∧ Q w w' := by
  by_cases h : bad a ∨ bad b
  · exact inverse_core a b _ _ _ _ w ht (add_bad a b · h) (mul_bad a b · h) (.inr rfl) (.inr (.inl rfl))
  · have ha : good a := not_bad fun x => h (.inl x)
    have hb : good b := not_bad fun x => h (.inr x)
    refine inverse_core a b _ _ _ _ w ht (add_res a b · ha hb) (mul_res a b · ha hb) ?_ ?_
    · rcases res_cases (a + b) with ⟨h1, h2, h3⟩ | ⟨h1, h2, h3⟩
      · rw [h2, h3]
        refine .inl ⟨rfl, fun w => ?_⟩
        have := sub_good (a + b) b w h1 hb (by rw [show a + b - b = a by omega]; exact ha)
        rwa [show a + b - b = a by omega] at this
      · rw [h3]; exact .inr rfl
    · rcases res_cases (a * b) with ⟨h1, h2, h3⟩ | ⟨h1, h2, h3⟩
      · rw [h2, h3]
        by_cases hz : b = 0
        · exact .inr (.inr ⟨rfl, hz⟩)
        · refine .inl ⟨rfl, by simpa using hz, fun w => ?_, fun w => ?_⟩
          · have := div_good (a * b) b w h1 hb hz
            rwa [mul_fd a b hz] at this
          · have := mod_good (a * b) b w h1 hb hz
            rwa [mul_fm a b] at this
      · rw [h3]; exact .inr (.inl rfl)
theorem inverse_walk (a b : Int) (w : World) (_ : -9223372036854775808 ≤ a ∧ a ≤ 9223372036854775807) (_ : -9223372036854775808 ≤ b ∧ b ≤ 9223372036854775807) (ht : Tab w) :
    Calls Tryd.prog 8 #[.int .i64 a, .int .i64 b] w fun e w' => e = .returned (.bool true) ∧ Below w.heap.size w w' := inverse_any a b w ht

set_option maxHeartbeats 1000000 in
theorem divides_bad_zero (a b : Int) (w : World) (ht : Tab w) (h : bad a) (hz : b = 0) :
    Calls Tryd.prog 7 #[.int .i64 a, .int .i64 b] w fun e w' => e = .returned (.bool true) ∧ Q w w' := by
  have HT := Lib.hid ht; clear ht
  have H : Hid (bad a ∨ bad b) := Lib.hid (.inl h)
  clear h
  subst hz
  go_enter Tryd.func7, Tryd.ntmps7
  go_wp2_with fail
  refine (div_bad a 0 _ H.out).mono ?_; rintro e w' ⟨rfl, rfl⟩
  go_wp2_with fail
  refine (mod_bad a 0 _ H.out).mono ?_; rintro e w' ⟨rfl, rfl⟩
  go_wp2_with fail
  refine (awake_true _ HT.out).mono ?_; rintro e w3 ⟨rfl, q3⟩
  go_wp2_with fail
  go_ret
  exact ⟨rfl, q3⟩

set_option maxHeartbeats 1000000 in
theorem divides_bad_a (a b : Int) (w : World) (ht : Tab w) (h : bad a) (hz : (b == 0) = false) :
    Calls Tryd.prog 7 #[.int .i64 a, .int .i64 b] w fun e w' => e = .returned (.bool true) ∧ Q w w' := by
  have HT := Lib.hid ht; clear ht
  have H : Hid (bad a ∨ bad b) := Lib.hid (.inl h)
  have HA := Lib.hid h
  clear h
  go_enter Tryd.func7, Tryd.ntmps7
  go_wp2_with fail
  refine (div_bad a b _ H.out).mono ?_; rintro e w' ⟨rfl, rfl⟩
  go_wp2_with fail
  refine (mod_bad a b _ H.out).mono ?_; rintro e w' ⟨rfl, rfl⟩
  go_wp2_with fail
  refine (valid_no a _ HA.out).mono ?_; rintro e w' ⟨rfl, rfl⟩
  go_wp2_with fail
  refine (awake_true _ HT.out).mono ?_; rintro e w3 ⟨rfl, q3⟩
  go_wp2_with fail
  go_ret
  exact ⟨rfl, q3⟩

set_option maxHeartbeats 1000000 in
theorem divides_bad_b (a b : Int) (w : World) (ht : Tab w) (ha : good a) (h : bad b) (hz : (b == 0) = false) :
    Calls Tryd.prog 7 #[.int .i64 a, .int .i64 b] w fun e w' => e = .returned (.bool true) ∧ Q w w' := by
  have HT := Lib.hid ht; clear ht
  have H : Hid (bad a ∨ bad b) := Lib.hid (.inr h)
  have HA := Lib.hid ha
  have HB := Lib.hid h
  clear h ha
  go_enter Tryd.func7, Tryd.ntmps7
  go_wp2_with fail
  refine (div_bad a b _ H.out).mono ?_; rintro e w' ⟨rfl, rfl⟩
  go_wp2_with fail
  refine (mod_bad a b _ H.out).mono ?_; rintro e w' ⟨rfl, rfl⟩
  go_wp2_with fail
  refine (valid_yes a _ HA.out.1 HA.out.2).mono ?_; rintro e w' ⟨rfl, rfl⟩
  go_wp2_with fail
  refine (valid_no b _ HB.out).mono ?_; rintro e w' ⟨rfl, rfl⟩
  go_wp2_with fail
  refine (awake_true _ HT.out).mono ?_; rintro e w3 ⟨rfl, q3⟩
  go_wp2_with fail
  go_ret
  exact ⟨rfl, q3⟩

set_option maxHeartbeats 1000000 in
theorem divides_zero (a b : Int) (w : World) (ht : Tab w) (ha : good a) (hz : b = 0) :
    Calls Tryd.prog 7 #[.int .i64 a, .int .i64 b] w fun e w' => e = .returned (.bool true) ∧ Q w w' := by
  have HT := Lib.hid ht; clear ht
  have HA := Lib.hid ha
  clear ha
  subst hz
  go_enter Tryd.func7, Tryd.ntmps7
  go_wp2_with fail
  refine (div_zero a 0 _ HA.out rfl).mono ?_; rintro e w' ⟨rfl, rfl⟩
  go_wp2_with fail
  refine (mod_zero a 0 _ HA.out rfl).mono ?_; rintro e w' ⟨rfl, rfl⟩
  go_wp2_with fail
  refine (awake_true _ HT.out).mono ?_; rintro e w3 ⟨rfl, q3⟩
  go_wp2_with fail
  go_ret
  exact ⟨rfl, q3⟩

set_option maxHeartbeats 2000000 in
theorem divides_core (a b q m : Int) (w : World) (ht : Tab w) (hz : (b == 0) = false) (ha : good a) (hq : good q) (hm : good m) (hs : (0 < b ∧ 0 ≤ m ∧ m < b) ∨ (b < 0 ∧ m ≤ 0 ∧ b < m)) (hp : (q * b == a - m) = true)
    (h1 : ∀ w, Calls Tryd.prog 16 #[.int .i64 a, .int .i64 b] w fun x w' => x = .returned (.tuple #[.int .i64 q, .int .i64 0]) ∧ Q w w')
    (h2 : ∀ w, Calls Tryd.prog 18 #[.int .i64 a, .int .i64 b] w fun x w' => x = .returned (.tuple #[.int .i64 m, .int .i64 0]) ∧ Q w w') :
    Calls Tryd.prog 7 #[.int .i64 a, .int .i64 b] w fun e w' => e = .returned (.bool true) ∧ Q w w' := by
  have HT := Lib.hid ht
  have H1 := Lib.hid h1
  have H2 := Lib.hid h2
  obtain ⟨a0, a1⟩ := ha
  obtain ⟨q0, q1⟩ := hq
  obtain ⟨m0, m1⟩ := hm
  have p0 : -9223372036854775808 ≤ q * b := by have := beq_iff_eq.1 hp; omega
  have p1 : q * b ≤ 9223372036854775807 := by have := beq_iff_eq.1 hp; omega
  clear ht h1 h2
  rcases hs with ⟨s0, s1, s2⟩ | ⟨s0, s1, s2⟩
  all_goals
    go_enter Tryd.func7, Tryd.ntmps7
    go_wp2_with fail
    refine (H1.out _).mono ?_; rintro e w1 ⟨rfl, k1⟩
    go_wp2_with fail
    refine (H2.out _).mono ?_; rintro e w2 ⟨rfl, k2⟩
    go_wp2_with fail
    refine (valid_yes q _ q0 q1).mono ?_; rintro e w' ⟨rfl, rfl⟩
    go_wp2_with fail
    refine (valid_yes m _ m0 m1).mono ?_; rintro e w' ⟨rfl, rfl⟩
    go_wp2_with fail
    refine (awake_true _ (k2.tab (k1.tab HT.out))).mono ?_; rintro e w3 ⟨rfl, k3⟩
    go_wp2_with fail
    go_ret
    exact ⟨rfl, (k1.trans k2).trans k3⟩

theorem divides_any (a b : Int) (w : World) (ht : Tab w) : Calls Tryd.prog 7 #[.int .i64 a, .int .i64 b] w fun e w' => e = .returned (.bool true) ∧ Q w w' := by
  by_cases hz : b = 0
  · by_cases ha : bad a
    · exact divides_bad_zero a b w ht ha hz
    · exact divides_zero a b w ht (not_bad ha) hz
  · have hz' : (b == 0) = false := by simpa using hz
    by_cases ha : bad a
    · exact divides_bad_a a b w ht ha hz'
    · by_cases hb : bad b
      · exact divides_bad_b a b w ht (not_bad ha) hb hz'
      · have ga := not_bad ha
        have gb := not_bad hb
        refine divides_core a b _ _ w ht hz' ga (fd_size a b hz ga.1 ga.2) (fm_size a b gb hz) ?_ (by rw [beq_iff_eq]; exact fd_mul a b) (div_good a b · ga gb hz) (mod_good a b · ga gb hz)
        rcases Int.lt_trichotomy b 0 with h | h | h
        · have := fm_neg a b h; exact .inr ⟨h, this.2, this.1⟩
        · exact absurd h hz
        · have := fm_pos a b h; exact .inl ⟨h, this.1, this.2⟩
theorem divides_walk (a b : Int) (w : World) (_ : -9223372036854775808 ≤ a ∧ a ≤ 9223372036854775807) (_ : -9223372036854775808 ≤ b ∧ b ≤ 9223372036854775807) (ht : Tab w) :
    Calls Tryd.prog 7 #[.int .i64 a, .int .i64 b] w fun e w' => e = .returned (.bool true) ∧ Below w.heap.size w w' := divides_any a b w ht

end Go.Proofs.YtapnnoedlkoilaaDoor.num
