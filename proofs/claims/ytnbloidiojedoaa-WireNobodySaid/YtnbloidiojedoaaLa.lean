/- The laws WireAppends, WireNobody, WireUnique and WirePrefixes return true for every input. -/
import Derived.Test.YtnbloidiojedoaaWk
namespace Go.Proofs.Ytnbloidiojedoaa.wir
open Go.RowKit

theorem appends_any (d : ByteArray) (n : Int) (s : ByteArray) (w : World) (hd : d.size ≤ maxLen) (hn : -9223372036854775808 ≤ n ∧ n ≤ 9223372036854775807) (hs : s.size ≤ maxLen) :
    Calls Try.prog 3 #[.string d, .int .i64 n, .string s] w fun e w' => e = .returned (.bool true) ∧ Q w w' := by
  unfold maxLen at hd hs
  by_cases h : 400 < d.size
  · have z1 : (400 : Int) < (d.size : Int) := by omega
    clear h hn
    go_enter Try.func3, Try.ntmps3
    go_wp2_with fail
    refine (awake_true _).mono ?_; rintro e w1 ⟨rfl, q1⟩
    go_wp2_with fail
    go_ret
    exact ⟨rfl, q1⟩
  · have z1 : ¬ (400 : Int) < (d.size : Int) := by omega
    by_cases h2 : 400 < s.size
    · have z2 : (400 : Int) < (s.size : Int) := by omega
      clear h h2 hn
      go_enter Try.func3, Try.ntmps3
      go_wp2_with fail
      refine (awake_true _).mono ?_; rintro e w1 ⟨rfl, q1⟩
      go_wp2_with fail
      go_ret
      exact ⟨rfl, q1⟩
    · have z2 : ¬ (400 : Int) < (s.size : Int) := by omega
      have cA : Hid (∀ w, Calls Try.prog 11 #[.string d, .int .i64 n] w fun e w' => e = .returned (.string (d ++ encN n)) ∧ Q w w') := fun w => appendNumber_any d n w (by omega) hn
      have cB : Hid (∀ w, Calls Try.prog 12 #[.string d, .int .i64 n] w fun e w' => e = .returned (.string (d ++ encN n)) ∧ Q w w') := fun w => rappendNumber_any d n w (by omega) hn
      have cC : Hid (∀ w, Calls Try.prog 13 #[.string d, .string s] w fun e w' => e = .returned (.string (d ++ encS s)) ∧ Q w w') := fun w => appendString_any d s w (by omega) (by omega)
      have cD : Hid (∀ w, Calls Try.prog 14 #[.string d, .string s] w fun e w' => e = .returned (.string (d ++ encS s)) ∧ Q w w') := fun w => rappendString_any d s w (by omega) (by omega)
      clear h h2 hd hs hn
      generalize d ++ encN n = E at *
      generalize d ++ encS s = F at *
      go_enter Try.func3, Try.ntmps3
      go_wp2_with fail
      refine (cA.out _).mono ?_; rintro e w1 ⟨rfl, q1⟩
      go_wp2_with fail
      refine (cB.out _).mono ?_; rintro e w2 ⟨rfl, q2⟩
      go_wp2_with fail
      refine (cC.out _).mono ?_; rintro e w3 ⟨rfl, q3⟩
      go_wp2_with fail
      refine (cD.out _).mono ?_; rintro e w4 ⟨rfl, q4⟩
      go_wp2_with fail
      refine (awake_true _).mono ?_; rintro e w5 ⟨rfl, q5⟩
      go_wp2_with fail
      go_ret
      exact ⟨rfl, (((q1.trans q2).trans q3).trans q4).trans q5⟩

theorem stops_nil (w : World) : Stops (.pointer none) w := ⟨38, by decide, err_nil w⟩
theorem stops_odd (p : Nat) (s : ByteArray) (e : Int) (w : World) (h : Rd p s e false w) : Stops (ptr p) w := ⟨38, by decide, err_odd p s e w h⟩

set_option maxRecDepth 100000 in
set_option maxHeartbeats 4000000 in
theorem nobody_any (least : Int) (w : World) (_h : -9223372036854775808 ≤ least ∧ least ≤ 9223372036854775807) :
    Calls Try.prog 9 #[.int .i64 least] w fun e w' => e = .returned (.bool true) ∧ Q w w' := by
  obtain ⟨W1, hW, R1, Q1⟩ : ∃ W1, w.alloc (.cells #[.string ⟨#[]⟩, .int .i64 0, .bool false] 56) = W1 ∧ Rd w.heap.size ⟨#[]⟩ 0 false W1 ∧ Q w W1 :=
    ⟨_, rfl, Rd.new _ _ _ w, Below.alloc (Below.refl _ _) (Nat.le_refl _) _⟩
  have n1 := Lib.hid (number_stop _ W1 (stops_nil W1))
  have n2 := Lib.hid (number_stop _ W1 (stops_odd _ _ _ W1 R1))
  have s1 := Lib.hid (string_stop _ W1 (stops_nil W1))
  have s2 := Lib.hid (string_stop _ W1 (stops_odd _ _ _ W1 R1))
  have c1 := Lib.hid (count_stop _ least W1 (stops_nil W1))
  have c2 := Lib.hid (count_stop _ least W1 (stops_odd _ _ _ W1 R1))
  have l1 := Lib.hid (left_nil W1)
  have l2 := Lib.hid (left_any _ _ _ _ W1 R1)
  have e1 := Lib.hid (err_nil W1)
  have e2 := Lib.hid (err_odd _ _ _ W1 R1)
  have HQ := Lib.hid Q1
  clear R1 Q1
  unfold ptr at *
  go_enter Try.func9, Try.ntmps9
  go_wp2_with fail
  refine (n1.out).mono ?_; rintro e w' ⟨rfl, rfl⟩
  go_wp2_with fail
  refine (n2.out).mono ?_; rintro e w' ⟨rfl, rfl⟩
  go_wp2_with fail
  refine (s1.out).mono ?_; rintro e w' ⟨rfl, rfl⟩
  go_wp2_with fail
  refine (s2.out).mono ?_; rintro e w' ⟨rfl, rfl⟩
  go_wp2_with fail
  refine (c1.out).mono ?_; rintro e w' ⟨rfl, rfl⟩
  go_wp2_with fail
  refine (c2.out).mono ?_; rintro e w' ⟨rfl, rfl⟩
  go_wp2_with fail
  refine (l1.out).mono ?_; rintro e w' ⟨rfl, rfl⟩
  go_wp2_with fail
  refine (l2.out).mono ?_; rintro e w' ⟨rfl, rfl⟩
  go_wp2_with fail
  refine (e1.out).mono ?_; rintro e w' ⟨rfl, rfl⟩
  go_wp2_with fail
  refine (e2.out).mono ?_; rintro e w' ⟨rfl, rfl⟩
  go_wp2_with fail
  refine (awake_true _).mono ?_; rintro e w2 ⟨rfl, q2⟩
  go_wp2_with fail
  go_ret
  exact ⟨rfl, HQ.out.trans q2⟩

end Go.Proofs.Ytnbloidiojedoaa.wir
