/- The law WirePrefixes returns true for every input. -/
import Derived.Test.YtnbloidiojedoaaLp
namespace Go.Proofs.Ytnbloidiojedoaa.wir
open Go.RowKit

theorem nxN_of (x : ByteArray) (e : Int) (he : e ≠ 0) (h : num x = (0, 0, e)) : nxN x 0 = (0, x, e) := by
  show (gotN (num x), gotS x (num x), (num x).2.2) = _
  rw [h]
  unfold gotN gotS
  rw [if_neg he, if_neg he]
theorem nxS_of (x : ByteArray) (e : Int) (he : e ≠ 0) (h : cnt x 1 = (0, 0, e)) : nxS x 0 = (⟨#[]⟩, x, e) := by
  have e0 : nxC x 0 1 = (0, x, e) := by
    show (gotN (cnt x 1), gotS x (cnt x 1), (cnt x 1).2.2) = _
    rw [h]
    unfold gotN gotS
    rw [if_neg he, if_neg he]
  unfold nxS
  rw [e0, if_neg he]
theorem cnt_of (x : ByteArray) (L e : Int) (he : e ≠ 0) (h : num x = (0, 0, e)) : cnt x L = (0, 0, e) := by
  unfold cnt
  rw [h, if_pos he]
theorem encN_bound (n : Int) (hn : -9223372036854775808 ≤ n ∧ n ≤ 9223372036854775807) : zig n < 18446744073709551616 ∧ (encN n).size ≤ 10 :=
  ⟨zig_lt n hn, by rw [encN_size]; exact encU_ten _ (zig_lt n hn)⟩
theorem num_cut (n : Int) (k : Nat) (hn : -9223372036854775808 ≤ n ∧ n ≤ 9223372036854775807) (hk : k < (encN n).size) : num ((encN n).extract 0 k) = (0, 0, 40) := by
  unfold num
  rw [extract_list, List.drop_zero, encN_list]
  exact dec_cut (zig n) 0 0 k (by have := zig_lt n hn; simpa using this) (by rw [← encN_size]; exact hk)
theorem num_enc (n : Int) (t : ByteArray) (hn : -9223372036854775808 ≤ n ∧ n ≤ 9223372036854775807) : num (encN n ++ t) = (n, (encN n).size, 0) := by
  have h := dec_enc (zig n) 0 0 t.data.toList (by decide) (by have := zig_lt n hn; simpa using this) (by omega)
  rw [show 0 + zig n * 128 ^ 0 = zig n by simp, zag_zig, Nat.zero_add, ← encN_size] at h
  unfold num
  rw [← h, ← encN_list]
  congr 1
theorem prefix_n (n : Int) (k : Nat) (hn : -9223372036854775808 ≤ n ∧ n ≤ 9223372036854775807) (hk : k < (encN n).size) : nxN ((encN n).extract 0 k) 0 = (0, (encN n).extract 0 k, 40) :=
  nxN_of _ _ (by decide) (num_cut n k hn hk)
theorem prefix_s (s : ByteArray) (k : Nat) (hs : s.size ≤ 1000000) (hk : k < (encS s).size) : nxS ((encS s).extract 0 k) 0 = (⟨#[]⟩, (encS s).extract 0 k, 40) := by
  refine nxS_of _ _ (by decide) ?_
  have hb : -9223372036854775808 ≤ (s.size : Int) ∧ (s.size : Int) ≤ 9223372036854775807 := by omega
  unfold encS at hk ⊢
  rw [ByteArray.size_append] at hk
  by_cases h : k < (encN (s.size : Int)).size
  · have e1 : (encN (s.size : Int) ++ s).extract 0 k = (encN (s.size : Int)).extract 0 k := by
      apply ba_ext
      rw [extract_list, extract_list, List.drop_zero, List.drop_zero, ByteArray.data_append, Array.toList_append, List.take_append_of_le_length (by rw [encN_list, ← encN_size]; omega)]
    rw [e1]
    exact cnt_of _ _ _ (by decide) (num_cut _ k hb h)
  · have e1 : (encN (s.size : Int) ++ s).extract 0 k = encN (s.size : Int) ++ s.extract 0 (k - (encN (s.size : Int)).size) := by
      apply ba_ext
      have e2 : (encN (s.size : Int)).data.toList.length = (encN (s.size : Int)).size := by rw [encN_list, ← encN_size]
      rw [ByteArray.data_append, Array.toList_append, extract_list, extract_list, List.drop_zero, List.drop_zero, ByteArray.data_append, Array.toList_append, List.take_append, e2, List.take_of_length_le (by omega)]
    rw [e1]
    unfold cnt
    rw [num_enc _ _ hb]
    dsimp only
    rw [if_neg (by omega), if_neg (by omega), if_pos]
    rw [Int.ediv_one, ByteArray.size_append, ByteArray.size_extract]
    omega

set_option maxRecDepth 100000 in
set_option maxHeartbeats 8000000 in
theorem prefixes_any (n : Int) (s : ByteArray) (cut : Int) (w : World) (hn : -9223372036854775808 ≤ n ∧ n ≤ 9223372036854775807) (hs : s.size ≤ maxLen) (_hc : -9223372036854775808 ≤ cut ∧ cut ≤ 9223372036854775807) :
    Calls Try.prog 7 #[.int .i64 n, .string s, .int .i64 cut] w fun e w' => e = .returned (.bool true) ∧ Q w w' := by
  unfold maxLen at hs
  by_cases h : 300 < s.size
  · have z1 : (300 : Int) < (s.size : Int) := by omega
    clear h hn _hc
    go_enter Try.func7, Try.ntmps7
    go_wp2_with fail
    refine (awake_true _).mono ?_; rintro e w1 ⟨rfl, q1⟩
    go_wp2_with fail
    go_ret
    exact ⟨rfl, q1⟩
  · have z1 : ¬ (300 : Int) < (s.size : Int) := by omega
    have cA : Hid (∀ w, Calls Try.prog 11 #[.string ⟨#[]⟩, .int .i64 n] w fun e w' => e = .returned (.string (encN n)) ∧ Q w w') := fun w => by
      have h := appendNumber_any ⟨#[]⟩ n w (by decide) hn
      rw [none_app] at h
      exact h
    have cB : Hid (∀ w, Calls Try.prog 13 #[.string ⟨#[]⟩, .string s] w fun e w' => e = .returned (.string (encS s)) ∧ Q w w') := fun w => by
      have h := appendString_any ⟨#[]⟩ s w (by decide) (by omega)
      rw [none_app] at h
      exact h
    have hb : (encS s).size ≤ 1000 ∧ (encN n).size ≤ 10 := by
      have h1 := (encN_bound (s.size : Int) (by omega)).2
      have h2 := (encN_bound n hn).2
      refine ⟨?_, h2⟩
      unfold encS
      rw [ByteArray.size_append]
      omega
    have PN : Hid (∀ k : Nat, k < (encN n).size → nxN ((encN n).extract 0 k) 0 = (0, (encN n).extract 0 k, 40)) := fun k hk => prefix_n n k hn hk
    have PS : Hid (∀ k : Nat, k < (encS s).size → nxS ((encS s).extract 0 k) 0 = (⟨#[]⟩, (encS s).extract 0 k, 40)) := fun k hk => prefix_s s k (by omega) hk
    clear h hs hn _hc
    generalize encS s = b at *
    generalize encN n = a at *
    by_cases hc0 : cut < 0
    · clear PN PS hb
      go_enter Try.func7, Try.ntmps7
      go_wp2_with fail
      refine (cA.out _).mono ?_; rintro e w1 ⟨rfl, q1⟩
      go_wp2_with fail
      refine (cB.out _).mono ?_; rintro e w2 ⟨rfl, q2⟩
      go_wp2_with fail
      refine (awake_true _).mono ?_; rintro e w3 ⟨rfl, q3⟩
      go_wp2_with fail
      go_ret
      exact ⟨rfl, (q1.trans q2).trans q3⟩
    · obtain ⟨k, rfl⟩ := Int.eq_ofNat_of_zero_le (show 0 ≤ cut by omega)
      clear hc0
      by_cases h1 : b.size ≤ k
      · have y1 : (b.size : Int) ≤ (k : Int) := by omega
        clear PN PS hb h1
        go_enter Try.func7, Try.ntmps7
        go_wp2_with fail
        refine (cA.out _).mono ?_; rintro e w1 ⟨rfl, q1⟩
        go_wp2_with fail
        refine (cB.out _).mono ?_; rintro e w2 ⟨rfl, q2⟩
        go_wp2_with fail
        refine (awake_true _).mono ?_; rintro e w3 ⟨rfl, q3⟩
        go_wp2_with fail
        go_ret
        exact ⟨rfl, (q1.trans q2).trans q3⟩
      · have y1 : ¬ (b.size : Int) ≤ (k : Int) := by omega
        have y2 : (k : Int) ≤ (b.size : Int) := by omega
        have cS : Hid (∀ p w, Rd p (b.extract 0 k) 0 true w → Calls Try.prog 20 #[ptr p] w fun r w' => r = .returned (.string ⟨#[]⟩) ∧ Hid (After p (b.extract 0 k) 40 w w')) := fun p w h => by
          have h := string_any p _ 0 w h (by rw [ByteArray.size_extract]; omega)
          rw [PS.out k (by omega)] at h
          exact h
        have cL : Hid (∀ p s e m w, Rd p s e m w → Calls Try.prog 23 #[ptr p] w fun r w' => r = .returned (.int .i64 (s.size : Int)) ∧ w = w') := fun p s e m w h => left_any p s e m w h
        have cR : Hid (∀ p s e w, Rd p s e true w → Calls Try.prog 25 #[ptr p] w fun r w' => r = .returned (.int .i64 e) ∧ w = w') := fun p s e w h => err_any p s e w h
        have sB : ((b.extract 0 k).size : Int) = (k : Int) := by rw [ByteArray.size_extract]; omega
        obtain ⟨B, hB⟩ : ∃ B, b.extract 0 k = B := ⟨_, rfl⟩
        rw [hB] at cS sB
        unfold ptr at *
        by_cases h2 : a.size ≤ k
        · have y3 : (a.size : Int) ≤ (k : Int) := by omega
          clear PN PS hb h1 h2
          go_enter Try.func7, Try.ntmps7
          go_wp2_with fail
          refine (cA.out _).mono ?_; rintro e w1 ⟨rfl, q1⟩
          go_wp2_with fail
          refine (cB.out _).mono ?_; rintro e w2 ⟨rfl, q2⟩
          go_wp2_with fail
          refine (newReader_any _ _).mono ?_; rintro r w3 ⟨rfl, r3, q3⟩
          have hw2 := (q1.trans q2).size
          have H3 := Lib.hid (And.intro r3 ((q1.trans q2).trans q3))
          clear r3 q1 q2 q3
          unfold ptr
          go_wp2_with fail
          refine (cS.out _ _ H3.out.1).mono ?_; rintro r w4 ⟨rfl, h4⟩
          have H4 := Lib.hid (And.intro h4.out.1 (H3.out.2.thenM h4.out.2 hw2))
          clear h4 H3
          go_wp2_with fail
          refine (cR.out _ _ _ _ H4.out.1).mono ?_; rintro r w' ⟨rfl, rfl⟩
          go_wp2_with fail
          refine (cL.out _ _ _ _ _ H4.out.1).mono ?_; rintro r w' ⟨rfl, rfl⟩
          go_wp2_with fail
          refine (awake_true _).mono ?_; rintro r w5 ⟨rfl, q5⟩
          go_wp2_with fail
          go_ret
          exact ⟨rfl, H4.out.2.trans q5⟩
        · have y3 : ¬ (a.size : Int) ≤ (k : Int) := by omega
          have y4 : (k : Int) ≤ (a.size : Int) := by omega
          have cN : Hid (∀ p w, Rd p (a.extract 0 k) 0 true w → Calls Try.prog 18 #[ptr p] w fun r w' => r = .returned (.int .i64 0) ∧ Hid (After p (a.extract 0 k) 40 w w')) := fun p w h => by
            have h := number_any p _ 0 w h (by rw [ByteArray.size_extract]; omega)
            rw [PN.out k (by omega)] at h
            exact h
          have sA : ((a.extract 0 k).size : Int) = (k : Int) := by rw [ByteArray.size_extract]; omega
          obtain ⟨A, hA⟩ : ∃ A, a.extract 0 k = A := ⟨_, rfl⟩
          rw [hA] at cN sA
          unfold ptr at *
          clear PN PS hb h1 h2
          go_enter Try.func7, Try.ntmps7
          go_wp2_with fail
          refine (cA.out _).mono ?_; rintro e w1 ⟨rfl, q1⟩
          go_wp2_with fail
          refine (cB.out _).mono ?_; rintro e w2 ⟨rfl, q2⟩
          go_wp2_with fail
          refine (newReader_any _ _).mono ?_; rintro r w3 ⟨rfl, r3, q3⟩
          have hw2 := (q1.trans q2).size
          have H3 := Lib.hid (And.intro r3 ((q1.trans q2).trans q3))
          clear r3 q1 q2 q3
          unfold ptr
          go_wp2_with fail
          refine (cS.out _ _ H3.out.1).mono ?_; rintro r w4 ⟨rfl, h4⟩
          have H4 := Lib.hid (And.intro h4.out.1 (H3.out.2.thenM h4.out.2 hw2))
          clear h4 H3
          go_wp2_with fail
          refine (cR.out _ _ _ _ H4.out.1).mono ?_; rintro r w' ⟨rfl, rfl⟩
          go_wp2_with fail
          refine (cL.out _ _ _ _ _ H4.out.1).mono ?_; rintro r w' ⟨rfl, rfl⟩
          go_wp2_with fail
          refine (newReader_any _ _).mono ?_; rintro r w5 ⟨rfl, r5, q5⟩
          have h5 := (H4.out.2.trans q5).size
          have hh4 := H4.out.2.size
          have H5 := Lib.hid (And.intro r5 (H4.out.2.trans q5))
          clear r5 q5 H4
          unfold ptr
          go_wp2_with fail
          refine (cN.out _ _ H5.out.1).mono ?_; rintro r w6 ⟨rfl, h6⟩
          have H6 := Lib.hid (And.intro h6.out.1 (H5.out.2.thenM h6.out.2 hh4))
          clear h6 H5
          go_wp2_with fail
          refine (cR.out _ _ _ _ H6.out.1).mono ?_; rintro r w' ⟨rfl, rfl⟩
          go_wp2_with fail
          refine (cL.out _ _ _ _ _ H6.out.1).mono ?_; rintro r w' ⟨rfl, rfl⟩
          go_wp2_with fail
          refine (awake_true _).mono ?_; rintro r w7 ⟨rfl, q7⟩
          go_wp2_with fail
          go_ret
          exact ⟨rfl, H6.out.2.trans q7⟩

end Go.Proofs.Ytnbloidiojedoaa.wir
