/- The reference's escapes and items: what Escaped and One return. -/
import Derived.Test.YthekabflbpfjoaaGreatDoorRencm
namespace Go.Proofs.YthekabflbpfjoaaGreatDoor.lit
open Go.RowKit

def oneText (I : It) : ByteArray := if I.e = 0 then ⟨(Lib.encodeRune I.r).toArray⟩ else ⟨#[]⟩
def oneNext (I : It) (i : Nat) : Int := if I.e = 0 then (i : Int) + I.k else 0

theorem bt_drop (s : ByteArray) (i j : Nat) (h : i + j < s.size) : bt (s.data.toList.drop i) j = s[i + j].toNat := by
  rw [drop_bt, bt_get s (i + j) h]
theorem drop_len (s : ByteArray) (i : Nat) : (s.data.toList.drop i).length = s.size - i := by rw [List.length_drop]; simp

/-- The number of an escape, read at its own place or in the whole text. -/
theorem num_pt (s : ByteArray) (i d : Nat) (hi : i + 3 ≤ s.size) :
    (ptAt s.data.toList (i + 3) d).e = (numAt (s.data.toList.drop i) d).e ∧ (ptAt s.data.toList (i + 3) d).r = (numAt (s.data.toList.drop i) d).r ∧
    ((numAt (s.data.toList.drop i) d).e = 0 → (ptAt s.data.toList (i + 3) d).k = (i : Int) + (numAt (s.data.toList.drop i) d).k ∧ ∃ n : Nat, (numAt (s.data.toList.drop i) d).r = n ∧ Lib.validRune (n : Int) = true) := by
  have e1 : ((s.data.toList.drop i).length = 3 + d) = (s.data.toList.length = i + 3 + d) := by
    rw [drop_len]
    simp only [Array.length_toList]
    exact propext ⟨fun h => by show s.size = _; omega, fun h => by have h' : s.size = i + 3 + d := h; omega⟩
  have e2 : bt (s.data.toList.drop i) (3 + d) = bt s.data.toList (i + 3 + d) := by rw [drop_bt, Nat.add_assoc]
  have e3 : bt (s.data.toList.drop i) 3 = bt s.data.toList (i + 3) := drop_bt s i 3
  have e4 : (s.data.toList.drop i).drop 3 = s.data.toList.drop (i + 3) := by rw [List.drop_drop]
  by_cases c1 : s.data.toList.length = i + 3 + d
  · have a : ptAt s.data.toList (i + 3) d = ⟨0, 0, 40⟩ := by unfold ptAt; rw [if_pos c1]
    have b : numAt (s.data.toList.drop i) d = ⟨0, 0, 40⟩ := by unfold numAt; rw [if_pos (by rw [e1]; exact c1)]
    rw [a, b]
    exact ⟨rfl, rfl, fun h => by cases h⟩
  · by_cases c2 : ¬ bt s.data.toList (i + 3 + d) = 125 ∨ d = 0 ∨ (1 < d ∧ bt s.data.toList (i + 3) = 48) ∨ Lib.validRune (hval ((s.data.toList.drop (i + 3)).take d)) = false
    · have a : ptAt s.data.toList (i + 3) d = ⟨0, 0, 2⟩ := by unfold ptAt; rw [if_neg c1, if_pos c2]
      have b : numAt (s.data.toList.drop i) d = ⟨0, 0, 2⟩ := by unfold numAt; rw [if_neg (by rw [e1]; exact c1), if_pos (by rw [e2, e3, e4]; exact c2)]
      rw [a, b]
      exact ⟨rfl, rfl, fun h => by cases h⟩
    · have a : ptAt s.data.toList (i + 3) d = ⟨hval ((s.data.toList.drop (i + 3)).take d), ((i + 3 : Nat) : Int) + (d : Int) + 1, 0⟩ := by unfold ptAt; rw [if_neg c1, if_neg c2]
      have b : numAt (s.data.toList.drop i) d = ⟨hval ((s.data.toList.drop (i + 3)).take d), (d : Int) + 4, 0⟩ := by unfold numAt; rw [if_neg (by rw [e1]; exact c1), if_neg (by rw [e2, e3, e4]; exact c2), e4]
      rw [a, b]
      refine ⟨rfl, rfl, fun _ => ⟨by simp only; omega, _, rfl, ?_⟩⟩
      cases hx : Lib.validRune (hval ((s.data.toList.drop (i + 3)).take d) : Int) with
      | true => rfl
      | false => exact absurd (.inr (.inr (.inr hx))) c2

set_option maxRecDepth 100000 in
set_option maxHeartbeats 4000000 in
theorem ref_escaped (s : ByteArray) (i : Nat) (w : World) (hs : s.size ≤ 1000000) (hi : i < s.size) :
    Calls Tryz.prog 115 #[.string s, .int .i64 (i : Int)] w fun e w' => e = .returned (.tuple #[.string (oneText (esc (s.data.toList.drop i))), .int .i64 (oneNext (esc (s.data.toList.drop i)) i), .int .i64 (esc (s.data.toList.drop i)).e]) ∧ Q w w' := by
  have hdl := drop_len s i
  obtain ⟨R, hR⟩ : ∃ R, esc (s.data.toList.drop i) = R := ⟨_, rfl⟩
  rw [hR]
  unfold esc at hR
  rw [hdl] at hR
  by_cases h : s.size = i + 1
  · rw [if_pos (by omega)] at hR
    subst hR
    have hz : (s.size : Int) ≤ (i : Int) + 1 := by omega
    go_enter Tryz.func115, Tryz.ntmps115
    go_wp2_with fail
    go_ret3
    exact ⟨rfl, Q.refl _⟩
  · rw [if_neg (by omega)] at hR
    have h2 : i + 1 < s.size := by omega
    have hz : ¬ (s.size : Int) ≤ (i : Int) + 1 := by omega
    have hz1 : (i : Int) + 1 < (s.size : Int) := by omega
    rw [bt_drop s i 1 h2] at hR
    by_cases c1 : s[i + 1].toNat = 110
    · rw [if_pos c1] at hR
      subst hR
      have g : ((s[i + 1].toNat : Int) == 110) = true := by rw [c1]; rfl
      clear c1
      go_enter Tryz.func115, Tryz.ntmps115
      go_wp2_with fail
      go_ret3
      exact ⟨rfl, Q.refl _⟩
    rw [if_neg c1] at hR
    have gc1 : ((s[i + 1].toNat : Int) == 110) = false := beq_eq_false_iff_ne.2 (by omega)
    by_cases c2 : s[i + 1].toNat = 114
    · rw [if_pos c2] at hR
      subst hR
      have g : ((s[i + 1].toNat : Int) == 114) = true := by rw [c2]; rfl
      clear c2
      go_enter Tryz.func115, Tryz.ntmps115
      go_wp2_with fail
      go_ret3
      exact ⟨rfl, Q.refl _⟩
    rw [if_neg c2] at hR
    have gc2 : ((s[i + 1].toNat : Int) == 114) = false := beq_eq_false_iff_ne.2 (by omega)
    by_cases c3 : s[i + 1].toNat = 116
    · rw [if_pos c3] at hR
      subst hR
      have g : ((s[i + 1].toNat : Int) == 116) = true := by rw [c3]; rfl
      clear c3
      go_enter Tryz.func115, Tryz.ntmps115
      go_wp2_with fail
      go_ret3
      exact ⟨rfl, Q.refl _⟩
    rw [if_neg c3] at hR
    have gc3 : ((s[i + 1].toNat : Int) == 116) = false := beq_eq_false_iff_ne.2 (by omega)
    by_cases c4 : s[i + 1].toNat = 34
    · rw [if_pos (.inl c4), c4] at hR
      subst hR
      have g : ((s[i + 1].toNat : Int) == 34) = true := by rw [c4]; rfl
      have hx : s.extract (i + 1) (i + 2) = ⟨#[34]⟩ := by
        have := from_list _ _ (cut_one s (i + 1) h2)
        rw [this, show s[i + 1] = 34 from UInt8.toNat_inj.1 (by rw [c4]; rfl)]
      have h3 : (i : Int) + 2 ≤ (s.size : Int) := by omega
      clear c4
      go_enter Tryz.func115, Tryz.ntmps115
      go_wp2_with fail
      go_ret3
      refine ⟨?_, Q.refl _⟩
      show Ending.returned (.tuple #[.string (s.extract (i + 1) (i + 2)), .int .i64 ((i : Int) + 2), .int .i64 0]) = _
      rw [hx]
      rfl
    have gc4 : ((s[i + 1].toNat : Int) == 34) = false := beq_eq_false_iff_ne.2 (by omega)
    by_cases c5 : s[i + 1].toNat = 92
    · rw [if_pos (.inr c5), c5] at hR
      subst hR
      have g : ((s[i + 1].toNat : Int) == 92) = true := by rw [c5]; rfl
      have hx : s.extract (i + 1) (i + 2) = ⟨#[92]⟩ := by
        have := from_list _ _ (cut_one s (i + 1) h2)
        rw [this, show s[i + 1] = 92 from UInt8.toNat_inj.1 (by rw [c5]; rfl)]
      have h3 : (i : Int) + 2 ≤ (s.size : Int) := by omega
      clear c5
      go_enter Tryz.func115, Tryz.ntmps115
      go_wp2_with fail
      go_ret3
      refine ⟨?_, Q.refl _⟩
      show Ending.returned (.tuple #[.string (s.extract (i + 1) (i + 2)), .int .i64 ((i : Int) + 2), .int .i64 0]) = _
      rw [hx]
      rfl
    have gc5 : ((s[i + 1].toNat : Int) == 92) = false := beq_eq_false_iff_ne.2 (by omega)
    rw [if_neg (by omega)] at hR
    by_cases c6 : s[i + 1].toNat = 117
    · rw [if_pos c6] at hR
      have g : ((s[i + 1].toNat : Int) == 117) = true := by rw [c6]; rfl
      clear c1 c2 c3 c4 c5 c6
      unfold num at hR
      rw [hdl] at hR
      by_cases d1 : s.size = i + 2
      · rw [if_pos (by omega)] at hR
        subst hR
        have hz2 : (s.size : Int) ≤ (i : Int) + 2 := by omega
        go_enter Tryz.func115, Tryz.ntmps115
        go_wp2_with fail
        go_ret3
        exact ⟨rfl, Q.refl _⟩
      · rw [if_neg (by omega)] at hR
        have h3 : i + 2 < s.size := by omega
        have hz2 : ¬ (s.size : Int) ≤ (i : Int) + 2 := by omega
        have hz3 : (i : Int) + 2 < (s.size : Int) := by omega
        rw [bt_drop s i 2 h3] at hR
        by_cases d2 : s[i + 2].toNat = 123
        · rw [if_neg (fun x => x d2)] at hR
          have g2 : ((s[i + 2].toNat : Int) != 123) = false := by rw [d2]; rfl
          have hnp := num_pt s i (digs 6 (s.data.toList.drop (i + 3))) (by omega)
          rw [show (s.data.toList.drop i).drop 3 = s.data.toList.drop (i + 3) by rw [List.drop_drop]] at hR
          rw [hR] at hnp
          have cP : Hid (∀ w, Calls Tryz.prog 128 #[.string s, .int .i64 ((i : Int) + 3)] w fun e w' => e = .returned (.tuple #[.int .i64 R.r, .int .i64 (ptAt s.data.toList (i + 3) (digs 6 (s.data.toList.drop (i + 3)))).k, .int .i64 R.e]) ∧ w = w') := fun w => by
            have h := point_any s (i + 3) w hs (by omega)
            rw [hnp.1, hnp.2.1] at h
            exact h
          have hk := hnp.2.2
          generalize (ptAt s.data.toList (i + 3) (digs 6 (s.data.toList.drop (i + 3)))).k = K at *
          clear hnp hR d2
          obtain ⟨r, k, e⟩ := R
          simp only at hk cP
          by_cases he : e = 0
          · subst he
            obtain ⟨hk1, n, hn, hv⟩ := hk rfl
            subst hn
            have cE := Lib.hid (fun w => enc_any n w hv)
            have e1 : oneText ⟨(n : Int), k, 0⟩ = ⟨(Lib.encodeRune (n : Int)).toArray⟩ := rfl
            have e2 : oneNext ⟨(n : Int), k, 0⟩ i = K := by rw [hk1]; rfl
            rw [e1, e2]
            clear hk hv hk1 e1 e2
            generalize (⟨(Lib.encodeRune (n : Int)).toArray⟩ : ByteArray) = X at *
            go_enter Tryz.func115, Tryz.ntmps115
            go_wp2_with fail
            refine (cP.out _).mono ?_; rintro e w' ⟨rfl, rfl⟩
            go_wp2_with fail
            refine (cE.out _).mono ?_; rintro e w1 ⟨rfl, q1⟩
            go_wp2_with fail
            go_ret3
            exact ⟨rfl, q1⟩
          · have e1 : oneText ⟨r, k, e⟩ = ⟨#[]⟩ := by unfold oneText; rw [if_neg he]
            have e2 : oneNext ⟨r, k, e⟩ i = 0 := by unfold oneNext; rw [if_neg he]
            rw [e1, e2]
            clear hk e1 e2
            go_enter Tryz.func115, Tryz.ntmps115
            go_wp2_with fail
            refine (cP.out _).mono ?_; rintro e w' ⟨rfl, rfl⟩
            go_wp2_with fail
            go_ret3
            exact ⟨rfl, Q.refl _⟩
        · rw [if_pos d2] at hR
          subst hR
          have g2 : ((s[i + 2].toNat : Int) != 123) = true := by rw [bne_iff_ne]; omega
          go_enter Tryz.func115, Tryz.ntmps115
          go_wp2_with fail
          go_ret3
          exact ⟨rfl, Q.refl _⟩
    · rw [if_neg c6] at hR
      subst hR
      have g6 : ((s[i + 1].toNat : Int) == 117) = false := beq_eq_false_iff_ne.2 (by omega)
      go_enter Tryz.func115, Tryz.ntmps115
      go_wp2_with fail
      go_ret3
      exact ⟨rfl, Q.refl _⟩

end Go.Proofs.YthekabflbpfjoaaGreatDoor.lit
