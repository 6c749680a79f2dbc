/- The library's comparisons of numbers and strings; cmp.Or. -/
import Derived.Test.YtjmchjphdfbhiaaGreatDoorVfi
namespace Go.Proofs.YtjmchjphdfbhiaaGreatDoor.val
open Go.RowKit
theorem nanInt_any (a : Int) (w : World) :
    Calls Tryz.prog 120 #[.int .i64 a] w fun e w' => e = .returned (.bool false) ∧ w = w' := by
  go_enter Tryz.func120, Tryz.ntmps120
  go_wp2_with fail
  go_ret
  exact ⟨rfl, rfl⟩
theorem nanKind_any (a : Int) (w : World) :
    Calls Tryz.prog 119 #[.int .i64 a] w fun e w' => e = .returned (.bool false) ∧ w = w' := by
  go_enter Tryz.func119, Tryz.ntmps119
  go_wp2_with fail
  go_ret
  exact ⟨rfl, rfl⟩
theorem nanStr_any (a : ByteArray) (w : World) :
    Calls Tryz.prog 98 #[.string a] w fun e w' => e = .returned (.bool false) ∧ w = w' := by
  have h : (a.toList == a.toList) = true := by simp
  go_enter Tryz.func98, Tryz.ntmps98
  go_wp2_with fail
  go_ret
  exact ⟨rfl, rfl⟩
theorem cmpInt_any (a b : Int) (w : World) :
    Calls Tryz.prog 103 #[.int .i64 a, .int .i64 b] w fun e w' => e = .returned (.int .i64 (cI a b)) ∧ w = w' := by
  have cN := Lib.hid nanInt_any
  by_cases h : a < b
  · have e : cI a b = -1 := if_pos h
    rw [e]
    clear e
    go_enter Tryz.func103, Tryz.ntmps103
    go_wp2_with fail
    refine (cN.out _ _).mono ?_; rintro e w1 ⟨rfl, rfl⟩
    go_wp2_with fail
    refine (cN.out _ _).mono ?_; rintro e w1 ⟨rfl, rfl⟩
    go_wp2_with fail
    go_ret
    exact ⟨rfl, rfl⟩
  · by_cases h2 : b < a
    · have e : cI a b = 1 := by unfold cI; rw [if_neg h, if_pos h2]
      rw [e]
      clear e
      go_enter Tryz.func103, Tryz.ntmps103
      go_wp2_with fail
      refine (cN.out _ _).mono ?_; rintro e w1 ⟨rfl, rfl⟩
      go_wp2_with fail
      refine (cN.out _ _).mono ?_; rintro e w1 ⟨rfl, rfl⟩
      go_wp2_with fail
      go_ret
      exact ⟨rfl, rfl⟩
    · have e : cI a b = 0 := by unfold cI; rw [if_neg h, if_neg h2]
      rw [e]
      clear e
      go_enter Tryz.func103, Tryz.ntmps103
      go_wp2_with fail
      refine (cN.out _ _).mono ?_; rintro e w1 ⟨rfl, rfl⟩
      go_wp2_with fail
      refine (cN.out _ _).mono ?_; rintro e w1 ⟨rfl, rfl⟩
      go_wp2_with fail
      go_ret
      exact ⟨rfl, rfl⟩
theorem cmpKind_any (a b : Int) (w : World) :
    Calls Tryz.prog 102 #[.int .i64 a, .int .i64 b] w fun e w' => e = .returned (.int .i64 (cI a b)) ∧ w = w' := by
  have cN := Lib.hid nanKind_any
  by_cases h : a < b
  · have e : cI a b = -1 := if_pos h
    rw [e]
    clear e
    go_enter Tryz.func102, Tryz.ntmps102
    go_wp2_with fail
    refine (cN.out _ _).mono ?_; rintro e w1 ⟨rfl, rfl⟩
    go_wp2_with fail
    refine (cN.out _ _).mono ?_; rintro e w1 ⟨rfl, rfl⟩
    go_wp2_with fail
    go_ret
    exact ⟨rfl, rfl⟩
  · by_cases h2 : b < a
    · have e : cI a b = 1 := by unfold cI; rw [if_neg h, if_pos h2]
      rw [e]
      clear e
      go_enter Tryz.func102, Tryz.ntmps102
      go_wp2_with fail
      refine (cN.out _ _).mono ?_; rintro e w1 ⟨rfl, rfl⟩
      go_wp2_with fail
      refine (cN.out _ _).mono ?_; rintro e w1 ⟨rfl, rfl⟩
      go_wp2_with fail
      go_ret
      exact ⟨rfl, rfl⟩
    · have e : cI a b = 0 := by unfold cI; rw [if_neg h, if_neg h2]
      rw [e]
      clear e
      go_enter Tryz.func102, Tryz.ntmps102
      go_wp2_with fail
      refine (cN.out _ _).mono ?_; rintro e w1 ⟨rfl, rfl⟩
      go_wp2_with fail
      refine (cN.out _ _).mono ?_; rintro e w1 ⟨rfl, rfl⟩
      go_wp2_with fail
      go_ret
      exact ⟨rfl, rfl⟩
theorem cmpStr_any (a b : ByteArray) (w : World) :
    Calls Tryz.prog 101 #[.string a, .string b] w fun e w' => e = .returned (.int .i64 (cT a b)) ∧ w = w' := by
  have cN := Lib.hid nanStr_any
  have hl := tot_cT.low a b
  have e1 := less_cT' a b
  have e2 := same_cT a b
  rcases (show cT a b = -1 ∨ cT a b = 0 ∨ cT a b = 1 by omega) with h | h | h
  · rw [h] at e1 ⊢
    have e1' : Op.bytesLess a.toList b.toList = true := e1
    clear e1 e2 hl h
    go_enter Tryz.func101, Tryz.ntmps101
    go_wp2_with fail
    refine (cN.out _ _).mono ?_; rintro e w1 ⟨rfl, rfl⟩
    go_wp2_with fail
    refine (cN.out _ _).mono ?_; rintro e w1 ⟨rfl, rfl⟩
    go_wp2_with fail
    go_ret
    exact ⟨rfl, rfl⟩
  · rw [h] at e1 ⊢
    have e1' : Op.bytesLess a.toList b.toList = false := e1
    rw [h] at e2
    have e2' : (a.toList == b.toList) = true := e2
    clear e1 e2 hl h
    go_enter Tryz.func101, Tryz.ntmps101
    go_wp2_with fail
    refine (cN.out _ _).mono ?_; rintro e w1 ⟨rfl, rfl⟩
    go_wp2_with fail
    refine (cN.out _ _).mono ?_; rintro e w1 ⟨rfl, rfl⟩
    go_wp2_with fail
    go_ret
    exact ⟨rfl, rfl⟩
  · rw [h] at e1 ⊢
    have e1' : Op.bytesLess a.toList b.toList = false := e1
    rw [h] at e2
    have e2' : (a.toList == b.toList) = false := e2
    clear e1 e2 hl h
    go_enter Tryz.func101, Tryz.ntmps101
    go_wp2_with fail
    refine (cN.out _ _).mono ?_; rintro e w1 ⟨rfl, rfl⟩
    go_wp2_with fail
    refine (cN.out _ _).mono ?_; rintro e w1 ⟨rfl, rfl⟩
    go_wp2_with fail
    go_ret
    exact ⟨rfl, rfl⟩
set_option maxHeartbeats 4000000 in
theorem or_any (b n c : Nat) (l : List Int) (w : World) (hn : n = l.length) (hl : n ≤ 100) (hc : ∀ (i : Nat) (h : i < l.length), w.cell? ⟨b, i, none⟩ = some (.int .i64 l[i])) :
    Calls Tryz.prog 87 #[.slice (some ⟨b, 0, none⟩) n c] w fun e w' => e = .returned (.int .i64 (orL l)) ∧ Q w w' := by
  have HC := Lib.hid hc
  have HN := Lib.hid hn
  obtain ⟨ANS, hA⟩ : ∃ z, orL l = z := ⟨_, rfl⟩
  rw [hA]
  have HA := Lib.hid hA
  clear hc hn hA
  go_enter Tryz.func87, Tryz.ntmps87
  go_wp2_with fail
  go_loop [5, 8] (fun _ i => ∃ k : Nat, k ≤ n ∧ i = .int .i64 k ∧ Hid (orL (l.drop k) = ANS)) (fun _ i => n - (intOf i).toNat)
  case atStart => exact ⟨0, Nat.zero_le _, rfl, HA⟩
  case round =>
    obtain ⟨k, hk, rfl, HS⟩ := hrel
    by_cases hlt : k < n
    · have hlt2 : k < l.length := by rw [← HN.out]; exact hlt
      have hc := HC.out k hlt2
      have hz := HS.out
      rw [List.drop_eq_getElem_cons hlt2] at hz
      clear HC HS
      generalize l[k] = x at *
      have hk100 : (k : Int) ≤ 100 := by omega
      have hlt' : (k : Int) < (n : Int) := by omega
      by_cases hx : x = 0
      · subst hx
        have HZ : Hid (orL (l.drop (k + 1)) = ANS) := Lib.hid (by rw [← hz]; rfl)
        clear hz
        go_wp2_with fail
        go_round
        case rel => exact ⟨k + 1, hlt, by go_num, HZ⟩
        case measure => simp [intOf]; omega
      · have hx' : (x == 0) = false := by simpa using hx
        have : x = ANS := by rw [← hz]; exact (if_neg hx).symm
        subst this
        clear hz hx
        go_wp2_with fail
        go_ret
        exact ⟨rfl, Q.refl _⟩
    · obtain rfl : n = k := by omega
      have hz := HS.out
      rw [List.drop_of_length_le (by rw [HN.out]; exact Nat.le_refl _)] at hz
      have : ANS = 0 := hz.symm
      subst this
      clear hz HS HC
      go_wp2_with fail
      go_ret
      exact ⟨rfl, Q.refl _⟩


end Go.Proofs.YtjmchjphdfbhiaaGreatDoor.val
