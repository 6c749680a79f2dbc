/- cmp.Or of numbers. -/
import Derived.Test.YthekabflbpfjoaaGreatDoorRcmp
namespace Go.Proofs.YthekabflbpfjoaaGreatDoor.adr
open Go.RowKit
open Go.Proofs.YthekabflbpfjoaaGreatDoor

def orL : List Int → Int
  | [] => 0
  | x :: t => if x = 0 then orL t else x
set_option maxHeartbeats 4000000 in
theorem or_any (b n c : Nat) (l : List Int) (w : World) (hn : n = l.length) (hl : n ≤ 100) (hc : ∀ (i : Nat) (h : i < l.length), w.cell? ⟨b, i, none⟩ = some (.int .i64 l[i])) :
    Calls Tryz.prog 43 #[.slice (some ⟨b, 0, none⟩) n c] w fun e w' => e = .returned (.int .i64 (orL l)) ∧ Q w w' := by
  have HC := Lib.hid hc
  have HN := Lib.hid hn
  obtain ⟨ANS, hA⟩ : ∃ z, orL l = z := ⟨_, rfl⟩
  rw [hA]
  have HA := Lib.hid hA
  clear hc hn hA
  go_enter Tryz.func43, Tryz.ntmps43
  go_wp2_with fail
  go_loop [5, 8] (fun _ i => ∃ k : Nat, k ≤ n ∧ i = .int .i64 k ∧ Hid (orL (l.drop k) = ANS)) (fun _ i => n - (intOf i).toNat)
  case atStart => exact ⟨0, Nat.zero_le _, rfl, HA⟩
  case round =>
    obtain ⟨k, hk, rfl, HS⟩ := hrel
    by_cases hlt : k < n
    · have hlt2 : k < l.length := by rw [← HN.out]; exact hlt
      have hc := HC.out k hlt2
      have hz := HS.out
      rw [List.drop_eq_getElem_cons hlt2] at hz
      clear HC HS
      generalize l[k] = x at *
      have hk100 : (k : Int) ≤ 100 := by omega
      have hlt' : (k : Int) < (n : Int) := by omega
      by_cases hx : x = 0
      · subst hx
        have HZ : Hid (orL (l.drop (k + 1)) = ANS) := Lib.hid (by rw [← hz]; rfl)
        clear hz
        go_wp2_with fail
        go_round
        case rel => exact ⟨k + 1, hlt, by go_num, HZ⟩
        case measure => simp [intOf]; omega
      · have hx' : (x == 0) = false := by simpa using hx
        have : x = ANS := by rw [← hz]; exact (if_neg hx).symm
        subst this
        clear hz hx
        go_wp2_with fail
        go_ret
        exact ⟨rfl, Q.refl _⟩
    · obtain rfl : n = k := by omega
      have hz := HS.out
      rw [List.drop_of_length_le (by rw [HN.out]; exact Nat.le_refl _)] at hz
      have : ANS = 0 := hz.symm
      subst this
      clear hz HS HC
      go_wp2_with fail
      go_ret
      exact ⟨rfl, Q.refl _⟩

end Go.Proofs.YthekabflbpfjoaaGreatDoor.adr
