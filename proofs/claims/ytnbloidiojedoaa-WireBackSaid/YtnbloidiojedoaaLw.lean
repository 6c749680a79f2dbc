/- The statements' function few. -/
import Derived.Test.YtnbloidiojedoaaLi
namespace Go.Proofs.Ytnbloidiojedoaa.wir
open Go.RowKit

/-- What few tells. -/
def Few (n : Nat) (S : Nat → ByteArray) (B : Bool) : Prop := B = true → n ≤ 60 ∧ ∀ i, i < n → (S i).size ≤ 200

/-- How few ends. -/
def FewEnds (n : Nat) (S : Nat → ByteArray) (w : World) (e : Ending) (w' : World) : Prop := ∃ B, e = .returned (.bool B) ∧ Hid (Few n S B) ∧ w = w'

set_option maxRecDepth 100000 in
set_option maxHeartbeats 4000000 in
theorem few_any (A : Option Addr) (n c : Nat) (T : Nat → Bool) (N : Nat → Int) (S : Nat → ByteArray) (w : World) (hn : n ≤ maxLen) (hA : ItemArg A n T N S w) :
    Calls Try.prog 27 #[.slice A n c] w (FewEnds n S w) := by
  unfold maxLen at hn
  have HA := Lib.hid hA
  clear hA
  go_enter Try.func27, Try.ntmps27
  go_wp2_with fail
  go_loop [3] (fun i => ∃ k : Nat, k ≤ n ∧ k ≤ 60 ∧ i = .int .i64 k ∧ Hid (∀ i, i < k → (S i).size ≤ 200)) (fun i => n - (intOf i).toNat)
  case atStart => exact ⟨0, Nat.zero_le _, Nat.zero_le _, rfl, fun i hi => absurd hi (Nat.not_lt_zero i)⟩
  case round =>
    obtain ⟨k, hk, hk6, rfl, HS⟩ := hrel
    by_cases hlt : k < n
    · have f1 : (k : Int) < (n : Int) := by omega
      by_cases h60 : k < 60
      · have f2 : (k : Int) < 60 := by omega
        obtain ⟨b, o, rfl, hI⟩ := HA.out (by omega)
        obtain ⟨a0, a1, a2, _⟩ := hI.2 k hlt
        clear hI HA
        by_cases hs : 200 < (S k).size
        · have f3 : (200 : Int) < ((S k).size : Int) := by omega
          have HF : Hid (Few n S false) := fun h => by cases h
          clear HS hs hk hk6 hlt h60
          go_wp2_with fail
          go_ret
          exact ⟨_, rfl, HF, rfl⟩
        · have f3 : ¬ (200 : Int) < ((S k).size : Int) := by omega
          have HS1 : Hid (∀ i, i < k + 1 → (S i).size ≤ 200) := fun i hi => by
            by_cases h : i < k
            · exact HS.out i h
            · obtain rfl : i = k := by omega
              omega
          clear HS hs hk hk6
          go_wp2_with fail
          go_round
          case rel => exact ⟨k + 1, by omega, by omega, by go_num, HS1⟩
          case measure => simp [intOf]; omega
      · have f2 : ¬ (k : Int) < 60 := by omega
        have f3 : ¬ (n : Int) ≤ 60 := by omega
        have HF : Hid (Few n S false) := fun h => by cases h
        clear HS HA hk hk6 hlt h60
        go_wp2_with fail
        go_ret
        exact ⟨_, rfl, HF, rfl⟩
    · obtain rfl : k = n := by omega
      have f3 : (k : Int) ≤ 60 := by omega
      have HF : Hid (Few k S true) := fun _ => ⟨hk6, HS.out⟩
      clear HS HA hk hk6 hlt
      go_wp2_with fail
      go_ret
      exact ⟨_, rfl, HF, rfl⟩

end Go.Proofs.Ytnbloidiojedoaa.wir
