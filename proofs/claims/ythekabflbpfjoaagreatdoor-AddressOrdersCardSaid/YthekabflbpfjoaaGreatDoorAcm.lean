/- Compare: the library's comparisons of numbers, the comparison of bools. -/
import Derived.Test.YthekabflbpfjoaaGreatDoorRcmp
namespace Go.Proofs.YthekabflbpfjoaaGreatDoor.adr
open Go.RowKit
open Go.Proofs.YthekabflbpfjoaaGreatDoor

theorem nanInt_any (a : Int) (w : World) :
    Calls Tryz.prog 93 #[.int .i64 a] w fun e w' => e = .returned (.bool false) ∧ w = w' := by
  go_enter Tryz.func93, Tryz.ntmps93
  go_wp2_with fail
  go_ret
  exact ⟨rfl, rfl⟩
theorem cmpInt_any (a b : Int) (w : World) :
    Calls Tryz.prog 74 #[.int .i64 a, .int .i64 b] w fun e w' => e = .returned (.int .i64 (cI a b)) ∧ w = w' := by
  have cN := Lib.hid nanInt_any
  by_cases h : a < b
  · have e : cI a b = -1 := if_pos h
    rw [e]
    clear e
    go_enter Tryz.func74, Tryz.ntmps74
    go_wp2_with fail
    refine (cN.out _ _).mono ?_; rintro e w1 ⟨rfl, rfl⟩
    go_wp2_with fail
    refine (cN.out _ _).mono ?_; rintro e w1 ⟨rfl, rfl⟩
    go_wp2_with fail
    go_ret
    exact ⟨rfl, rfl⟩
  · by_cases h2 : b < a
    · have e : cI a b = 1 := by unfold cI; rw [if_neg h, if_pos h2]
      rw [e]
      clear e
      go_enter Tryz.func74, Tryz.ntmps74
      go_wp2_with fail
      refine (cN.out _ _).mono ?_; rintro e w1 ⟨rfl, rfl⟩
      go_wp2_with fail
      refine (cN.out _ _).mono ?_; rintro e w1 ⟨rfl, rfl⟩
      go_wp2_with fail
      go_ret
      exact ⟨rfl, rfl⟩
    · have e : cI a b = 0 := by unfold cI; rw [if_neg h, if_neg h2]
      rw [e]
      clear e
      go_enter Tryz.func74, Tryz.ntmps74
      go_wp2_with fail
      refine (cN.out _ _).mono ?_; rintro e w1 ⟨rfl, rfl⟩
      go_wp2_with fail
      refine (cN.out _ _).mono ?_; rintro e w1 ⟨rfl, rfl⟩
      go_wp2_with fail
      go_ret
      exact ⟨rfl, rfl⟩
theorem nanKind_any (a : Int) (w : World) :
    Calls Tryz.prog 92 #[.int .i64 a] w fun e w' => e = .returned (.bool false) ∧ w = w' := by
  go_enter Tryz.func92, Tryz.ntmps92
  go_wp2_with fail
  go_ret
  exact ⟨rfl, rfl⟩
theorem cmpKind_any (a b : Int) (w : World) :
    Calls Tryz.prog 73 #[.int .i64 a, .int .i64 b] w fun e w' => e = .returned (.int .i64 (cI a b)) ∧ w = w' := by
  have cN := Lib.hid nanKind_any
  by_cases h : a < b
  · have e : cI a b = -1 := if_pos h
    rw [e]
    clear e
    go_enter Tryz.func73, Tryz.ntmps73
    go_wp2_with fail
    refine (cN.out _ _).mono ?_; rintro e w1 ⟨rfl, rfl⟩
    go_wp2_with fail
    refine (cN.out _ _).mono ?_; rintro e w1 ⟨rfl, rfl⟩
    go_wp2_with fail
    go_ret
    exact ⟨rfl, rfl⟩
  · by_cases h2 : b < a
    · have e : cI a b = 1 := by unfold cI; rw [if_neg h, if_pos h2]
      rw [e]
      clear e
      go_enter Tryz.func73, Tryz.ntmps73
      go_wp2_with fail
      refine (cN.out _ _).mono ?_; rintro e w1 ⟨rfl, rfl⟩
      go_wp2_with fail
      refine (cN.out _ _).mono ?_; rintro e w1 ⟨rfl, rfl⟩
      go_wp2_with fail
      go_ret
      exact ⟨rfl, rfl⟩
    · have e : cI a b = 0 := by unfold cI; rw [if_neg h, if_neg h2]
      rw [e]
      clear e
      go_enter Tryz.func73, Tryz.ntmps73
      go_wp2_with fail
      refine (cN.out _ _).mono ?_; rintro e w1 ⟨rfl, rfl⟩
      go_wp2_with fail
      refine (cN.out _ _).mono ?_; rintro e w1 ⟨rfl, rfl⟩
      go_wp2_with fail
      go_ret
      exact ⟨rfl, rfl⟩
/-- Two bools compared, false first. -/
def cB (a b : Bool) : Int := if a == b then 0 else if b then -1 else 1
theorem compareBools_any (a b : Bool) (w : World) :
    Calls Tryz.prog 46 #[.bool a, .bool b] w fun e w' => e = .returned (.int .i64 (cB a b)) ∧ w = w' := by
  cases a
  all_goals
    cases b
    all_goals
      go_enter Tryz.func46, Tryz.ntmps46
      go_wp2_with fail
      go_ret
      exact ⟨rfl, rfl⟩

end Go.Proofs.YthekabflbpfjoaaGreatDoor.adr
