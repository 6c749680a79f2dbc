/- The reference's order, words, CompareKeys. -/
import Derived.Test.YthekabflbpfjoaaGreatDoorAwa
namespace Go.Proofs.YthekabflbpfjoaaGreatDoor.adr
open Go.RowKit
open Go.Proofs.YthekabflbpfjoaaGreatDoor

/-- Two numbers compared. -/
def cI (a b : Int) : Int := if a < b then -1 else if b < a then 1 else 0
theorem refOrder_any (a b : Int) (w : World) :
    Calls Tryz.prog 51 #[.int .i64 a, .int .i64 b] w fun e w' => e = .returned (.int .i64 (cI a b)) ∧ w = w' := by
  by_cases h : a < b
  · have e : cI a b = -1 := if_pos h
    rw [e]
    go_enter Tryz.func51, Tryz.ntmps51
    go_wp2_with fail
    go_ret
    exact ⟨rfl, rfl⟩
  · by_cases h2 : b < a
    · have e : cI a b = 1 := by unfold cI; rw [if_neg h, if_pos h2]
      rw [e]
      go_enter Tryz.func51, Tryz.ntmps51
      go_wp2_with fail
      go_ret
      exact ⟨rfl, rfl⟩
    · have e : cI a b = 0 := by unfold cI; rw [if_neg h, if_neg h2]
      rw [e]
      clear e
      go_enter Tryz.func51, Tryz.ntmps51
      go_wp2_with fail
      go_ret
      exact ⟨rfl, rfl⟩
/-- Two strings compared bytewise. -/
def cW (a b : ByteArray) : Int := if Op.bytesLess a.toList b.toList = true then -1 else if (a.toList == b.toList) = true then 0 else 1
theorem refWords_any (a b : ByteArray) (w : World) :
    Calls Tryz.prog 49 #[.string a, .string b] w fun e w' => e = .returned (.int .i64 (cW a b)) ∧ w = w' := by
  unfold cW
  cases h : Op.bytesLess a.toList b.toList with
  | true =>
    rw [if_pos rfl]
    go_enter Tryz.func49, Tryz.ntmps49
    go_wp2_with fail
    go_ret
    exact ⟨rfl, rfl⟩
  | false =>
    rw [if_neg (by decide)]
    cases h2 : (a.toList == b.toList) with
    | true =>
      rw [if_pos rfl]
      go_enter Tryz.func49, Tryz.ntmps49
      go_wp2_with fail
      go_ret
      exact ⟨rfl, rfl⟩
    | false =>
      rw [if_neg (by decide)]
      go_enter Tryz.func49, Tryz.ntmps49
      go_wp2_with fail
      go_ret
      exact ⟨rfl, rfl⟩
/-- Two keys compared. -/
def cKy (a b : K) : Int := if (a.kind == b.kind) = false then cI a.kind b.kind else if (a.num == b.num) = false then cI a.num b.num else cW a.str b.str
theorem refCompareKeys_any (a b : K) (w : World) :
    Calls Tryz.prog 50 #[.agg #[.int .i64 a.kind, .int .i64 a.num, .string a.str], .agg #[.int .i64 b.kind, .int .i64 b.num, .string b.str]] w fun e w' => e = .returned (.int .i64 (cKy a b)) ∧ Q w w' := by
  obtain ⟨ak, an, at'⟩ := a
  obtain ⟨bk, bn, bt⟩ := b
  unfold cKy
  simp only
  have c1 := Lib.hid (fun w' => refOrder_any ak bk w')
  have c2 := Lib.hid (fun w' => refOrder_any an bn w')
  have c3 := Lib.hid (fun w' => refWords_any at' bt w')
  cases h : (ak == bk) with
  | false =>
    rw [if_pos rfl]
    generalize cI ak bk = R at *
    clear c2 c3
    go_enter Tryz.func50, Tryz.ntmps50
    go_wp2_with fail
    refine (c1.out _).mono ?_; rintro e w' ⟨rfl, rfl⟩
    go_wp2_with fail
    go_ret
    exact ⟨rfl, (Q.alloc _ _).trans (Q.alloc _ _)⟩
  | true =>
    rw [if_neg (by decide)]
    cases h2 : (an == bn) with
    | false =>
      rw [if_pos rfl]
      generalize cI an bn = R at *
      clear c1 c3
      go_enter Tryz.func50, Tryz.ntmps50
      go_wp2_with fail
      refine (c2.out _).mono ?_; rintro e w' ⟨rfl, rfl⟩
      go_wp2_with fail
      go_ret
      exact ⟨rfl, (Q.alloc _ _).trans (Q.alloc _ _)⟩
    | true =>
      rw [if_neg (by decide)]
      generalize cW at' bt = R at *
      clear c1 c2
      go_enter Tryz.func50, Tryz.ntmps50
      go_wp2_with fail
      refine (c3.out _).mono ?_; rintro e w' ⟨rfl, rfl⟩
      go_wp2_with fail
      go_ret
      exact ⟨rfl, (Q.alloc _ _).trans (Q.alloc _ _)⟩

end Go.Proofs.YthekabflbpfjoaaGreatDoor.adr
