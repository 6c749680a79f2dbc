/- The reference's begins and matches. -/
import Derived.Test.YthekabflbpfjoaaGreatDoorAwwm
namespace Go.Proofs.YthekabflbpfjoaaGreatDoor.adr
open Go.RowKit
open Go.Proofs.YthekabflbpfjoaaGreatDoor

theorem refMatches_any (p k : K) (w : World) :
    Calls Tryz.prog 54 #[.agg #[.int .i64 p.kind, .int .i64 p.num, .string p.str], .agg #[.int .i64 k.kind, .int .i64 k.num, .string k.str]] w fun e w' => e = .returned (.bool ((p.kind == 0) || ((p.kind == k.kind) && (p.num == k.num) && (p.str.toList == k.str.toList)))) ∧ Q w w' := by
  obtain ⟨pk, pn, pt⟩ := p
  obtain ⟨kk, kn, kt⟩ := k
  simp only
  cases h : (pk == 0)
  all_goals
    cases h1 : (pk == kk)
    all_goals
      cases h2 : (pn == kn)
      all_goals
        cases h3 : (pt.toList == kt.toList)
        all_goals
          go_enter Tryz.func54, Tryz.ntmps54
          go_wp2_with fail
          go_ret
          exact ⟨rfl, (Q.alloc _ _).trans (Q.alloc _ _)⟩

theorem refBegins_any (s p : ByteArray) (w : World) :
    Calls Tryz.prog 68 #[.string s, .string p] w fun e w' => e = .returned (.bool (Lib.hasPrefix s.data.toList p.data.toList)) ∧ w = w' := by
  by_cases h : p.size ≤ s.size
  · have h1 : (p.size : Int) ≤ (s.size : Int) := by omega
    obtain ⟨X, hX⟩ : ∃ z, s.extract 0 p.size = z := ⟨_, rfl⟩
    have e : Lib.hasPrefix s.data.toList p.data.toList = (X.toList == p.toList) := by
      rw [← Lib.hasPrefix_raw, decide_eq_true h, Bool.true_and, hX]
    rw [e]
    clear e
    cases h2 : (X.toList == p.toList)
    all_goals
      go_enter Tryz.func68, Tryz.ntmps68
      go_wp2_with fail
      go_ret
      exact ⟨rfl, rfl⟩
  · have h1 : (s.size : Int) < (p.size : Int) := by omega
    have e : Lib.hasPrefix s.data.toList p.data.toList = false := by
      rw [← Lib.hasPrefix_raw, decide_eq_false h, Bool.false_and]
    rw [e]
    go_enter Tryz.func68, Tryz.ntmps68
    go_wp2_with fail
    go_ret
    exact ⟨rfl, rfl⟩

end Go.Proofs.YthekabflbpfjoaaGreatDoor.adr
