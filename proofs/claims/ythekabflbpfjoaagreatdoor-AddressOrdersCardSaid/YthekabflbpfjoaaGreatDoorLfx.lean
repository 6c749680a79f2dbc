/- What the library's calls need of the world, what a call leaves of it, and the small functions of package strlit. -/
import Derived.Test.YthekabflbpfjoaaGreatDoorShelf
import Derived.Test.YthekabflbpfjoaaGreatDoorLit
import Derived.WalkKit
import Derived.WalkSpells
import Derived.WalkLawsBesides
import Derived.Handy
import Derived.Lib.Hide
import Derived.BigQuiet
import Derived.Deep.QuietTactic
namespace Go.Proofs.YthekabflbpfjoaaGreatDoor.lit
open Go.RowKit

/-- What a call does to the world at most: what was there is as it was. -/
def Q (w w' : World) : Prop := Below w.heap.size w w'
theorem Q.refl (w : World) : Q w w := Below.refl _ _
theorem Q.trans {a b c : World} (h : Q a b) (k : Q b c) : Q a c := Below.trans h (Below.mono k h.size)
theorem Q.drewN (w : World) (n : Nat) : Q w (w.drewN n) := ⟨rfl, rfl, rfl, by simp, fun _ _ => rfl⟩

/-- The tables and the variable of the library that are read. -/
structure Fx (w : World) : Prop where
  tabs : Lib.Utf8Tabs 1 2 w
  zeros : w.cell? ⟨5, 15, none⟩ = some (.int .u8 4)
  most : ∃ m, w.cell? ⟨0, 0, none⟩ = some (.int .i64 m)
  old : 6 ≤ w.heap.size
theorem fx_below {B : Nat} {w w' : World} (h : Below B w w') (hB : 6 ≤ B) (f : Fx w) : Fx w' := by
  refine ⟨⟨fun c hc => (h.cell (show 1 < B by omega)).trans (f.tabs.1 c hc), fun i hi => ⟨(h.cell (show 2 < B by omega)).trans (f.tabs.2 i hi).1, (h.cell (show 2 < B by omega)).trans (f.tabs.2 i hi).2⟩⟩, ?_, ?_, Nat.le_trans f.old h.size⟩
  · rw [Below.cell h (show 5 < B by omega)]; exact f.zeros
  · obtain ⟨m, hm⟩ := f.most
    exact ⟨m, by rw [Below.cell h (show 0 < B by omega)]; exact hm⟩
theorem Q.fx {w w' : World} (h : Q w w') (f : Fx w) : Fx w' := fx_below h f.old f

theorem control_yes (r : Int) (w : World) (h0 : 0 ≤ r) (h1 : r ≤ 1114111) (h : r < 32 ∨ r = 127) :
    Calls Tryz.prog 82 #[.int .i32 r] w fun e w' => e = .returned (.bool true) ∧ w = w' := by
  by_cases hr : r < 32
  · clear h
    go_enter Tryz.func82, Tryz.ntmps82
    go_wp2_with fail
    go_ret
    exact ⟨rfl, rfl⟩
  · obtain rfl : r = 127 := by omega
    clear h
    go_enter Tryz.func82, Tryz.ntmps82
    go_wp2_with fail
    go_ret
    exact ⟨rfl, rfl⟩
theorem control_no (r : Int) (w : World) (h0 : 32 ≤ r) (h1 : r ≤ 1114111) (h : ¬ r = 127) :
    Calls Tryz.prog 82 #[.int .i32 r] w fun e w' => e = .returned (.bool false) ∧ w = w' := by
  go_enter Tryz.func82, Tryz.ntmps82
  go_wp2_with fail
  go_ret
  refine ⟨?_, rfl⟩
  show Ending.returned (Value.bool (decide (r < 32) || r == 127)) = _
  rw [decide_eq_false (show ¬ r < 32 by omega), beq_eq_false_iff_ne.2 h]
  rfl

theorem isHex_iff (c : UInt8) : isHex c = true ↔ (48 ≤ c.toNat ∧ c.toNat ≤ 57) ∨ (97 ≤ c.toNat ∧ c.toNat ≤ 102) := by
  unfold isHex
  simp
theorem digit_any (c : UInt8) (w : World) :
    Calls Tryz.prog 140 #[.int .u8 (c.toNat : Int)] w fun e w' => e = .returned (.bool (isHex c)) ∧ w = w' := by
  have hc := c.toNat_lt
  by_cases h : isHex c = true
  · rw [h]
    have h' := (isHex_iff c).1 h
    clear h
    by_cases h1 : (c.toNat : Int) ≤ 57
    · have h0 : 48 ≤ (c.toNat : Int) := by omega
      clear h'
      go_enter Tryz.func140, Tryz.ntmps140
      go_wp2_with fail
      go_ret
      exact ⟨rfl, rfl⟩
    · have h0 : 48 ≤ (c.toNat : Int) := by omega
      have h2 : 97 ≤ (c.toNat : Int) := by omega
      have h3 : (c.toNat : Int) ≤ 102 := by omega
      clear h'
      go_enter Tryz.func140, Tryz.ntmps140
      go_wp2_with fail
      go_ret
      exact ⟨rfl, rfl⟩
  · have h' : ¬ ((48 ≤ c.toNat ∧ c.toNat ≤ 57) ∨ (97 ≤ c.toNat ∧ c.toNat ≤ 102)) := fun x => h ((isHex_iff c).2 x)
    rw [Bool.eq_false_iff.2 h]
    clear h
    by_cases h0 : 48 ≤ (c.toNat : Int)
    · have h1 : ¬ (c.toNat : Int) ≤ 57 := by omega
      by_cases h2 : 97 ≤ (c.toNat : Int)
      · have h3 : ¬ (c.toNat : Int) ≤ 102 := by omega
        clear h'
        go_enter Tryz.func140, Tryz.ntmps140
        go_wp2_with fail
        go_ret
        exact ⟨rfl, rfl⟩
      · clear h'
        go_enter Tryz.func140, Tryz.ntmps140
        go_wp2_with fail
        go_ret
        exact ⟨rfl, rfl⟩
    · have h2 : ¬ 97 ≤ (c.toNat : Int) := by omega
      clear h'
      go_enter Tryz.func140, Tryz.ntmps140
      go_wp2_with fail
      go_ret
      exact ⟨rfl, rfl⟩
theorem digit_value (c : UInt8) (w : World) (h : isHex c = true) :
    Calls Tryz.prog 141 #[.int .u8 (c.toNat : Int)] w fun e w' => e = .returned (.int .i32 (hexVal c)) ∧ w = w' := by
  have h' := (isHex_iff c).1 h
  clear h
  unfold hexVal
  by_cases h1 : (c.toNat : Int) ≤ 57
  · have h0 : 48 ≤ (c.toNat : Int) := by omega
    have e : ((if c.toNat ≤ 57 then c.toNat - 48 else c.toNat - 87 : Nat) : Int) = (c.toNat : Int) - 48 := by split <;> omega
    rw [e]
    clear h' e
    go_enter Tryz.func141, Tryz.ntmps141
    go_wp2_with fail
    go_ret
    exact ⟨rfl, rfl⟩
  · have h2 : 97 ≤ (c.toNat : Int) := by omega
    have h3 : (c.toNat : Int) ≤ 102 := by omega
    have e : ((if c.toNat ≤ 57 then c.toNat - 48 else c.toNat - 87 : Nat) : Int) = (c.toNat : Int) - 97 + 10 := by split <;> omega
    rw [e]
    clear h' e
    go_enter Tryz.func141, Tryz.ntmps141
    go_wp2_with fail
    go_ret
    exact ⟨rfl, rfl⟩

end Go.Proofs.YthekabflbpfjoaaGreatDoor.lit
