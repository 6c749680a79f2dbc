/- Contracts of the reference's digits and Parse: the same results as package number's. -/
import Derived.Test.YthekabflbpfjoaaGreatDoorRnvm
namespace Go.Proofs.YthekabflbpfjoaaGreatDoor.num
open Go.RowKit
open Go.Proofs.YthekabflbpfjoaaGreatDoor.txt

set_option maxHeartbeats 1000000 in
theorem rdig_no (s : ByteArray) (w : World) (hs : s.size ≤ maxLen) (j : Nat) (hj : j < s.size) (hc : Hid (¬ Digits s (j + 1))) :
    Calls Tryz.prog 105 #[.string s] w fun e w' => e = .returned (.bool false) ∧ w = w' := by
  unfold maxLen at hs
  go_enter Tryz.func105, Tryz.ntmps105
  go_wp2
  go_loop [3] (fun i => ∃ k : Nat, k ≤ s.size ∧ i = .int .i64 k ∧ Digits s k) (fun i => s.size - (intOf i).toNat)
  case atStart => exact ⟨0, Nat.zero_le _, rfl, fun j hj hk => absurd hk (by omega)⟩
  case round =>
    obtain ⟨k, hk, rfl, hd⟩ := hrel
    have HD := Lib.hid hd
    clear hd
    have hkj : k ≤ j := by
      rcases Nat.lt_or_ge j k with h | h
      · exact absurd (fun i hi hl => HD.out i hi (by omega)) hc.out
      · exact h
    have hlt : k < s.size := by omega
    by_cases c0 : s[k].toNat < 48
    · have c1 : (s[k].toNat : Int) < 48 := by omega
      go_wp2
      go_ret
      exact ⟨rfl, rfl⟩
    · by_cases c2 : 57 < s[k].toNat
      · have c1 : 48 ≤ (s[k].toNat : Int) := by omega
        have c3 : 57 < (s[k].toNat : Int) := by omega
        go_wp2
        go_ret
        exact ⟨rfl, rfl⟩
      · have c1 : 48 ≤ (s[k].toNat : Int) := by omega
        have c3 : (s[k].toNat : Int) ≤ 57 := by omega
        go_wp2
        go_round
        case rel => exact ⟨k + 1, by omega, by go_num, HD.out.step hlt (by omega) (by omega)⟩
        case measure => simp [intOf]; omega

set_option maxHeartbeats 2000000 in
theorem rdig_yes (s : ByteArray) (z : Bool) (w : World) (hs : s.size ≤ maxLen) (hd : Hid (Digits s s.size))
    (hz : ((s.toList == [48]) = true ∧ z = true) ∨ ((s.toList == [48]) = false ∧ s.toList.isEmpty = true ∧ z = false) ∨ ((s.toList == [48]) = false ∧ s.toList.isEmpty = false ∧ ∃ h : 0 < s.size, ((s[0].toNat : Int) != 48) = z)) :
    Calls Tryz.prog 105 #[.string s] w fun e w' => e = .returned (.bool z) ∧ w = w' := by
  unfold maxLen at hs
  rcases hz with ⟨e1, rfl⟩ | ⟨e1, e2, rfl⟩ | ⟨e1, e2, hp, e3⟩
  all_goals
    go_enter Tryz.func105, Tryz.ntmps105
    go_wp2
    go_loop [3] (fun i => ∃ k : Nat, k ≤ s.size ∧ i = .int .i64 k) (fun i => s.size - (intOf i).toNat)
    case atStart => exact ⟨0, Nat.zero_le _, rfl⟩
    case round =>
      obtain ⟨k, hk, rfl⟩ := hrel
      by_cases hlt : k < s.size
      · have c1 : 48 ≤ (s[k].toNat : Int) := by have := hd.out k hlt hlt; omega
        have c3 : (s[k].toNat : Int) ≤ 57 := by have := hd.out k hlt hlt; omega
        go_wp2
        go_round
        case rel => exact ⟨k + 1, by omega, by go_num⟩
        case measure => simp [intOf]; omega
      · go_wp2
        go_ret
        exact ⟨rfl, rfl⟩

theorem rdig_any (s : ByteArray) (w : World) (hs : s.size ≤ maxLen) :
    Calls Tryz.prog 105 #[.string s] w fun e w' => e = .returned (.bool (natL s.data.toList)) ∧ w = w' := by
  by_cases hd : Digits s s.size
  · refine rdig_yes s _ w hs (Lib.hid hd) ?_
    by_cases h0 : s.size = 0
    · refine .inr (.inl ?_)
      have e := empty_yes s h0
      rw [← toList_data, e]
      exact ⟨rfl, rfl, rfl⟩
    · have hp : 0 < s.size := by omega
      cases e1 : (s.toList == [48]) with
      | true =>
        refine .inl ⟨rfl, ?_⟩
        have : s.toList = [48] := by simpa using e1
        rw [← toList_data, this]; rfl
      | false =>
        refine .inr (.inr ⟨rfl, empty_no s hp, hp, ?_⟩)
        show (!((s[0].toNat : Int) == 48)) = _
        cases e3 : ((s[0].toNat : Int) == 48) with
        | false =>
          rw [nat_yes s hp (fun _ _ => e3) hd]; rfl
        | true =>
          have e' : (s.data.toList[0]'(by simpa using hp)) = s[0] := rfl
          have e4 : s[0] = 48 := UInt8.toNat_inj.1 (by have := beq_iff_eq.1 e3; show s[0].toNat = 48; omega)
          have h1 : 1 < s.size := by
            rcases Nat.lt_or_ge 1 s.size with h | h
            · exact h
            · exfalso
              have hl : s.data.toList.length = 1 := by have : s.data.toList.length = s.size := by simp
                                                       omega
              have : s.toList = [48] := by
                rw [toList_data]
                apply List.ext_getElem (by simpa using hl)
                intro i hi _
                have hi0 : i = 0 := by omega
                subst hi0
                rw [e', e4]; rfl
              rw [this] at e1
              exact absurd e1 (by decide)
          rw [natL_zero _ (by simpa using h1) (by rw [e', e4])]; rfl
  · have hex : ∃ j, j < s.size ∧ ¬ Digits s (j + 1) := by
      apply Classical.byContradiction
      intro hno
      apply hd
      intro j hj hl
      apply Classical.byContradiction
      intro hb
      exact hno ⟨j, hj, fun h => hb (h j hj (by omega))⟩
    obtain ⟨j, hj, hc⟩ := hex
    have e : natL s.data.toList = false := by
      cases hx : natL s.data.toList with
      | false => rfl
      | true =>
        exfalso
        apply hc
        intro i hi _
        have := nat_bytes s hx i hi
        omega
    rw [e]
    exact rdig_no s w hs j hj (Lib.hid hc)

end Go.Proofs.YthekabflbpfjoaaGreatDoor.num
