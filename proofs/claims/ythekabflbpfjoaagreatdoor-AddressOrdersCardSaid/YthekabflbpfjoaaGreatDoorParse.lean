/- Contracts of isNatural and Parse of package number. -/
import Derived.Test.YthekabflbpfjoaaGreatDoorNum
import Derived.Test.YthekabflbpfjoaaGreatDoorTxt
namespace Go.Proofs.YthekabflbpfjoaaGreatDoor.num
open Go.RowKit
open Go.Proofs.YthekabflbpfjoaaGreatDoor.txt

theorem toList_data (s : ByteArray) : s.toList = s.data.toList := ByteArray.toList_eq s
theorem empty_yes (s : ByteArray) (h : s.size = 0) : s.toList = [] := by rw [toList_data]; exact List.eq_nil_of_length_eq_zero (by simpa using h)
theorem empty_no (s : ByteArray) (h : 0 < s.size) : s.toList.isEmpty = false := by
  rw [toList_data]
  have : s.data.toList.length = s.size := by simp
  cases hl : s.data.toList with
  | nil => rw [hl] at this; simp at this; omega
  | cons => rfl

set_option maxHeartbeats 400000 in
theorem nat_empty (s : ByteArray) (w : World) (h : s.toList = []) :
    Calls Tryz.prog 127 #[.string s] w fun e w' => e = .returned (.bool false) ∧ w = w' := by
  have h' : s.toList.isEmpty = true := by rw [h]; rfl
  go_enter Tryz.func127, Tryz.ntmps127
  go_wp2
  go_ret
  exact ⟨rfl, rfl⟩

set_option maxHeartbeats 400000 in
theorem nat_zero (s : ByteArray) (w : World) (he : s.toList.isEmpty = false) (h1 : 1 < s.size) (hs : s.size ≤ maxLen) (h0 : ((s[0].toNat : Int) == 48) = true) :
    Calls Tryz.prog 127 #[.string s] w fun e w' => e = .returned (.bool false) ∧ w = w' := by
  unfold maxLen at hs
  go_enter Tryz.func127, Tryz.ntmps127
  go_wp2
  go_ret
  exact ⟨rfl, rfl⟩

def Digits (s : ByteArray) (k : Nat) : Prop := ∀ (j : Nat) (hj : j < s.size), j < k → 48 ≤ s[j].toNat ∧ s[j].toNat ≤ 57

theorem Digits.step {s : ByteArray} {k : Nat} (h : Digits s k) (hk : k < s.size) (c0 : 48 ≤ s[k].toNat) (c1 : s[k].toNat ≤ 57) : Digits s (k + 1) := by
  intro j hj hlt
  by_cases e : j = k
  · subst e; exact ⟨c0, c1⟩
  · exact h j hj (by omega)
theorem nat_no (s : ByteArray) (k : Nat) (hk : k < s.size) (h : s[k].toNat < 48 ∨ 57 < s[k].toNat) : natL s.data.toList = false := by
  refine natL_not _ k (by simpa using hk) ?_
  have e : (s.data.toList[k]'(by simpa using hk)) = s[k] := rfl
  rw [e]
  cases hd : digit s[k] with
  | false => rfl
  | true => have := (digit_iff _).1 hd; omega
theorem nat_yes (s : ByteArray) (h : 0 < s.size) (h0 : 1 < s.size → ∀ h : 0 < s.size, ((s[0].toNat : Int) == 48) = false) (hd : Digits s s.size) : natL s.data.toList = true := by
  refine natL_yes _ (by simpa using h) ?_ ?_
  · intro h1 he
    have h1' : 1 < s.size := by simpa using h1
    have e : (s.data.toList[0]'(by simpa using h)) = s[0] := rfl
    rw [e] at he
    have := h0 h1' h
    rw [he] at this
    exact absurd this (by decide)
  · intro k hk
    have hk' : k < s.size := by simpa using hk
    exact (digit_iff _).2 (hd k hk' hk')

set_option maxHeartbeats 1000000 in
theorem nat_loop (s : ByteArray) (w : World) (he : s.toList.isEmpty = false) (hs : s.size ≤ maxLen) (h0 : s.size ≤ 1 ∨ ∃ h : 0 < s.size, 1 < s.size ∧ ((s[0].toNat : Int) == 48) = false) (hy : Hid (Digits s s.size → natL s.data.toList = true)) (hno : Hid (∀ (k : Nat) (hk : k < s.size), s[k].toNat < 48 ∨ 57 < s[k].toNat → natL s.data.toList = false)) :
    Calls Tryz.prog 127 #[.string s] w fun e w' => e = .returned (.bool (natL s.data.toList)) ∧ w = w' := by
  unfold maxLen at hs
  generalize natL s.data.toList = z at *
  rcases h0 with h0 | ⟨hp, h1, h0⟩
  all_goals
    go_enter Tryz.func127, Tryz.ntmps127
    go_wp2
    go_loop [3] (fun i => ∃ k : Nat, k ≤ s.size ∧ i = .int .i64 k ∧ Digits s k) (fun i => s.size - (intOf i).toNat)
    case atStart => exact ⟨0, Nat.zero_le _, rfl, fun j hj hk => absurd hk (by omega)⟩
    case round =>
      obtain ⟨k, hk, rfl, hd⟩ := hrel
      have HD := Lib.hid hd
      clear hd
      by_cases hlt : k < s.size
      · by_cases c0 : s[k].toNat < 48
        · have hz := Lib.hid (hno.out k hlt (.inl c0))
          have c1 : (s[k].toNat : Int) < 48 := by omega
          go_wp2
          go_ret
          exact ⟨by rw [hz.out]; rfl, rfl⟩
        · by_cases c2 : 57 < s[k].toNat
          · have hz := Lib.hid (hno.out k hlt (.inr c2))
            have c1 : 48 ≤ (s[k].toNat : Int) := by omega
            have c3 : 57 < (s[k].toNat : Int) := by omega
            go_wp2
            go_ret
            exact ⟨by rw [hz.out]; rfl, rfl⟩
          · have c1 : 48 ≤ (s[k].toNat : Int) := by omega
            have c3 : (s[k].toNat : Int) ≤ 57 := by omega
            go_wp2
            go_round
            case rel => exact ⟨k + 1, by omega, by go_num, HD.out.step hlt (by omega) (by omega)⟩
            case measure => simp [intOf]; omega
      · have hz := Lib.hid (hy.out (by rw [show s.size = k by omega]; exact HD.out))
        go_wp2
        go_ret
        exact ⟨by rw [hz.out]; rfl, rfl⟩

theorem nat_any (s : ByteArray) (w : World) (hs : s.size ≤ maxLen) :
    Calls Tryz.prog 127 #[.string s] w fun e w' => e = .returned (.bool (natL s.data.toList)) ∧ w = w' := by
  by_cases h : s.size = 0
  · have e : natL s.data.toList = false := by
      rw [← toList_data, empty_yes s h]; rfl
    rw [e]
    exact nat_empty s w (empty_yes s h)
  · have hp : 0 < s.size := by omega
    by_cases h1 : 1 < s.size
    · cases h0 : ((s[0].toNat : Int) == 48) with
      | true =>
        have e : natL s.data.toList = false := by
          refine natL_zero _ (by simpa using h1) ?_
          have e' : (s.data.toList[0]'(by simpa using hp)) = s[0] := rfl
          rw [e']
          have := beq_iff_eq.1 h0
          exact UInt8.toNat_inj.1 (by show s[0].toNat = 48; omega)
        rw [e]
        exact nat_zero s w (empty_no s hp) h1 hs h0
      | false => exact nat_loop s w (empty_no s hp) hs (.inr ⟨hp, h1, h0⟩) (Lib.hid fun hd => nat_yes s hp (fun _ _ => h0) hd) (Lib.hid fun k hk hc => nat_no s k hk hc)
    · exact nat_loop s w (empty_no s hp) hs (.inl (by omega)) (Lib.hid fun hd => nat_yes s hp (fun h => absurd h h1) hd) (Lib.hid fun k hk hc => nat_no s k hk hc)

end Go.Proofs.YthekabflbpfjoaaGreatDoor.num
