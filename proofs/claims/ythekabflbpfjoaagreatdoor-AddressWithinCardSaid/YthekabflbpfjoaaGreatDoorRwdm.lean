/- The reference's word. -/
import Derived.Test.YthekabflbpfjoaaGreatDoorAvrm
import Derived.Test.YthekabflbpfjoaaGreatDoorAwwm
namespace Go.Proofs.YthekabflbpfjoaaGreatDoor.adr
open Go.RowKit
open Go.Proofs.YthekabflbpfjoaaGreatDoor

set_option maxHeartbeats 4000000 in
theorem refWord_x (s A B : ByteArray) (ANS : Nat) (w : World) (_hs : s.size ≤ 1000000) (HA : Hid ((word s.data.toList).length = ANS)) (eA : s.extract 0 ANS = A) (eB : s.extract ANS s.size = B) :
    Calls Tryz.prog 70 #[.string s] w fun e w' => e = .returned (.tuple #[.string A, .string B]) ∧ Q w w' := by
  have EA := Lib.hid eA
  have EB := Lib.hid eB
  clear eA eB
  go_enter Tryz.func70, Tryz.ntmps70
  go_wp2_with fail
  go_loop [4] (fun i => ∃ k : Nat, k ≤ s.size ∧ i = .int .i64 k ∧ Hid (k + (word (s.data.toList.drop k)).length = ANS)) (fun i => s.size - (intOf i).toNat)
  case atStart => exact ⟨0, Nat.zero_le _, rfl, Lib.hid (by show 0 + (word (s.data.toList.drop 0)).length = ANS; rw [Nat.zero_add]; exact HA.out)⟩
  case round =>
    clear HA
    obtain ⟨k, hk, rfl, hw⟩ := hrel
    by_cases hlt : k < s.size
    · have hat := word_at s k hlt
      have cL := Lib.hid (refLetter_any s[k])
      have hid := idc_eq s[k]
      cases hL : (letter s[k] || s[k] == 95) with
      | true =>
        rw [hL, Bool.true_or] at hid
        rw [hid, if_pos rfl] at hat
        have hw2 : Hid (k + 1 + (word (s.data.toList.drop (k + 1))).length = ANS) := by have := hw.out; rw [hat, List.length_cons] at this; show _ = _; omega
        rw [hL] at cL
        clear hat hid hL hw
        go_wp2_with fail
        refine (cL.out _).mono ?_; rintro e w' ⟨rfl, rfl⟩
        go_wp2_with fail
        go_round
        case rel => exact ⟨k + 1, by omega, by go_num, hw2⟩
        case measure => simp [intOf]; omega
      | false =>
        rw [hL, Bool.false_or] at hid
        rw [hL] at cL
        clear hL
        have hd := txt.digit_iff s[k]
        by_cases a : 48 ≤ s[k].toNat
        · have a' : 48 ≤ (s[k].toNat : Int) := by omega
          by_cases b : s[k].toNat ≤ 57
          · have b' : (s[k].toNat : Int) ≤ 57 := by omega
            rw [hid, if_pos (hd.2 ⟨a, b⟩)] at hat
            have hw2 : Hid (k + 1 + (word (s.data.toList.drop (k + 1))).length = ANS) := by have := hw.out; rw [hat, List.length_cons] at this; show _ = _; omega
            clear hat hid hw hd a b
            go_wp2_with fail
            refine (cL.out _).mono ?_; rintro e w' ⟨rfl, rfl⟩
            go_wp2_with fail
            go_round
            case rel => exact ⟨k + 1, by omega, by go_num, hw2⟩
            case measure => simp [intOf]; omega
          · have b' : ¬ (s[k].toNat : Int) ≤ 57 := by omega
            rw [hid, if_neg (fun h => b (hd.1 h).2)] at hat
            have hw2 : ANS = k := by have := hw.out; rw [hat, List.length_nil] at this; omega
            subst hw2
            have FA := EA.out
            have FB := EB.out
            clear hat hid hw hd a b EA EB
            go_wp2_with fail
            refine (cL.out _).mono ?_; rintro e w' ⟨rfl, rfl⟩
            go_wp2_with fail
            go_quiet (fail)
            go_wp2_with fail
            go_ret2
            exact ⟨rfl, Q.drewN _ _⟩
        · have a' : ¬ 48 ≤ (s[k].toNat : Int) := by omega
          rw [hid, if_neg (fun h => a (hd.1 h).1)] at hat
          have hw2 : ANS = k := by have := hw.out; rw [hat, List.length_nil] at this; omega
          subst hw2
          have FA := EA.out
          have FB := EB.out
          clear hat hid hw hd a EA EB
          go_wp2_with fail
          refine (cL.out _).mono ?_; rintro e w' ⟨rfl, rfl⟩
          go_wp2_with fail
          go_quiet (fail)
          go_wp2_with fail
          go_ret2
          exact ⟨rfl, Q.drewN _ _⟩
    · obtain rfl : s.size = k := by omega
      have hw2 : ANS = s.size := by
        have := hw.out
        rw [List.drop_of_length_le (by simp)] at this
        exact this.symm
      subst hw2
      have FA := EA.out
      obtain rfl : ByteArray.empty = B := by
        rw [← EB.out]
        apply ba_ext
        rw [ext_to]
        simp
      clear hw EA EB
      go_wp2_with fail
      go_quiet (fail)
      go_wp2_with fail
      go_ret2
      exact ⟨rfl, Q.drewN _ _⟩
theorem word_le (l : List UInt8) : (word l).length ≤ l.length := by
  have := congrArg List.length (takeWhile_split (p := idc) l)
  rw [List.length_append] at this
  have h2 : (l.takeWhile idc).length = (word l).length := rfl
  omega
theorem word_take (l : List UInt8) : l.take (word l).length = word l := by
  have := takeWhile_split (p := idc) l
  have h2 : l.takeWhile idc = word l := rfl
  rw [h2] at this
  generalize word l = x at *
  rw [this, List.take_left]
theorem refWord_any (s : ByteArray) (w : World) (hs : s.size ≤ 1000000) :
    Calls Tryz.prog 70 #[.string s] w fun e w' => e = .returned (.tuple #[.string ⟨(word s.data.toList).toArray⟩, .string ⟨(s.data.toList.drop (word s.data.toList).length).toArray⟩]) ∧ Q w w' :=
  refWord_x s _ _ _ w hs (Lib.hid rfl) (ba_ext (by rw [ext_of, ba_list, word_take])) (ba_ext (by rw [ext_to, ba_list]))

end Go.Proofs.YthekabflbpfjoaaGreatDoor.adr
