/- The reference's Identifier. -/
import Derived.Test.YthekabflbpfjoaaGreatDoorAwam
namespace Go.Proofs.YthekabflbpfjoaaGreatDoor.adr
open Go.RowKit
open Go.Proofs.YthekabflbpfjoaaGreatDoor

theorem refLetter_any (c : UInt8) (w : World) :
    Calls Tryz.prog 57 #[.int .u8 (c.toNat : Int)] w fun e w' => e = .returned (.bool (letter c || c == 95)) ∧ w = w' := by
  have hc := c.toNat_lt
  have c95 := beq_byte c 95
  have e95 : (((95 : UInt8).toNat : Nat) : Int) = 95 := rfl
  rw [e95] at c95
  cases h9 : (c == 95) with
  | true =>
    have : c.toNat = 95 := by rw [beq_iff_eq] at h9; rw [h9]; rfl
    have e : (letter c || true) = true := by simp
    rw [e]
    rw [h9] at c95
    have a' : ¬ 97 ≤ (c.toNat : Int) := by omega
    have d' : 65 ≤ (c.toNat : Int) := by omega
    have f' : ¬ (c.toNat : Int) ≤ 90 := by omega
    clear e this h9 e95
    go_enter Tryz.func57, Tryz.ntmps57
    go_wp2_with fail
    go_ret
    exact ⟨rfl, rfl⟩
  | false =>
    rw [h9] at c95
    rw [Bool.or_false]
    clear h9 e95
    by_cases a : 97 ≤ c.toNat
    · have a' : 97 ≤ (c.toNat : Int) := by omega
      by_cases b : c.toNat ≤ 122
      · have b' : (c.toNat : Int) ≤ 122 := by omega
        have e : letter c = true := by unfold letter; rw [decide_eq_true a, decide_eq_true b]; rfl
        rw [e]
        clear e a b
        go_enter Tryz.func57, Tryz.ntmps57
        go_wp2_with fail
        go_ret
        exact ⟨rfl, rfl⟩
      · have b' : ¬ (c.toNat : Int) ≤ 122 := by omega
        have d' : 65 ≤ (c.toNat : Int) := by omega
        have f' : ¬ (c.toNat : Int) ≤ 90 := by omega
        have e : letter c = false := by unfold letter; rw [decide_eq_false b, decide_eq_false (show ¬ c.toNat ≤ 90 by omega)]; simp
        rw [e]
        clear e a b
        go_enter Tryz.func57, Tryz.ntmps57
        go_wp2_with fail
        go_ret
        exact ⟨rfl, rfl⟩
    · have a' : ¬ 97 ≤ (c.toNat : Int) := by omega
      by_cases d : 65 ≤ c.toNat
      · have d' : 65 ≤ (c.toNat : Int) := by omega
        by_cases f : c.toNat ≤ 90
        · have f' : (c.toNat : Int) ≤ 90 := by omega
          have e : letter c = true := by unfold letter; rw [decide_eq_true d, decide_eq_true f]; simp
          rw [e]
          clear e a d f
          go_enter Tryz.func57, Tryz.ntmps57
          go_wp2_with fail
          go_ret
          exact ⟨rfl, rfl⟩
        · have f' : ¬ (c.toNat : Int) ≤ 90 := by omega
          have e : letter c = false := by unfold letter; rw [decide_eq_false a, decide_eq_false f]; simp
          rw [e]
          clear e a d f
          go_enter Tryz.func57, Tryz.ntmps57
          go_wp2_with fail
          go_ret
          exact ⟨rfl, rfl⟩
      · have d' : ¬ 65 ≤ (c.toNat : Int) := by omega
        have e : letter c = false := by unfold letter; rw [decide_eq_false a, decide_eq_false d]; simp
        rw [e]
        clear e a d
        go_enter Tryz.func57, Tryz.ntmps57
        go_wp2_with fail
        go_ret
        exact ⟨rfl, rfl⟩

theorem letter_digit (c : UInt8) : (letter c || c == 95) = true → txt.digit c = false := by
  intro h
  cases hd : txt.digit c with
  | false => rfl
  | true =>
    have := (txt.digit_iff c).1 hd
    unfold letter at h
    simp only [Bool.or_eq_true, Bool.and_eq_true, decide_eq_true_eq, beq_iff_eq] at h
    rcases h with (h | h) | h
    · omega
    · omega
    · subst h; simp at this
theorem idc_eq (c : UInt8) : idc c = ((letter c || c == 95) || txt.digit c) := by
  unfold idc
  cases letter c <;> cases txt.digit c <;> cases (c == 95) <;> rfl
/-- An identifier, as the reference asks. -/
theorem isId_first (l : List UInt8) (c : UInt8) (t : List UInt8) (hl : l = c :: t) (h : (letter c || c == 95) = false) : isId l = false := by
  cases hx : isId l with
  | false => rfl
  | true =>
    obtain ⟨_, _, h3, h4⟩ := (isId_iff l).1 hx
    subst hl
    rw [List.all_cons, Bool.and_eq_true, idc_eq, h, Bool.false_or] at h4
    rw [show (c :: t).getD 0 0 = c from rfl, h4.1] at h3
    cases h3

set_option maxHeartbeats 4000000 in
theorem refIdentifier_any (s : ByteArray) (w : World) (hs : s.size ≤ 1000000) :
    Calls Tryz.prog 28 #[.string s] w fun e w' => e = .returned (.bool (isId s.data.toList)) ∧ w = w' := by
  have hlen : s.data.toList.length = s.size := by simp
  by_cases h0 : s.size = 0
  · have hl : s.data.toList = [] := List.eq_nil_of_length_eq_zero (by omega)
    have he : s.toList.isEmpty = true := by rw [Lib.toList_data, hl]; rfl
    rw [hl, isId_nil]
    clear hl hlen
    go_enter Tryz.func28, Tryz.ntmps28
    go_wp2_with fail
    go_ret
    exact ⟨rfl, rfl⟩
  have hp : 0 < s.size := by omega
  have hne : s.data.toList ≠ [] := fun e => by rw [e] at hlen; simp at hlen; omega
  have he : s.toList.isEmpty = false := by rw [Lib.toList_data]; exact List.isEmpty_eq_false_iff.2 hne
  by_cases h1 : 64 < s.size
  · have h1' : 64 < (s.size : Int) := by omega
    have e : isId s.data.toList = false := by
      cases hx : isId s.data.toList with
      | false => rfl
      | true => have := ((isId_iff _).1 hx).2.1; omega
    rw [e]
    clear e hne hlen h1
    go_enter Tryz.func28, Tryz.ntmps28
    go_wp2_with fail
    go_ret
    exact ⟨rfl, rfl⟩
  have h1' : (s.size : Int) ≤ 64 := by omega
  have hcons : s.data.toList = s[0] :: s.data.toList.drop 1 := by
    have : s.data.toList.drop 0 = s[0] :: s.data.toList.drop 1 := by
      rw [List.drop_eq_getElem_cons (by simpa using hp)]
      rfl
    exact this
  have cL := Lib.hid (refLetter_any s[0])
  cases hL : (letter s[0] || s[0] == 95) with
  | false =>
    rw [isId_first _ _ _ hcons hL]
    rw [hL] at cL
    clear hcons hL hne hlen h1
    go_enter Tryz.func28, Tryz.ntmps28
    go_wp2_with fail
    refine (cL.out _).mono ?_; rintro e w' ⟨rfl, rfl⟩
    go_wp2_with fail
    go_ret
    exact ⟨rfl, rfl⟩
  | true =>
    rw [hL] at cL
    have hdig := letter_digit _ hL
    have hall : isId s.data.toList = s.data.toList.all idc := by
      rw [Bool.eq_iff_iff, isId_iff]
      constructor
      · exact fun h => h.2.2.2
      · exact fun h => ⟨hne, by omega, by rw [hd_at s hp]; exact hdig, h⟩
    rw [hall]
    obtain ⟨ANS, hANS⟩ : ∃ b, s.data.toList.all idc = b := ⟨_, rfl⟩
    rw [hANS]
    have H0 : Hid ((s.data.toList.drop 0).all idc = ANS) := Lib.hid hANS
    clear hANS hall hdig hL hcons hne hlen h1
    go_enter Tryz.func28, Tryz.ntmps28
    go_wp2_with fail
    refine (cL.out _).mono ?_; rintro e w' ⟨rfl, rfl⟩
    clear cL
    go_wp2_with fail
    go_loop [3] (fun i => ∃ k : Nat, k ≤ s.size ∧ i = .int .i64 k ∧ Hid ((s.data.toList.drop k).all idc = ANS)) (fun i => s.size - (intOf i).toNat)
    case atStart => exact ⟨0, Nat.zero_le _, rfl, H0⟩
    case round =>
      clear H0
      obtain ⟨k, hk, rfl, HK⟩ := hrel
      by_cases hlt : k < s.size
      · have e1 : s.data.toList.drop k = s[k] :: s.data.toList.drop (k + 1) := by
          rw [List.drop_eq_getElem_cons (by simpa using hlt)]
          rfl
        have hs1 := HK.out
        rw [e1, List.all_cons, idc_eq] at hs1
        have cK := Lib.hid (refLetter_any s[k])
        have hb := s[k].toNat_lt
        cases hA : (letter s[k] || s[k] == 95) with
        | true =>
          rw [hA] at cK hs1
          rw [Bool.true_or, Bool.true_and] at hs1
          have HS := Lib.hid hs1
          clear hs1 e1 HK hA
          go_wp2_with fail
          refine (cK.out _).mono ?_; rintro e w' ⟨rfl, rfl⟩
          go_wp2_with fail
          go_round
          case rel => exact ⟨k + 1, by omega, by go_num, HS⟩
          case measure => simp [intOf]; omega
        | false =>
          rw [hA] at cK hs1
          rw [Bool.false_or] at hs1
          by_cases d0 : s[k].toNat < 48
          · have d0' : (s[k].toNat : Int) < 48 := by omega
            have : txt.digit s[k] = false := by unfold txt.digit; rw [decide_eq_false (by omega)]; rfl
            rw [this, Bool.false_and] at hs1
            subst hs1
            clear this d0 e1 HK hA
            go_wp2_with fail
            refine (cK.out _).mono ?_; rintro e w' ⟨rfl, rfl⟩
            go_wp2_with fail
            go_ret
            exact ⟨rfl, rfl⟩
          have d0' : ¬ (s[k].toNat : Int) < 48 := by omega
          by_cases d1 : 57 < s[k].toNat
          · have d1' : 57 < (s[k].toNat : Int) := by omega
            have : txt.digit s[k] = false := by unfold txt.digit; rw [decide_eq_false (show ¬ s[k].toNat ≤ 57 by omega)]; simp
            rw [this, Bool.false_and] at hs1
            subst hs1
            clear this d0 d1 e1 HK hA
            go_wp2_with fail
            refine (cK.out _).mono ?_; rintro e w' ⟨rfl, rfl⟩
            go_wp2_with fail
            go_ret
            exact ⟨rfl, rfl⟩
          have d1' : ¬ 57 < (s[k].toNat : Int) := by omega
          have : txt.digit s[k] = true := (txt.digit_iff _).2 (by omega)
          rw [this, Bool.true_and] at hs1
          have HS := Lib.hid hs1
          clear hs1 this d0 d1 e1 HK hA
          go_wp2_with fail
          refine (cK.out _).mono ?_; rintro e w' ⟨rfl, rfl⟩
          go_wp2_with fail
          go_round
          case rel => exact ⟨k + 1, by omega, by go_num, HS⟩
          case measure => simp [intOf]; omega
      · obtain rfl : s.size = k := by omega
        have hs1 := HK.out
        rw [List.drop_of_length_le (by simp)] at hs1
        have : ANS = true := hs1.symm
        subst this
        clear HK hs1
        go_wp2_with fail
        go_ret
        exact ⟨rfl, rfl⟩

end Go.Proofs.YthekabflbpfjoaaGreatDoor.adr
