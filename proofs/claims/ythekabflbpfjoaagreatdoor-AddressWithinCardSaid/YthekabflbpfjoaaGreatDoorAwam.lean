/- Identifiers, Types and keys of package address: what the program's functions return for any argument. -/
import Derived.Test.YthekabflbpfjoaaGreatDoorApcm
import Derived.Test.YthekabflbpfjoaaGreatDoorLlenm
namespace Go.Proofs.YthekabflbpfjoaaGreatDoor.adr
open Go.RowKit
open Go.Proofs.YthekabflbpfjoaaGreatDoor

/-- What a call does to the world at most: what was there is as it was. -/
def Q (w w' : World) : Prop := Below w.heap.size w w'
theorem Q.refl (w : World) : Q w w := Below.refl _ _
theorem Q.trans {a b c : World} (h : Q a b) (k : Q b c) : Q a c := Below.trans h (Below.mono k h.size)
theorem Q.drewN (w : World) (n : Nat) : Q w (w.drewN n) := ⟨rfl, rfl, rfl, by simp, fun _ _ => rfl⟩
theorem Q.alloc (w : World) (o : Obj) : Q w (w.alloc o) := (Below.refl _ _).alloc (Nat.le_refl _) o
/-- The tables of the library that are read. -/
structure Fa (w : World) : Prop where
  tab : num.Tab w
  fx : lit.Fx w
theorem Q.fa {w w' : World} (h : Q w w') (f : Fa w) : Fa w' := ⟨Joins.tab_stays (g := 3) (by kernel_rfl) f.tab h (Nat.le_refl _), lit.Q.fx h f.fx⟩

theorem letter_any (c : UInt8) (w : World) :
    Calls Tryz.prog 77 #[.int .u8 (c.toNat : Int)] w fun e w' => e = .returned (.bool (letter c)) ∧ w = w' := by
  have hc := c.toNat_lt
  by_cases a : 97 ≤ c.toNat
  · have a' : 97 ≤ (c.toNat : Int) := by omega
    by_cases b : c.toNat ≤ 122
    · have b' : (c.toNat : Int) ≤ 122 := by omega
      have e : letter c = true := by unfold letter; rw [decide_eq_true a, decide_eq_true b]; rfl
      rw [e]
      clear e a b
      go_enter Tryz.func77, Tryz.ntmps77
      go_wp2_with fail
      go_ret
      exact ⟨rfl, rfl⟩
    · have b' : ¬ (c.toNat : Int) ≤ 122 := by omega
      have d' : 65 ≤ (c.toNat : Int) := by omega
      have f' : ¬ (c.toNat : Int) ≤ 90 := by omega
      have e : letter c = false := by unfold letter; rw [decide_eq_false b, decide_eq_false (show ¬ c.toNat ≤ 90 by omega)]; simp
      rw [e]
      clear e a b
      go_enter Tryz.func77, Tryz.ntmps77
      go_wp2_with fail
      go_ret
      exact ⟨rfl, rfl⟩
  · have a' : ¬ 97 ≤ (c.toNat : Int) := by omega
    by_cases d : 65 ≤ c.toNat
    · have d' : 65 ≤ (c.toNat : Int) := by omega
      by_cases f : c.toNat ≤ 90
      · have f' : (c.toNat : Int) ≤ 90 := by omega
        have e : letter c = true := by unfold letter; rw [decide_eq_true d, decide_eq_true f]; simp
        rw [e]
        clear e a d f
        go_enter Tryz.func77, Tryz.ntmps77
        go_wp2_with fail
        go_ret
        exact ⟨rfl, rfl⟩
      · have f' : ¬ (c.toNat : Int) ≤ 90 := by omega
        have e : letter c = false := by unfold letter; rw [decide_eq_false a, decide_eq_false f]; simp
        rw [e]
        clear e a d f
        go_enter Tryz.func77, Tryz.ntmps77
        go_wp2_with fail
        go_ret
        exact ⟨rfl, rfl⟩
    · have d' : ¬ 65 ≤ (c.toNat : Int) := by omega
      have e : letter c = false := by unfold letter; rw [decide_eq_false a, decide_eq_false d]; simp
      rw [e]
      clear e a d
      go_enter Tryz.func77, Tryz.ntmps77
      go_wp2_with fail
      go_ret
      exact ⟨rfl, rfl⟩
theorem digit_any (c : UInt8) (w : World) :
    Calls Tryz.prog 55 #[.int .u8 (c.toNat : Int)] w fun e w' => e = .returned (.bool (txt.digit c)) ∧ w = w' := by
  have hc := c.toNat_lt
  by_cases a : 48 ≤ c.toNat
  · have a' : 48 ≤ (c.toNat : Int) := by omega
    by_cases b : c.toNat ≤ 57
    · have b' : (c.toNat : Int) ≤ 57 := by omega
      have e : txt.digit c = true := by unfold txt.digit; rw [decide_eq_true a, decide_eq_true b]; rfl
      rw [e]
      clear e a b
      go_enter Tryz.func55, Tryz.ntmps55
      go_wp2_with fail
      go_ret
      exact ⟨rfl, rfl⟩
    · have b' : ¬ (c.toNat : Int) ≤ 57 := by omega
      have e : txt.digit c = false := by unfold txt.digit; rw [decide_eq_false b]; simp
      rw [e]
      clear e a b
      go_enter Tryz.func55, Tryz.ntmps55
      go_wp2_with fail
      go_ret
      exact ⟨rfl, rfl⟩
  · have a' : ¬ 48 ≤ (c.toNat : Int) := by omega
    have e : txt.digit c = false := by unfold txt.digit; rw [decide_eq_false a]; simp
    rw [e]
    clear e a
    go_enter Tryz.func55, Tryz.ntmps55
    go_wp2_with fail
    go_ret
    exact ⟨rfl, rfl⟩

theorem beq_byte (c d : UInt8) : ((c.toNat : Int) == (d.toNat : Int)) = (c == d) := by
  rw [Bool.eq_iff_iff, beq_iff_eq, beq_iff_eq]
  exact ⟨fun h => UInt8.toNat_inj.1 (by omega), fun h => by rw [h]⟩
/-- The first bytes of a text that may be part of an identifier, byte by byte. -/
theorem word_at (s : ByteArray) (k : Nat) (h : k < s.size) : word (s.data.toList.drop k) = if idc s[k] then s[k] :: word (s.data.toList.drop (k + 1)) else [] := by
  have e : s.data.toList.drop k = s[k] :: s.data.toList.drop (k + 1) := by
    rw [List.drop_eq_getElem_cons (by simpa using h)]
    rfl
  rw [e]
  unfold word
  rw [List.takeWhile_cons]

set_option maxHeartbeats 1000000 in
theorem nameLength_any (s : ByteArray) (w : World) (hs : s.size ≤ 1000000) :
    Calls Tryz.prog 56 #[.string s] w fun e w' => e = .returned (.int .i64 ((word s.data.toList).length : Int)) ∧ w = w' := by
  obtain ⟨ANS, hANS⟩ : ∃ n, (word s.data.toList).length = n := ⟨_, rfl⟩
  rw [hANS]
  have H0 := Lib.hid hANS
  clear hANS
  go_enter Tryz.func56, Tryz.ntmps56
  go_wp2_with fail
  go_loop [3] (fun i => ∃ k : Nat, k ≤ s.size ∧ i = .int .i64 k ∧ Hid (k + (word (s.data.toList.drop k)).length = ANS)) (fun i => s.size - (intOf i).toNat)
  case atStart => exact ⟨0, Nat.zero_le _, rfl, by show 0 + (word (s.data.toList.drop 0)).length = ANS; rw [Nat.zero_add]; exact H0.out⟩
  case round =>
    obtain ⟨k, hk, rfl, hw⟩ := hrel
    by_cases hlt : k < s.size
    · have hat := word_at s k hlt
      have cL := Lib.hid (letter_any s[k])
      have cD := Lib.hid (digit_any s[k])
      have c95 := beq_byte s[k] 95
      have e95 : (((95 : UInt8).toNat : Nat) : Int) = 95 := rfl
      rw [e95] at c95
      cases hL : letter s[k] with
      | true =>
        have hi : idc s[k] = true := by unfold idc; rw [hL]; rfl
        rw [hi, if_pos rfl] at hat
        have hw2 : Hid (k + 1 + (word (s.data.toList.drop (k + 1))).length = ANS) := by have := hw.out; rw [hat, List.length_cons] at this; show _ = _; omega
        rw [hL] at cL
        clear hat hi hL c95 e95 hw H0
        go_wp2_with fail
        refine (cL.out _).mono ?_; rintro e w' ⟨rfl, rfl⟩
        go_wp2_with fail
        go_round
        case rel => exact ⟨k + 1, by omega, by go_num, hw2⟩
        case measure => simp [intOf]; omega
      | false =>
        cases hD : txt.digit s[k] with
        | true =>
          have hi : idc s[k] = true := by unfold idc; rw [hD]; simp
          rw [hi, if_pos rfl] at hat
          have hw2 : Hid (k + 1 + (word (s.data.toList.drop (k + 1))).length = ANS) := by have := hw.out; rw [hat, List.length_cons] at this; show _ = _; omega
          rw [hL] at cL
          rw [hD] at cD
          clear hat hi hL hD c95 e95 hw H0
          go_wp2_with fail
          refine (cL.out _).mono ?_; rintro e w' ⟨rfl, rfl⟩
          go_wp2_with fail
          refine (cD.out _).mono ?_; rintro e w' ⟨rfl, rfl⟩
          go_wp2_with fail
          go_round
          case rel => exact ⟨k + 1, by omega, by go_num, hw2⟩
          case measure => simp [intOf]; omega
        | false =>
          cases h9 : (s[k] == 95) with
          | true =>
            have hi : idc s[k] = true := by unfold idc; rw [h9]; simp
            rw [hi, if_pos rfl] at hat
            rw [h9] at c95
            have hw2 : Hid (k + 1 + (word (s.data.toList.drop (k + 1))).length = ANS) := by have := hw.out; rw [hat, List.length_cons] at this; show _ = _; omega
            rw [hL] at cL
            rw [hD] at cD
            clear hat hi hL hD h9 e95 hw H0
            go_wp2_with fail
            refine (cL.out _).mono ?_; rintro e w' ⟨rfl, rfl⟩
            go_wp2_with fail
            refine (cD.out _).mono ?_; rintro e w' ⟨rfl, rfl⟩
            go_wp2_with fail
            go_round
            case rel => exact ⟨k + 1, by omega, by go_num, hw2⟩
            case measure => simp [intOf]; omega
          | false =>
            have hi : idc s[k] = false := by unfold idc; rw [hL, hD, h9]; rfl
            rw [hi, if_neg (by decide)] at hat
            rw [h9] at c95
            have hw2 : ANS = k := by have := hw.out; rw [hat, List.length_nil] at this; omega
            subst hw2
            rw [hL] at cL
            rw [hD] at cD
            clear hat hi hL hD h9 e95 hw H0
            go_wp2_with fail
            refine (cL.out _).mono ?_; rintro e w' ⟨rfl, rfl⟩
            go_wp2_with fail
            refine (cD.out _).mono ?_; rintro e w' ⟨rfl, rfl⟩
            go_wp2_with fail
            go_ret
            exact ⟨rfl, rfl⟩
    · obtain rfl : s.size = k := by omega
      have hw2 : ANS = s.size := by
        have := hw.out
        rw [List.drop_of_length_le (by simp)] at this
        exact this.symm
      subst hw2
      clear hw H0
      go_wp2_with fail
      go_ret
      exact ⟨rfl, rfl⟩

theorem word_full (l : List UInt8) : (word l).length = l.length ↔ l.all idc = true := by
  unfold word
  constructor
  · intro h
    have h2 := takeWhile_split (p := idc) l
    rw [h, List.drop_length, List.append_nil] at h2
    rw [h2]
    exact takeWhile_all l
  · intro h
    have := takeWhile_app (b := []) h (fun c hc => by cases hc)
    rw [List.append_nil] at this
    rw [this]
theorem hd_at (s : ByteArray) (h : 0 < s.size) : s.data.toList.getD 0 0 = s[0] := by
  have : 0 < s.data.toList.length := by simpa using h
  rw [List.getD, List.getElem?_eq_getElem this]
  rfl

set_option maxHeartbeats 1000000 in
theorem identifier_any (s : ByteArray) (w : World) (hs : s.size ≤ 1000000) :
    Calls Tryz.prog 25 #[.string s] w fun e w' => e = .returned (.bool (isId s.data.toList)) ∧ w = w' := by
  have hlen : s.data.toList.length = s.size := by simp
  by_cases h0 : s.size = 0
  · have hl : s.data.toList = [] := List.eq_nil_of_length_eq_zero (by omega)
    have he : s.toList.isEmpty = true := by rw [Lib.toList_data, hl]; rfl
    rw [hl]
    have e : isId [] = false := rfl
    rw [e]
    clear hl hlen
    go_enter Tryz.func25, Tryz.ntmps25
    go_wp2_with fail
    go_ret
    exact ⟨rfl, rfl⟩
  · have hp : 0 < s.size := by omega
    have hne : s.data.toList ≠ [] := fun e => by rw [e] at hlen; simp at hlen; omega
    have he : s.toList.isEmpty = false := by rw [Lib.toList_data]; exact List.isEmpty_eq_false_iff.2 hne
    by_cases h1 : s.size ≤ 64
    · have h1' : (s.size : Int) ≤ 64 := by omega
      have cD := Lib.hid (digit_any s[0])
      cases hd : txt.digit s[0] with
      | true =>
        have e : isId s.data.toList = false := by
          cases hx : isId s.data.toList with
          | false => rfl
          | true => have := ((isId_iff _).1 hx).2.2.1; rw [hd_at s hp, hd] at this; cases this
        rw [e]
        rw [hd] at cD
        clear e hd hne hlen
        go_enter Tryz.func25, Tryz.ntmps25
        go_wp2_with fail
        refine (cD.out _).mono ?_; rintro e w' ⟨rfl, rfl⟩
        go_wp2_with fail
        go_ret
        exact ⟨rfl, rfl⟩
      | false =>
        have cN := Lib.hid (fun w => nameLength_any s w hs)
        have e : isId s.data.toList = (((word s.data.toList).length : Int) == (s.size : Int)) := by
          rw [Bool.eq_iff_iff, isId_iff, beq_iff_eq]
          constructor
          · intro h
            have := (word_full _).2 h.2.2.2
            omega
          · intro h
            exact ⟨hne, by omega, by rw [hd_at s hp]; exact hd, (word_full _).1 (by omega)⟩
        rw [e]
        generalize (word s.data.toList).length = m at *
        rw [hd] at cD
        clear e hd hne hlen
        go_enter Tryz.func25, Tryz.ntmps25
        go_wp2_with fail
        refine (cD.out _).mono ?_; rintro e w' ⟨rfl, rfl⟩
        go_wp2_with fail
        refine (cN.out _).mono ?_; rintro e w' ⟨rfl, rfl⟩
        go_wp2_with fail
        go_ret
        exact ⟨rfl, rfl⟩
    · have h1' : ¬ (s.size : Int) ≤ 64 := by omega
      have e : isId s.data.toList = false := by
        cases hx : isId s.data.toList with
        | false => rfl
        | true => have := ((isId_iff _).1 hx).2.1; omega
      rw [e]
      clear e hne hlen
      go_enter Tryz.func25, Tryz.ntmps25
      go_wp2_with fail
      go_ret
      exact ⟨rfl, rfl⟩

end Go.Proofs.YthekabflbpfjoaaGreatDoor.adr
