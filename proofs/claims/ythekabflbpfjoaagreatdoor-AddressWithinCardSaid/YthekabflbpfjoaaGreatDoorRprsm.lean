/- The reference's Parse returns the same results as package number's, for texts of at most 3000 bytes. -/
import Derived.Test.YthekabflbpfjoaaGreatDoorRdigm
import Derived.Test.YthekabflbpfjoaaGreatDoorRfmtm
import Derived.Lib.IndexBytes
namespace Go.Proofs.YthekabflbpfjoaaGreatDoor.num
open Go.RowKit
open Go.Proofs.YthekabflbpfjoaaGreatDoor.txt

theorem val_bound (l : List UInt8) (h : ∀ (k : Nat) (hk : k < l.length), l[k].toNat ≤ 57) (k : Nat) : val (l.take k) < 10 ^ k ∨ l.length < k := by
  induction k with
  | zero => exact .inl (by simp [val])
  | succ k ih =>
    by_cases hk : k < l.length
    · rcases ih with ih | ih
      · refine .inl ?_
        rw [val_take l k hk, Nat.pow_succ]
        have := h k hk
        omega
      · omega
    · exact .inr (by omega)
/-- A numeral of at most sixteen digits is worth less than 10^16. -/
theorem val_short (l : List UInt8) (hn : natL l = true) (h : l.length ≤ 16) : val l < 10000000000000000 := by
  have h1 := val_bound l (fun k hk => (natL_digit l hn k hk).2) l.length
  rw [List.take_length] at h1
  rcases h1 with h1 | h1
  · have : 10 ^ l.length ≤ 10 ^ 16 := Nat.pow_le_pow_right (by omega) h
    omega
  · omega
/-- A numeral of more than sixteen digits is out of range. -/
theorem val_long (l : List UInt8) (hn : natL l = true) (h : 16 < l.length) : ¬ val l ≤ 9007199254740992 := by
  have hh : l.head? ≠ some 48 := by
    have := natL_head l hn (by omega)
    cases l with
    | nil => simp at h
    | cons c t => simp only [List.head?_cons]; exact fun e => this (by simpa using e)
  have h1 := nat_pos l hn hh
  have : 10 ^ 16 ≤ 10 ^ (l.length - 1) := Nat.pow_le_pow_right (by omega) (by omega)
  omega

set_option maxRecDepth 100000 in
set_option maxHeartbeats 2000000 in
theorem rp_no (s : ByteArray) (w : World) (hs : s.size ≤ 3000) (hm : s.size ≤ 0 ∨ ∃ h : 0 < s.size, ((s[0].toNat : Int) == 45) = false)
  (hn : Hid (natL s.data.toList = false)) (hl : Hid (s.size ≤ maxLen)) :
    Calls Tryz.prog 90 #[.string s] w fun e w' => e = .returned (.tuple #[.int .i64 0, .int .i64 2]) ∧ w = w' := by
  rcases hm with hm | ⟨hp, hm⟩
  all_goals
    go_enter Tryz.func90, Tryz.ntmps90
    go_wp2_with fail
    refine (rdig_any s _ hl.out).mono ?_; rintro e w' ⟨rfl, rfl⟩
    rw [hn.out]
    go_wp2_with fail
    go_ret2
    exact ⟨rfl, rfl⟩

set_option maxRecDepth 100000 in
set_option maxHeartbeats 2000000 in
theorem rp_long (s : ByteArray) (w : World) (hs : s.size ≤ 3000) (hp : 0 < s.size) (hm : ((s[0].toNat : Int) == 45) = false)
  (hn : Hid (natL s.data.toList = true)) (hl : Hid (s.size ≤ maxLen)) (hi : 16 < s.size) :
    Calls Tryz.prog 90 #[.string s] w fun e w' => e = .returned (.tuple #[.int .i64 0, .int .i64 5]) ∧ w = w' := by
  go_enter Tryz.func90, Tryz.ntmps90
  go_wp2_with fail
  refine (rdig_any s _ hl.out).mono ?_; rintro e w' ⟨rfl, rfl⟩
  rw [hn.out]
  go_wp2_with fail
  go_ret2
  exact ⟨rfl, rfl⟩

set_option maxRecDepth 100000 in
set_option maxHeartbeats 2000000 in
theorem rp_fits (s : ByteArray) (w : World) (hs : s.size ≤ 3000) (hm : s.size ≤ 0 ∨ ∃ h : 0 < s.size, ((s[0].toNat : Int) == 45) = false)
  (v : Nat) (hvv : Hid (upTo s s.size = v)) (hn : Hid (natL s.data.toList = true)) (hl : Hid (s.size ≤ maxLen)) (hi : s.size ≤ 16) (hb : upTo s s.size < 10000000000000000) (hv : upTo s s.size ≤ 9007199254740992) :
    Calls Tryz.prog 90 #[.string s] w fun e w' => e = .returned (.tuple #[.int .i64 (v : Int), .int .i64 0]) ∧ w = w' := by
  rcases hm with hm | ⟨hp, hm⟩
  all_goals
    go_enter Tryz.func90, Tryz.ntmps90
    go_wp2_with fail
    refine (rdig_any s _ hl.out).mono ?_; rintro e w' ⟨rfl, rfl⟩
    rw [hn.out]
    go_wp2_with fail
    go_loop [6, 7] (fun n i => ∃ k : Nat, k ≤ s.size ∧ i = .int .i64 k ∧ n = .int .i64 (upTo s k)) (fun _ i => s.size - (intOf i).toNat)
    case atStart => exact ⟨0, Nat.zero_le _, rfl, rfl⟩
    case round =>
      obtain ⟨k, hk, rfl, rfl⟩ := hrel
      by_cases hlt : k < s.size
      · obtain ⟨c0, c1⟩ := nat_bytes s hn.out k hlt
        have st := Lib.hid (upTo_step s k hlt)
        have mo := upTo_le s (k + 1) s.size hlt
        have g0 : -10000000000000000 ≤ (10 * (upTo s k : Int) + ((s[k].toNat : Int) - 48)) := by omega
        have g1 : (10 * (upTo s k : Int) + ((s[k].toNat : Int) - 48)) ≤ 10000000000000000 := by have := st.out; omega
        have g2 : 10 * (upTo s k : Int) ≤ 10000000000000000 := by omega
        clear mo
        go_wp2
        go_round
        case rel => exact ⟨k + 1, by omega, by go_num, by rw [st.out]; congr 1; omega⟩
        case measure => simp [intOf]; omega
      · obtain rfl : s.size = k := by omega
        go_wp2_with fail
        refine (refnum.valid_yes _ _ (by omega) (by omega)).mono ?_; rintro e w' ⟨rfl, rfl⟩
        go_wp2_with fail
        go_ret2
        exact ⟨by rw [← hvv.out]; rfl, rfl⟩

set_option maxRecDepth 100000 in
set_option maxHeartbeats 2000000 in
theorem rp_over (s : ByteArray) (w : World) (hs : s.size ≤ 3000) (hm : s.size ≤ 0 ∨ ∃ h : 0 < s.size, ((s[0].toNat : Int) == 45) = false)
  (hn : Hid (natL s.data.toList = true)) (hl : Hid (s.size ≤ maxLen)) (hi : s.size ≤ 16) (hb : upTo s s.size < 10000000000000000) (hv : 9007199254740992 < upTo s s.size) :
    Calls Tryz.prog 90 #[.string s] w fun e w' => e = .returned (.tuple #[.int .i64 0, .int .i64 5]) ∧ w = w' := by
  rcases hm with hm | ⟨hp, hm⟩
  all_goals
    go_enter Tryz.func90, Tryz.ntmps90
    go_wp2_with fail
    refine (rdig_any s _ hl.out).mono ?_; rintro e w' ⟨rfl, rfl⟩
    rw [hn.out]
    go_wp2_with fail
    go_loop [6, 7] (fun n i => ∃ k : Nat, k ≤ s.size ∧ i = .int .i64 k ∧ n = .int .i64 (upTo s k)) (fun _ i => s.size - (intOf i).toNat)
    case atStart => exact ⟨0, Nat.zero_le _, rfl, rfl⟩
    case round =>
      obtain ⟨k, hk, rfl, rfl⟩ := hrel
      by_cases hlt : k < s.size
      · obtain ⟨c0, c1⟩ := nat_bytes s hn.out k hlt
        have st := Lib.hid (upTo_step s k hlt)
        have mo := upTo_le s (k + 1) s.size hlt
        have g0 : -10000000000000000 ≤ (10 * (upTo s k : Int) + ((s[k].toNat : Int) - 48)) := by omega
        have g1 : (10 * (upTo s k : Int) + ((s[k].toNat : Int) - 48)) ≤ 10000000000000000 := by have := st.out; omega
        have g2 : 10 * (upTo s k : Int) ≤ 10000000000000000 := by omega
        clear mo
        go_wp2
        go_round
        case rel => exact ⟨k + 1, by omega, by go_num, by rw [st.out]; congr 1; omega⟩
        case measure => simp [intOf]; omega
      · obtain rfl : s.size = k := by omega
        go_wp2_with fail
        refine (refnum.valid_no _ _ (by unfold bad; omega)).mono ?_; rintro e w' ⟨rfl, rfl⟩
        go_wp2_with fail
        go_ret2
        exact ⟨rfl, rfl⟩

set_option maxRecDepth 100000 in
set_option maxHeartbeats 2000000 in
theorem rn_no (s : ByteArray) (w : World) (hs : s.size ≤ 3000) (hp : 0 < s.size) (hm : ((s[0].toNat : Int) == 45) = true)
  (hn : Hid (natL (s.extract 1 s.size).data.toList = false)) (hl : Hid ((s.extract 1 s.size).size ≤ maxLen)) :
    Calls Tryz.prog 90 #[.string s] w fun e w' => e = .returned (.tuple #[.int .i64 0, .int .i64 2]) ∧ w = w' := by
  go_enter Tryz.func90, Tryz.ntmps90
  go_wp2_with fail
  generalize s.extract 1 s.size = D at *
  refine (rdig_any D _ hl.out).mono ?_; rintro e w' ⟨rfl, rfl⟩
  rw [hn.out]
  go_wp2_with fail
  go_ret2
  exact ⟨rfl, rfl⟩

set_option maxRecDepth 100000 in
set_option maxHeartbeats 2000000 in
theorem rn_zero (s : ByteArray) (w : World) (hs : s.size ≤ 3000) (hp : 0 < s.size) (hm : ((s[0].toNat : Int) == 45) = true)
  (hn : Hid (natL (s.extract 1 s.size).data.toList = true)) (hl : Hid ((s.extract 1 s.size).size ≤ maxLen)) (hz : ((s.extract 1 s.size).toList == [48]) = true) :
    Calls Tryz.prog 90 #[.string s] w fun e w' => e = .returned (.tuple #[.int .i64 0, .int .i64 2]) ∧ w = w' := by
  go_enter Tryz.func90, Tryz.ntmps90
  go_wp2_with fail
  generalize s.extract 1 s.size = D at *
  refine (rdig_any D _ hl.out).mono ?_; rintro e w' ⟨rfl, rfl⟩
  rw [hn.out]
  go_wp2_with fail
  go_ret2
  exact ⟨rfl, rfl⟩

set_option maxRecDepth 100000 in
set_option maxHeartbeats 2000000 in
theorem rn_long (s : ByteArray) (w : World) (hs : s.size ≤ 3000) (hp : 0 < s.size) (hm : ((s[0].toNat : Int) == 45) = true)
  (hn : Hid (natL (s.extract 1 s.size).data.toList = true)) (hl : Hid ((s.extract 1 s.size).size ≤ maxLen)) (hz : ((s.extract 1 s.size).toList == [48]) = false) (hi : 16 < (s.extract 1 s.size).size) (hj : (s.extract 1 s.size).size ≤ 3000) :
    Calls Tryz.prog 90 #[.string s] w fun e w' => e = .returned (.tuple #[.int .i64 0, .int .i64 5]) ∧ w = w' := by
  go_enter Tryz.func90, Tryz.ntmps90
  go_wp2_with fail
  generalize s.extract 1 s.size = D at *
  refine (rdig_any D _ hl.out).mono ?_; rintro e w' ⟨rfl, rfl⟩
  rw [hn.out]
  go_wp2_with fail
  go_ret2
  exact ⟨rfl, rfl⟩

set_option maxRecDepth 100000 in
set_option maxHeartbeats 2000000 in
theorem rn_fits (s : ByteArray) (w : World) (hs : s.size ≤ 3000) (hp : 0 < s.size) (hm : ((s[0].toNat : Int) == 45) = true)
  (v : Nat) (hvv : Hid (upTo (s.extract 1 s.size) (s.extract 1 s.size).size = v)) (hn : Hid (natL (s.extract 1 s.size).data.toList = true)) (hl : Hid ((s.extract 1 s.size).size ≤ maxLen)) (hz : ((s.extract 1 s.size).toList == [48]) = false) (hi : (s.extract 1 s.size).size ≤ 16) (hb : upTo (s.extract 1 s.size) (s.extract 1 s.size).size < 10000000000000000) (hv : upTo (s.extract 1 s.size) (s.extract 1 s.size).size ≤ 9007199254740992) :
    Calls Tryz.prog 90 #[.string s] w fun e w' => e = .returned (.tuple #[.int .i64 (-(v : Int)), .int .i64 0]) ∧ w = w' := by
  go_enter Tryz.func90, Tryz.ntmps90
  go_wp2_with fail
  generalize s.extract 1 s.size = D at *
  refine (rdig_any D _ hl.out).mono ?_; rintro e w' ⟨rfl, rfl⟩
  rw [hn.out]
  go_wp2_with fail
  go_loop [6, 7] (fun n i => ∃ k : Nat, k ≤ D.size ∧ i = .int .i64 k ∧ n = .int .i64 (upTo D k)) (fun _ i => D.size - (intOf i).toNat)
  case atStart => exact ⟨0, Nat.zero_le _, rfl, rfl⟩
  case round =>
    obtain ⟨k, hk, rfl, rfl⟩ := hrel
    by_cases hlt : k < D.size
    · obtain ⟨c0, c1⟩ := nat_bytes D hn.out k hlt
      have st := Lib.hid (upTo_step D k hlt)
      have mo := upTo_le D (k + 1) D.size hlt
      have g0 : -10000000000000000 ≤ (10 * (upTo D k : Int) + ((D[k].toNat : Int) - 48)) := by omega
      have g1 : (10 * (upTo D k : Int) + ((D[k].toNat : Int) - 48)) ≤ 10000000000000000 := by have := st.out; omega
      have g2 : 10 * (upTo D k : Int) ≤ 10000000000000000 := by omega
      clear mo
      go_wp2
      go_round
      case rel => exact ⟨k + 1, by omega, by go_num, by rw [st.out]; congr 1; omega⟩
      case measure => simp [intOf]; omega
    · obtain rfl : D.size = k := by omega
      go_wp2_with fail
      refine (refnum.valid_yes _ _ (by omega) (by omega)).mono ?_; rintro e w' ⟨rfl, rfl⟩
      go_wp2_with fail
      go_ret2
      exact ⟨by rw [← hvv.out]; rfl, rfl⟩

set_option maxRecDepth 100000 in
set_option maxHeartbeats 2000000 in
theorem rn_over (s : ByteArray) (w : World) (hs : s.size ≤ 3000) (hp : 0 < s.size) (hm : ((s[0].toNat : Int) == 45) = true)
  (hn : Hid (natL (s.extract 1 s.size).data.toList = true)) (hl : Hid ((s.extract 1 s.size).size ≤ maxLen)) (hz : ((s.extract 1 s.size).toList == [48]) = false) (hi : (s.extract 1 s.size).size ≤ 16) (hb : upTo (s.extract 1 s.size) (s.extract 1 s.size).size < 10000000000000000) (hv : 9007199254740992 < upTo (s.extract 1 s.size) (s.extract 1 s.size).size) :
    Calls Tryz.prog 90 #[.string s] w fun e w' => e = .returned (.tuple #[.int .i64 0, .int .i64 5]) ∧ w = w' := by
  go_enter Tryz.func90, Tryz.ntmps90
  go_wp2_with fail
  generalize s.extract 1 s.size = D at *
  refine (rdig_any D _ hl.out).mono ?_; rintro e w' ⟨rfl, rfl⟩
  rw [hn.out]
  go_wp2_with fail
  go_loop [6, 7] (fun n i => ∃ k : Nat, k ≤ D.size ∧ i = .int .i64 k ∧ n = .int .i64 (upTo D k)) (fun _ i => D.size - (intOf i).toNat)
  case atStart => exact ⟨0, Nat.zero_le _, rfl, rfl⟩
  case round =>
    obtain ⟨k, hk, rfl, rfl⟩ := hrel
    by_cases hlt : k < D.size
    · obtain ⟨c0, c1⟩ := nat_bytes D hn.out k hlt
      have st := Lib.hid (upTo_step D k hlt)
      have mo := upTo_le D (k + 1) D.size hlt
      have g0 : -10000000000000000 ≤ (10 * (upTo D k : Int) + ((D[k].toNat : Int) - 48)) := by omega
      have g1 : (10 * (upTo D k : Int) + ((D[k].toNat : Int) - 48)) ≤ 10000000000000000 := by have := st.out; omega
      have g2 : 10 * (upTo D k : Int) ≤ 10000000000000000 := by omega
      clear mo
      go_wp2
      go_round
      case rel => exact ⟨k + 1, by omega, by go_num, by rw [st.out]; congr 1; omega⟩
      case measure => simp [intOf]; omega
    · obtain rfl : D.size = k := by omega
      go_wp2_with fail
      refine (refnum.valid_no _ _ (by unfold bad; omega)).mono ?_; rintro e w' ⟨rfl, rfl⟩
      go_wp2_with fail
      go_ret2
      exact ⟨rfl, rfl⟩


theorem pref_iff (s : ByteArray) : (Lib.hasPrefix s.data.toList [45] = true ∧ ∃ h : 0 < s.size, ((s[0].toNat : Int) == 45) = true) ∨ (Lib.hasPrefix s.data.toList [45] = false ∧ (s.size ≤ 0 ∨ ∃ h : 0 < s.size, ((s[0].toNat : Int) == 45) = false)) := by
  by_cases hp : 0 < s.size
  · have e' : (s.data.toList[0]'(by simpa using hp)) = s[0] := rfl
    cases hc : ((s[0].toNat : Int) == 45) with
    | true =>
      refine .inl ⟨?_, hp, hc⟩
      have e4 : s[0] = 45 := UInt8.toNat_inj.1 (by have := beq_iff_eq.1 hc; show s[0].toNat = 45; omega)
      rw [e4] at e'
      cases hl : s.data.toList with
      | nil => simp [hl] at e'; have : s.data.toList.length = s.size := by simp
               rw [hl] at this; simp at this; omega
      | cons c t =>
        simp only [hl, List.getElem_cons_zero] at e'
        subst e'
        exact (cut_neg t).1
    | false =>
      refine .inr ⟨?_, .inr ⟨hp, hc⟩⟩
      refine (cut_pos _ ?_).1
      intro hh
      cases hl : s.data.toList with
      | nil => rw [hl] at hh; cases hh
      | cons c t =>
        rw [hl] at hh
        simp only [List.head?_cons, Option.some.injEq] at hh
        simp only [hl, List.getElem_cons_zero] at e'
        rw [← e', hh] at hc
        exact absurd hc (by decide)
  · refine .inr ⟨?_, .inl (by omega)⟩
    have : s.data.toList = [] := by rw [← toList_data]; exact empty_yes s (by omega)
    rw [this]; rfl

theorem rparse_any (s : ByteArray) (w : World) (hs : s.size ≤ 3000) :
    Calls Tryz.prog 90 #[.string s] w fun e w' => e = .returned (.tuple #[.int .i64 (pv s.data.toList), .int .i64 (pe s.data.toList)]) ∧ w = w' := by
  rcases pref_iff s with ⟨h1, hp, hm⟩ | ⟨h1, hm⟩
  · have hD : (s.extract 1 s.size).data.toList = Lib.trimPrefix s.data.toList [45] := by
      rw [Lib.extract_to_end]
      unfold Lib.trimPrefix
      rw [if_pos h1]; rfl
    have hlen : (s.extract 1 s.size).size ≤ s.size := by simp
    have hl : Hid ((s.extract 1 s.size).size ≤ maxLen) := Lib.hid (by unfold maxLen; omega)
    have hdl : (s.extract 1 s.size).data.toList.length = (s.extract 1 s.size).size := by simp
    unfold pv pe
    rw [h1, ← hD]
    cases hn : natL (s.extract 1 s.size).data.toList with
    | false =>
      rw [if_pos (.inl rfl), if_pos (.inl rfl)]
      exact rn_no s w hs hp hm (Lib.hid hn) hl
    | true =>
      cases hz : ((s.extract 1 s.size).toList == [48]) with
      | true =>
        have e : (s.extract 1 s.size).data.toList = [48] := by rw [← toList_data]; simpa using hz
        rw [if_pos (.inr ⟨rfl, e⟩), if_pos (.inr ⟨rfl, e⟩)]
        exact rn_zero s w hs hp hm (Lib.hid hn) hl hz
      | false =>
        have hnot : ¬ (true = false ∨ (true = true ∧ (s.extract 1 s.size).data.toList = [48])) := by
          rintro (h | ⟨_, h⟩)
          · cases h
          · rw [← toList_data] at h
            rw [h] at hz
            exact absurd hz (by decide)
        rw [if_neg hnot, if_neg hnot]
        by_cases hi : 16 < (s.extract 1 s.size).size
        · have hv := val_long _ hn (by rw [hdl]; exact hi)
          rw [if_neg hv, if_neg hv]
          exact rn_long s w hs hp hm (Lib.hid hn) hl hz hi (by omega)
        · have hb := val_short _ hn (by rw [hdl]; omega)
          rw [← upTo_all] at hb ⊢
          by_cases hv : upTo (s.extract 1 s.size) (s.extract 1 s.size).size ≤ 9007199254740992
          · rw [if_pos hv, if_pos hv, if_pos rfl]
            exact rn_fits s w hs hp hm _ (Lib.hid rfl) (Lib.hid hn) hl hz (by omega) hb hv
          · rw [if_neg hv, if_neg hv]
            exact rn_over s w hs hp hm (Lib.hid hn) hl hz (by omega) hb (by omega)
  · have hD : s.data.toList = Lib.trimPrefix s.data.toList [45] := (cut_not _ h1).symm
    have hl : Hid (s.size ≤ maxLen) := Lib.hid (by unfold maxLen; omega)
    have hdl : s.data.toList.length = s.size := by simp
    unfold pv pe
    rw [h1, ← hD]
    cases hn : natL s.data.toList with
    | false =>
      rw [if_pos (.inl rfl), if_pos (.inl rfl)]
      exact rp_no s w hs hm (Lib.hid hn) hl
    | true =>
      have hnot : ¬ (true = false ∨ (false = true ∧ s.data.toList = [48])) := by
        rintro (h | ⟨h, _⟩) <;> cases h
      rw [if_neg hnot, if_neg hnot]
      by_cases hi : 16 < s.size
      · have hv := val_long _ hn (by rw [hdl]; exact hi)
        rw [if_neg hv, if_neg hv]
        rcases hm with hm | ⟨hp, hm⟩
        · omega
        · exact rp_long s w hs hp hm (Lib.hid hn) hl hi
      · have hb := val_short _ hn (by rw [hdl]; omega)
        rw [← upTo_all] at hb ⊢
        by_cases hv : upTo s s.size ≤ 9007199254740992
        · rw [if_pos hv, if_pos hv, if_neg (by decide)]
          exact rp_fits s w hs hm _ (Lib.hid rfl) (Lib.hid hn) hl (by omega) hb hv
        · rw [if_neg hv, if_neg hv]
          exact rp_over s w hs hm (Lib.hid hn) hl (by omega) hb (by omega)

end Go.Proofs.YthekabflbpfjoaaGreatDoor.num
