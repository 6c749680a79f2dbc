/- Contract of Parse of package number: what it returns for every text. -/
import Derived.Test.YthekabflbpfjoaaGreatDoorParse
namespace Go.Proofs.YthekabflbpfjoaaGreatDoor.num
open Go.RowKit
open Go.Proofs.YthekabflbpfjoaaGreatDoor.txt

set_option maxHeartbeats 400000 in
theorem parse_no (s D : ByteArray) (neg : Bool) (w : World) (hs : D.size ≤ maxLen)
  (hcut : Hid (∀ w, Calls Tryz.prog 65 #[.string s, .string ⟨#[45]⟩] w fun e w' => e = .returned (.tuple #[.string D, .bool neg]) ∧ w = w'))
  (hn : natL D.data.toList = false) :
    Calls Tryz.prog 114 #[.string s] w fun e w' => e = .returned (.tuple #[.int .i64 0, .int .i64 2]) ∧ w = w' := by
  have HS := Lib.hid hs
  unfold maxLen at hs
  have HN := Lib.hid hn
  clear hn
  go_enter Tryz.func114, Tryz.ntmps114
  go_wp2_with fail
  refine (hcut.out _).mono ?_; rintro e w' ⟨rfl, rfl⟩
  go_wp2_with fail
  refine (nat_any D _ HS.out).mono ?_; rintro e w' ⟨rfl, rfl⟩
  rw [HN.out]
  go_wp2_with fail
  go_ret2
  exact ⟨rfl, rfl⟩

set_option maxHeartbeats 400000 in
theorem parse_minus (s D : ByteArray) (w : World) (hs : D.size ≤ maxLen)
  (hcut : Hid (∀ w, Calls Tryz.prog 65 #[.string s, .string ⟨#[45]⟩] w fun e w' => e = .returned (.tuple #[.string D, .bool true]) ∧ w = w'))
  (hn : natL D.data.toList = true) (hz : (D.toList == [48]) = true) :
    Calls Tryz.prog 114 #[.string s] w fun e w' => e = .returned (.tuple #[.int .i64 0, .int .i64 2]) ∧ w = w' := by
  have HS := Lib.hid hs
  unfold maxLen at hs
  have HN := Lib.hid hn
  clear hn
  go_enter Tryz.func114, Tryz.ntmps114
  go_wp2_with fail
  refine (hcut.out _).mono ?_; rintro e w' ⟨rfl, rfl⟩
  go_wp2_with fail
  refine (nat_any D _ HS.out).mono ?_; rintro e w' ⟨rfl, rfl⟩
  rw [HN.out]
  go_wp2_with fail
  go_ret2
  exact ⟨rfl, rfl⟩

/-- The value of the first k digits. -/
def upTo (D : ByteArray) (k : Nat) : Nat := val (D.data.toList.take k)
theorem upTo_zero (D : ByteArray) : upTo D 0 = 0 := rfl
theorem upTo_step (D : ByteArray) (k : Nat) (h : k < D.size) : upTo D (k + 1) = 10 * upTo D k + (D[k].toNat - 48) := by
  unfold upTo; rw [val_take _ k (by simpa using h)]; rfl
theorem upTo_le (D : ByteArray) (k m : Nat) (h : k ≤ m) : upTo D k ≤ upTo D m := val_mono _ _ _ h
theorem upTo_all (D : ByteArray) : upTo D D.size = val D.data.toList := by
  unfold upTo; rw [List.take_of_length_le (by simp)]
theorem nat_bytes (D : ByteArray) (h : natL D.data.toList = true) (k : Nat) (hk : k < D.size) : 48 ≤ (D[k].toNat : Int) ∧ (D[k].toNat : Int) ≤ 57 := by
  have := natL_digit _ h k (by simpa using hk)
  have e : (D.data.toList[k]'(by simpa using hk)) = D[k] := rfl
  rw [e] at this
  omega

set_option maxHeartbeats 2000000 in
theorem parse_loop (s D : ByteArray) (neg : Bool) (w : World) (hs : D.size ≤ maxLen)
  (hcut : Hid (∀ w, Calls Tryz.prog 65 #[.string s, .string ⟨#[45]⟩] w fun e w' => e = .returned (.tuple #[.string D, .bool neg]) ∧ w = w'))
  (hn : natL D.data.toList = true) (hz : neg = false ∨ (neg = true ∧ (D.toList == [48]) = false)) :
    Calls Tryz.prog 114 #[.string s] w fun e w' => e = .returned (if upTo D D.size ≤ 9007199254740992 then .tuple #[.int .i64 (if neg then -(upTo D D.size : Int) else (upTo D D.size : Int)), .int .i64 0] else .tuple #[.int .i64 0, .int .i64 5]) ∧ w = w' := by
  have HS := Lib.hid hs
  unfold maxLen at hs
  have HN := Lib.hid hn
  clear hn
  rcases hz with rfl | ⟨rfl, hz⟩
  all_goals
    go_enter Tryz.func114, Tryz.ntmps114
    go_wp2_with fail
    refine (hcut.out _).mono ?_; rintro e w' ⟨rfl, rfl⟩
    go_wp2_with fail
    refine (nat_any D _ HS.out).mono ?_; rintro e w' ⟨rfl, rfl⟩
    rw [HN.out]
    go_wp2_with fail
    go_loop [6, 7] (fun n i => ∃ k : Nat, k ≤ D.size ∧ i = .int .i64 k ∧ n = .int .i64 (upTo D k) ∧ upTo D k ≤ 9007199254740992) (fun _ i => D.size - (intOf i).toNat)
    case atStart => exact ⟨0, Nat.zero_le _, rfl, rfl, by rw [upTo_zero]; omega⟩
    case round =>
      obtain ⟨k, hk, rfl, rfl, hv⟩ := hrel
      by_cases hlt : k < D.size
      · obtain ⟨c0, c1⟩ := nat_bytes D HN.out k hlt
        have st := Lib.hid (upTo_step D k hlt)
        have mo := Lib.hid (upTo_le D (k + 1) D.size hlt)
        by_cases hb : upTo D (k + 1) ≤ 9007199254740992
        · have g0 : -9007199254740992 ≤ (10 * (upTo D k : Int) + ((D[k].toNat : Int) - 48)) := by omega
          have g1 : (10 * (upTo D k : Int) + ((D[k].toNat : Int) - 48)) ≤ 9007199254740992 := by have := st.out; omega
          have hb' := Lib.hid hb
          clear hb
          go_wp2_with (go_at_call 60; ((with_reducible refine (valid_yes _ _ ?_ ?_).mono ?_); omega; omega; rintro e w' ⟨rfl, rfl⟩))
          go_round
          case rel => exact ⟨k + 1, by omega, by go_num, by rw [st.out]; congr 1; omega, hb'.out⟩
          case measure => simp [intOf]; omega
        · have hx : bad (10 * (upTo D k : Int) + ((D[k].toNat : Int) - 48)) := by have := st.out; unfold bad; omega
          have HX := Lib.hid hx
          have hfin := Lib.hid (show ¬ upTo D D.size ≤ 9007199254740992 by have := mo.out; omega)
          have hb' := Lib.hid hb
          clear hb hx
          go_wp2_with (go_at_call 60; ((with_reducible refine (valid_no _ _ HX.out).mono ?_); rintro e w' ⟨rfl, rfl⟩))
          go_ret2
          first | exact ⟨rfl, rfl⟩ | exact ⟨by rw [if_neg hfin.out]; rfl, rfl⟩
      · obtain rfl : D.size = k := by omega
        have hfin := Lib.hid hv
        go_wp2_with fail
        go_ret2
        first | exact ⟨rfl, rfl⟩ | exact ⟨by rw [if_pos hfin.out]; rfl, rfl⟩

/-- What Parse returns for a text: its number or 0, and the error. -/
def pv (l : List UInt8) : Int :=
  if natL (Lib.trimPrefix l [45]) = false ∨ (Lib.hasPrefix l [45] = true ∧ Lib.trimPrefix l [45] = [48]) then 0
  else if val (Lib.trimPrefix l [45]) ≤ 9007199254740992 then (if Lib.hasPrefix l [45] then -(val (Lib.trimPrefix l [45]) : Int) else (val (Lib.trimPrefix l [45]) : Int)) else 0
def pe (l : List UInt8) : Int :=
  if natL (Lib.trimPrefix l [45]) = false ∨ (Lib.hasPrefix l [45] = true ∧ Lib.trimPrefix l [45] = [48]) then 2
  else if val (Lib.trimPrefix l [45]) ≤ 9007199254740992 then 0 else 5

theorem trim_le (l p : List UInt8) : (Lib.trimPrefix l p).length ≤ l.length := by
  unfold Lib.trimPrefix; split
  · simp
  · exact Nat.le_refl _
theorem parse_any (s : ByteArray) (w : World) (hs : s.size ≤ maxLen) :
    Calls Tryz.prog 114 #[.string s] w fun e w' => e = .returned (.tuple #[.int .i64 (pv s.data.toList), .int .i64 (pe s.data.toList)]) ∧ w = w' := by
  have hcut : ∀ w, Calls Tryz.prog 65 #[.string s, .string ⟨#[45]⟩] w fun e w' => e = .returned (.tuple #[.string ⟨(Lib.trimPrefix s.data.toList [45]).toArray⟩, .bool (Lib.hasPrefix s.data.toList [45])]) ∧ w = w' := fun w =>
    (Tryz.strings_CutPrefix s ⟨#[45]⟩ w).mono fun _ _ ⟨he, hw⟩ => ⟨he, hw.symm⟩
  have hl : (⟨(Lib.trimPrefix s.data.toList [45]).toArray⟩ : ByteArray).size ≤ maxLen := by
    have := trim_le s.data.toList [45]
    have e : (⟨(Lib.trimPrefix s.data.toList [45]).toArray⟩ : ByteArray).size = (Lib.trimPrefix s.data.toList [45]).length := by simp [ByteArray.size]
    have e2 : s.data.toList.length = s.size := by simp
    omega
  have hd : (⟨(Lib.trimPrefix s.data.toList [45]).toArray⟩ : ByteArray).data.toList = Lib.trimPrefix s.data.toList [45] := by simp
  unfold pv pe
  generalize Lib.trimPrefix s.data.toList [45] = d at *
  generalize Lib.hasPrefix s.data.toList [45] = neg at *
  generalize hD : (⟨d.toArray⟩ : ByteArray) = D at *
  subst hd
  cases hn : natL D.data.toList with
  | false =>
    rw [if_pos (.inl rfl), if_pos (.inl rfl)]
    exact parse_no s D neg w hl (Lib.hid hcut) hn
  | true =>
    by_cases hz : neg = true ∧ D.data.toList = [48]
    · rw [if_pos (.inr hz), if_pos (.inr hz)]
      obtain ⟨rfl, hz⟩ := hz
      exact parse_minus s D w hl (Lib.hid hcut) hn (by rw [toList_data, hz]; rfl)
    · have hnot : ¬ (true = false ∨ (neg = true ∧ D.data.toList = [48])) := by
        rintro (h | h)
        · cases h
        · exact hz h
      rw [if_neg hnot, if_neg hnot]
      have hz' : neg = false ∨ (neg = true ∧ (D.toList == [48]) = false) := by
        cases neg with
        | false => exact .inl rfl
        | true =>
          refine .inr ⟨rfl, ?_⟩
          rw [toList_data]
          cases hq : (D.data.toList == [48]) with
          | false => rfl
          | true => exact absurd ⟨rfl, by simpa using hq⟩ hz
      refine (parse_loop s D neg w hl (Lib.hid hcut) hn hz').mono ?_
      rintro e w' ⟨he, hw⟩
      refine ⟨?_, hw⟩
      rw [he, upTo_all]
      by_cases hv : val D.data.toList ≤ 9007199254740992
      · rw [if_pos hv, if_pos hv, if_pos hv]
      · rw [if_neg hv, if_neg hv, if_neg hv]

end Go.Proofs.YthekabflbpfjoaaGreatDoor.num
