/- The laws NumberBack and NumberCanonical return true: every integer's text is read back, and a text that is read is the text of its number. -/
import Derived.Test.YtapnnoedlkoilaaDoorPars
import Derived.Test.YtapnnoedlkoilaaDoorDec
import Derived.Test.YtapnnoedlkoilaaDoorLaw
import Derived.Lib.ItoaLen
namespace Go.Proofs.YtapnnoedlkoilaaDoor.num
open Go.RowKit
open Go.Proofs.YtapnnoedlkoilaaDoor.txt

theorem cut_neg (d : List UInt8) : Lib.hasPrefix (45 :: d) [45] = true ∧ Lib.trimPrefix (45 :: d) [45] = d := by
  have h : Lib.hasPrefix (45 :: d) [45] = true := by simp [Lib.hasPrefix]
  exact ⟨h, by unfold Lib.trimPrefix; rw [if_pos h]; rfl⟩
theorem cut_pos (l : List UInt8) (h : l.head? ≠ some 45) : Lib.hasPrefix l [45] = false ∧ Lib.trimPrefix l [45] = l := by
  have h' : Lib.hasPrefix l [45] = false := by
    cases l with
    | nil => rfl
    | cons c t =>
      simp only [List.head?_cons, ne_eq, Option.some.injEq] at h
      simp only [Lib.hasPrefix, List.isPrefixOf, Bool.and_true]
      rw [beq_eq_false_iff_ne]
      exact fun e => h e.symm
  exact ⟨h', by unfold Lib.trimPrefix; rw [if_neg (by rw [h']; decide)]⟩
theorem cut_is (l : List UInt8) (h : Lib.hasPrefix l [45] = true) : l = 45 :: Lib.trimPrefix l [45] := by
  cases l with
  | nil => simp [Lib.hasPrefix] at h
  | cons c t =>
    have hc : (45 : UInt8) = c := by simpa [Lib.hasPrefix] using h
    subst hc
    rw [(cut_neg t).2]
theorem cut_not (l : List UInt8) (h : Lib.hasPrefix l [45] = false) : Lib.trimPrefix l [45] = l := by
  unfold Lib.trimPrefix; rw [if_neg (by rw [h]; decide)]

theorem dd_head45 (u : Nat) : (Lib.decDigits u).head? ≠ some 45 := by
  intro h
  have hm : (45 : UInt8) ∈ Lib.decDigits u := List.mem_of_head? h
  have := (digit_iff _).1 (dd_all u _ hm)
  simp at this

/-- What Parse returns for the text of a number. -/
theorem parse_itoa (n : Int) : (good n → pv (Lib.itoa n) = n ∧ pe (Lib.itoa n) = 0) ∧ (bad n → pv (Lib.itoa n) = 0 ∧ pe (Lib.itoa n) = 5) := by
  unfold Lib.itoa good bad
  by_cases hn : n < 0
  · rw [if_pos hn]
    obtain ⟨h1, h2⟩ := cut_neg (Lib.decDigits n.natAbs)
    unfold pv pe
    rw [h1, h2, dd_val]
    have h3 : ¬ (natL (Lib.decDigits n.natAbs) = false ∨ (true = true ∧ Lib.decDigits n.natAbs = [48])) := by
      rintro (h | ⟨_, h⟩)
      · rw [dd_nat] at h; cases h
      · exact dd_head n.natAbs (by omega) (by rw [h]; rfl)
    rw [if_neg h3, if_neg h3]
    refine ⟨fun h => ?_, fun h => ?_⟩
    · have hc : n.natAbs ≤ 9007199254740992 := by omega
      rw [if_pos hc, if_pos hc, if_pos rfl]; exact ⟨by omega, rfl⟩
    · have hc : ¬ n.natAbs ≤ 9007199254740992 := by omega
      rw [if_neg hc, if_neg hc]; exact ⟨rfl, rfl⟩
  · rw [if_neg hn]
    obtain ⟨h1, h2⟩ := cut_pos (Lib.decDigits n.toNat) (dd_head45 _)
    unfold pv pe
    rw [h1, h2, dd_val]
    have h3 : ¬ (natL (Lib.decDigits n.toNat) = false ∨ (false = true ∧ Lib.decDigits n.toNat = [48])) := by
      rintro (h | ⟨h, _⟩)
      · rw [dd_nat] at h; cases h
      · cases h
    rw [if_neg h3, if_neg h3]
    refine ⟨fun h => ?_, fun h => ?_⟩
    · have hc : n.toNat ≤ 9007199254740992 := by omega
      rw [if_pos hc, if_pos hc, if_neg (by decide)]; exact ⟨by omega, rfl⟩
    · have hc : ¬ n.toNat ≤ 9007199254740992 := by omega
      rw [if_neg hc, if_neg hc]; exact ⟨rfl, rfl⟩

/-- A text that Parse takes is the text of a valid number; else the number is 0 and the error one of two. -/
theorem parse_cases (l : List UInt8) : (pe l = 0 ∧ good (pv l) ∧ Lib.itoa (pv l) = l) ∨ (pe l = 2 ∧ pv l = 0) ∨ (pe l = 5 ∧ pv l = 0) := by
  unfold pv pe
  by_cases h : natL (Lib.trimPrefix l [45]) = false ∨ (Lib.hasPrefix l [45] = true ∧ Lib.trimPrefix l [45] = [48])
  · rw [if_pos h, if_pos h]; exact .inr (.inl ⟨rfl, rfl⟩)
  · rw [if_neg h, if_neg h]
    by_cases hv : val (Lib.trimPrefix l [45]) ≤ 9007199254740992
    · rw [if_pos hv, if_pos hv]
      refine .inl ⟨rfl, ?_⟩
      have hn : natL (Lib.trimPrefix l [45]) = true := by
        cases hx : natL (Lib.trimPrefix l [45]) with
        | true => rfl
        | false => exact absurd (.inl hx) h
      have hd := dd_of _ hn
      cases hp : Lib.hasPrefix l [45] with
      | true =>
        rw [if_pos rfl]
        have hz : val (Lib.trimPrefix l [45]) ≠ 0 := by
          intro e
          rw [e] at hd
          refine h (.inr ⟨hp, ?_⟩)
          rw [← hd, dd_small 0 (by omega)]; rfl
        refine ⟨⟨by omega, by omega⟩, ?_⟩
        unfold Lib.itoa
        rw [if_pos (by omega), show (-(val (Lib.trimPrefix l [45]) : Int)).natAbs = val (Lib.trimPrefix l [45]) by omega, hd]
        exact (cut_is l hp).symm
      | false =>
        rw [if_neg (by decide)]
        refine ⟨⟨by omega, by omega⟩, ?_⟩
        unfold Lib.itoa
        rw [if_neg (by omega), Int.toNat_natCast, hd]
        exact cut_not l hp
    · rw [if_neg hv, if_neg hv]; exact .inr (.inr ⟨rfl, rfl⟩)

theorem itoa_size (n : Int) (h0 : -9223372036854775808 ≤ n) (h1 : n ≤ 9223372036854775807) : (⟨(Lib.itoa n).toArray⟩ : ByteArray).size ≤ maxLen := by
  have e : (⟨(Lib.itoa n).toArray⟩ : ByteArray).size = (Lib.itoa n).length := by simp [ByteArray.size]
  have := Lib.itoa_length_le n h0 h1
  unfold maxLen
  omega

/-- Parse of the text of a number. -/
theorem parse_text (n x y : Int) (w : World) (h0 : -9223372036854775808 ≤ n) (h1 : n ≤ 9223372036854775807) (hx : pv (Lib.itoa n) = x) (hy : pe (Lib.itoa n) = y) :
    Calls Tryd.prog 21 #[.string ⟨(Lib.itoa n).toArray⟩] w fun e w' => e = .returned (.tuple #[.int .i64 x, .int .i64 y]) ∧ w = w' := by
  have h := parse_any ⟨(Lib.itoa n).toArray⟩ w (itoa_size n h0 h1)
  have e : (⟨(Lib.itoa n).toArray⟩ : ByteArray).data.toList = Lib.itoa n := by simp
  rw [e, hx, hy] at h
  exact h

set_option maxHeartbeats 1000000 in
theorem back_good (n : Int) (w : World) (ht : Tab w) (h : good n) : Calls Tryd.prog 5 #[.int .i64 n] w fun e w' => e = .returned (.bool true) ∧ Q w w' := by
  have HT := Lib.hid ht; clear ht
  obtain ⟨h0, h1⟩ := h
  have HP := Lib.hid ((parse_itoa n).1 ⟨h0, h1⟩)
  have HF := Lib.hid (format_any n w (by omega) (by omega) HT.out)
  go_enter Tryd.func5, Tryd.ntmps5
  go_wp2_with fail
  refine (HF.out).mono ?_; rintro e w1 ⟨rfl, q1⟩
  go_wp2_with fail
  refine (parse_text n n 0 _ (by omega) (by omega) HP.out.1 HP.out.2).mono ?_; rintro e w' ⟨rfl, rfl⟩
  go_wp2_with fail
  refine (valid_yes n _ h0 h1).mono ?_; rintro e w' ⟨rfl, rfl⟩
  go_wp2_with fail
  refine (awake_true _ ((show Q w w1 from q1).tab HT.out)).mono ?_; rintro e w2 ⟨rfl, q2⟩
  go_wp2_with fail
  go_ret
  exact ⟨rfl, (show Q w w1 from q1).trans q2⟩
set_option maxHeartbeats 1000000 in
theorem back_bad (n : Int) (w : World) (ht : Tab w) (hlo : -9223372036854775808 ≤ n) (hhi : n ≤ 9223372036854775807) (h : bad n) : Calls Tryd.prog 5 #[.int .i64 n] w fun e w' => e = .returned (.bool true) ∧ Q w w' := by
  have HT := Lib.hid ht; clear ht
  have HB := Lib.hid h
  have HP := Lib.hid ((parse_itoa n).2 h)
  have HF := Lib.hid (format_any n w hlo hhi HT.out)
  clear h
  go_enter Tryd.func5, Tryd.ntmps5
  go_wp2_with fail
  refine (HF.out).mono ?_; rintro e w1 ⟨rfl, q1⟩
  go_wp2_with fail
  refine (parse_text n 0 5 _ hlo hhi HP.out.1 HP.out.2).mono ?_; rintro e w' ⟨rfl, rfl⟩
  go_wp2_with fail
  refine (valid_no n _ HB.out).mono ?_; rintro e w' ⟨rfl, rfl⟩
  go_wp2_with fail
  refine (awake_true _ ((show Q w w1 from q1).tab HT.out)).mono ?_; rintro e w2 ⟨rfl, q2⟩
  go_wp2_with fail
  go_ret
  exact ⟨rfl, (show Q w w1 from q1).trans q2⟩
theorem back_walk (n : Int) (w : World) (h : -9223372036854775808 ≤ n ∧ n ≤ 9223372036854775807) (ht : Tab w) :
    Calls Tryd.prog 5 #[.int .i64 n] w fun e w' => e = .returned (.bool true) ∧ Below w.heap.size w w' := by
  by_cases hb : bad n
  · exact back_bad n w ht h.1 h.2 hb
  · exact back_good n w ht (not_bad hb)

set_option maxHeartbeats 1000000 in
theorem canon_long (s : ByteArray) (w : World) (hs : s.size ≤ maxLen) (ht : Tab w) (h : 300 < s.size) : Calls Tryd.prog 6 #[.string s] w fun e w' => e = .returned (.bool true) ∧ Q w w' := by
  have HT := Lib.hid ht; clear ht
  unfold maxLen at hs
  go_enter Tryd.func6, Tryd.ntmps6
  go_wp2_with fail
  refine (awake_true _ HT.out).mono ?_; rintro e w2 ⟨rfl, q2⟩
  go_wp2_with fail
  go_ret
  exact ⟨rfl, q2⟩
set_option maxHeartbeats 1000000 in
theorem canon_err (s : ByteArray) (k : Int) (w : World) (hs : s.size ≤ maxLen) (ht : Tab w) (h : s.size ≤ 300) (hk : k = 2 ∨ k = 5) (hp : pv s.data.toList = 0) (he : pe s.data.toList = k) : Calls Tryd.prog 6 #[.string s] w fun e w' => e = .returned (.bool true) ∧ Q w w' := by
  have HT := Lib.hid ht; clear ht
  have HP := parse_any s w hs
  rw [hp, he] at HP
  have HP := Lib.hid HP
  unfold maxLen at hs
  clear hp he
  rcases hk with rfl | rfl
  all_goals
    go_enter Tryd.func6, Tryd.ntmps6
    go_wp2_with fail
    refine (HP.out).mono ?_; rintro e w' ⟨rfl, rfl⟩
    go_wp2_with fail
    refine (awake_true _ HT.out).mono ?_; rintro e w2 ⟨rfl, q2⟩
    go_wp2_with fail
    go_ret
    exact ⟨rfl, q2⟩

set_option maxHeartbeats 1000000 in
theorem canon_ok (s : ByteArray) (n : Int) (w : World) (hs : s.size ≤ maxLen) (ht : Tab w) (h : s.size ≤ 300) (hn : good n) (hp : pv s.data.toList = n) (he : pe s.data.toList = 0) (hi : Lib.itoa n = s.data.toList) : Calls Tryd.prog 6 #[.string s] w fun e w' => e = .returned (.bool true) ∧ Q w w' := by
  have HT := Lib.hid ht; clear ht
  have HP := parse_any s w hs
  rw [hp, he] at HP
  have HP := Lib.hid HP
  obtain ⟨n0, n1⟩ := hn
  have HF := format_any n w (by omega) (by omega) HT.out
  rw [hi] at HF
  have HF := Lib.hid (show Calls Tryd.prog 25 #[.int .i64 n] w fun e w' => e = .returned (.string s) ∧ Below w.heap.size w w' from HF)
  unfold maxLen at hs
  clear hp he hi
  go_enter Tryd.func6, Tryd.ntmps6
  go_wp2_with fail
  refine (HP.out).mono ?_; rintro e w' ⟨rfl, rfl⟩
  go_wp2_with fail
  refine (valid_yes n _ n0 n1).mono ?_; rintro e w' ⟨rfl, rfl⟩
  go_wp2_with fail
  refine (HF.out).mono ?_; rintro e w1 ⟨rfl, q1⟩
  go_wp2_with fail
  refine (awake_true _ ((show Q w w1 from q1).tab HT.out)).mono ?_; rintro e w2 ⟨rfl, q2⟩
  go_wp2_with fail
  go_ret
  exact ⟨rfl, (show Q w w1 from q1).trans q2⟩
theorem canon_walk (s : ByteArray) (w : World) (hs : s.size ≤ maxLen) (ht : Tab w) :
    Calls Tryd.prog 6 #[.string s] w fun e w' => e = .returned (.bool true) ∧ Below w.heap.size w w' := by
  by_cases h : 300 < s.size
  · exact canon_long s w hs ht h
  · rcases parse_cases s.data.toList with ⟨h1, h2, h3⟩ | ⟨h1, h2⟩ | ⟨h1, h2⟩
    · exact canon_ok s _ w hs ht (by omega) h2 rfl h1 h3
    · exact canon_err s 2 w hs ht (by omega) (.inl rfl) h2 h1
    · exact canon_err s 5 w hs ht (by omega) (.inr rfl) h2 h1

end Go.Proofs.YtapnnoedlkoilaaDoor.num
