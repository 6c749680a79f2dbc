/- Unquote of package strlit: what it returns for any text. -/
import Derived.Test.YthekabflbpfjoaaGreatDoorLitm
import Derived.Lib.ValidAsc
namespace Go.Proofs.YthekabflbpfjoaaGreatDoor.lit
open Go.RowKit

theorem num_rune (l : List UInt8) (h : (num l).e = 0) : 0 ≤ (num l).r ∧ (num l).r ≤ 1114111 := by
  revert h
  unfold num
  split
  · intro h; cases h
  split
  · intro h; cases h
  unfold numAt
  split
  · intro h; cases h
  split
  · intro h; cases h
  rename_i h5
  intro _
  have hv : Lib.validRune (hval ((l.drop 3).take (digs 6 (l.drop 3)))) = true := by
    cases hx : Lib.validRune (hval ((l.drop 3).take (digs 6 (l.drop 3)))) with
    | true => rfl
    | false => exact absurd (.inr (.inr (.inr hx))) h5
  unfold Lib.validRune at hv
  rw [decide_eq_true_eq] at hv
  simp only
  omega
theorem esc_rune (l : List UInt8) (h : (esc l).e = 0) : 0 ≤ (esc l).r ∧ (esc l).r ≤ 1114111 := by
  have hb : bt l 1 < 256 := UInt8.toNat_lt _
  revert h
  unfold esc
  split
  · intro h; cases h
  repeat' split
  all_goals first
    | (intro _; simp only; omega)
    | (intro h; exact num_rune l h)
    | (intro h; cases h)
theorem item_rune (l : List UInt8) (h : (item l).e = 0) : 0 ≤ (item l).r ∧ (item l).r ≤ 1114111 := by
  have hr := Lib.decodeL_rune l
  revert h
  unfold item
  split
  · intro h; exact esc_rune l h
  split
  · intro h; cases h
  · intro _; simp only; omega
theorem encode_len (r : Int) : (Lib.encodeRune r).length ≤ 4 := by
  have := Lib.encodeRuneZ_length r
  unfold Lib.encodeRune
  rw [List.length_map]
  exact this.2

/-- utf8.AppendRune onto a row. -/
theorem rune_row (B : Nat) (v : Value) (l : List UInt8) (r : Int) (h0 : 0 ≤ r) (h1 : r ≤ 1114111) (w : World) (hown : Row B v l w) (hlim : l.length + 4 ≤ 140737488355328) (hB : B ≤ w.heap.size) :
    Calls Tryz.prog 126 #[v, .int .i32 r] w fun e w' => ∃ v', e = .returned v' ∧ Row B v' (l ++ Lib.encodeRune r) w' ∧ Below B w w' := by
  refine (Tryz.utf8_AppendRune_plain B v l.length (Lib.byteCells l) r (by omega) (by omega) w hown hlim hB).mono ?_
  rintro e w' ⟨v', rfl, hr, o, hg⟩
  refine ⟨v', rfl, ?_, ((Below.refl B w).alloc hB o).grown hg (by simp; omega) (fun k hk => (hown.lt k hk).1)⟩
  unfold Row
  rw [List.length_append, byteCells_app, Lib.byteCells_encodeRune, ← Lib.runeCells_length]
  exact hr

theorem drop_bt (s : ByteArray) (k j : Nat) : bt (s.data.toList.drop k) j = bt s.data.toList (k + j) := by
  unfold bt
  simp [List.getD, List.getElem?_drop]

set_option maxRecDepth 100000 in
set_option maxHeartbeats 4000000 in
theorem unquote_main (s : ByteArray) (w : World) (f : Fx w) (hs : s.size ≤ 1000000) (h1 : 1 ≤ s.size) (h0 : (s[0].toNat : Int) = 34) :
    Calls Tryz.prog 113 #[.string s] w fun e w' => e = .returned (.tuple #[.string ⟨(unqGo (s.data.toList.drop 1) 1 []).1.toArray⟩, .int .i64 (unqGo (s.data.toList.drop 1) 1 []).2.1, .int .i64 (unqGo (s.data.toList.drop 1) 1 []).2.2]) ∧ Q w w' := by
  have hz : (0 : Int) < (s.size : Int) := by omega
  have hne : s.toList.isEmpty = false := by
    rw [Lib.toList_data]
    cases h : s.data.toList with
    | nil => exact absurd (by rw [Lib.size_eq, h]; rfl) (show ¬ s.size = 0 by omega)
    | cons _ _ => rfl
  have hlen : s.data.toList.length = s.size := by simp
  have F := Lib.hid f
  have ho := Lib.hid f.old
  clear f
  obtain ⟨ANS, hANS⟩ : ∃ ANS, unqGo (s.data.toList.drop 1) 1 [] = ANS := ⟨_, rfl⟩
  rw [hANS]
  have H0 := Lib.hid hANS
  clear hANS
  go_enter Tryz.func113, Tryz.ntmps113
  go_wp2_with fail
  go_loopw [5, 6] (fun v i wr => ∃ (k : Nat) (acc : List UInt8), k ≤ s.size ∧ 1 ≤ k ∧ i = .int .i64 k ∧ acc.length ≤ 4 * k ∧ Hid (Row w.heap.size v acc wr) ∧ Hid (Below w.heap.size w wr) ∧ Hid (unqGo (s.data.toList.drop k) k acc = ANS)) (fun _ i _ => s.size - (intOf i).toNat)
  case atStart => exact ⟨1, [], h1, Nat.le_refl _, rfl, by simp, Lib.hid (Row.nil _ _), Lib.hid (Below.refl _ _), H0⟩
  case round =>
    obtain ⟨k, acc, hk, hk1, rfl, hal, hr, hb, hgo⟩ := hrel
    have hsz := Lib.hid hb.out.size
    obtain ⟨av, cv, rfl⟩ := hr.out.shape
    by_cases hlt : k < s.size
    · have hltz : (k : Int) < (s.size : Int) := by omega
      have hdne : s.data.toList.drop k ≠ [] := by
        intro h
        have := congrArg List.length h
        rw [List.length_drop, hlen, List.length_nil] at this
        omega
      have hbk : bt (s.data.toList.drop k) 0 = s[k].toNat := by rw [drop_bt, Nat.add_zero, bt_get s k hlt]
      by_cases hq : s[k].toNat = 34
      · have hqz : ((s[k].toNat : Int) != 34) = false := by rw [show (s[k].toNat : Int) = 34 by omega]; rfl
        have e := unqGo_quote (s.data.toList.drop k) k acc hdne (by rw [hbk]; exact hq)
        have e2 := e.symm.trans hgo.out
        have hkn : ¬ (k : Int) = (s.size : Int) := by omega
        by_cases hl : 4096 < acc.length
        · rw [if_pos hl] at e2
          subst e2
          have hlz : (4096 : Int) < (acc.length : Int) := by omega
          clear e hq hbk hdne hgo H0
          go_wp2_with fail
          go_ret3
          exact ⟨rfl, hb.out⟩
        · rw [if_neg hl] at e2
          subst e2
          have hlz : ¬ (4096 : Int) < (acc.length : Int) := by omega
          have ht := hr.out.text
          clear e hq hbk hdne hgo H0
          go_wp2_with fail
          go_ret3
          exact ⟨rfl, hb.out⟩
      · have hqz : ((s[k].toNat : Int) != 34) = true := by rw [bne_iff_ne]; omega
        have hnq : ¬ bt (s.data.toList.drop k) 0 = 34 := by rw [hbk]; exact hq
        have cI : Hid (∀ w, Fx w → Calls Tryz.prog 125 #[.string (s.extract k s.size)] w fun e w' => e = .returned (.tuple #[.int .i32 (item (s.data.toList.drop k)).r, .int .i64 (item (s.data.toList.drop k)).k, .int .i64 (item (s.data.toList.drop k)).e]) ∧ Q w w') := by
          intro w f
          have := item_any (s.extract k s.size) w f (by rw [Lib.ext_size]; omega) (by rw [Lib.ext_size]; omega)
          rw [Lib.ext_list] at this
          exact this
        have hsize := item_size (s.data.toList.drop k) hdne
        have hrune := item_rune (s.data.toList.drop k)
        have hbad := unqGo_bad (s.data.toList.drop k) k acc hdne hnq
        have hstep := unqGo_step (s.data.toList.drop k) k acc hdne hnq
        rw [List.length_drop, hlen] at hsize
        obtain ⟨r0, hr0⟩ : ∃ r, (item (s.data.toList.drop k)).r = r := ⟨_, rfl⟩
        obtain ⟨k0, hk0⟩ : ∃ r, (item (s.data.toList.drop k)).k = r := ⟨_, rfl⟩
        obtain ⟨e0, he0⟩ : ∃ r, (item (s.data.toList.drop k)).e = r := ⟨_, rfl⟩
        rw [he0, hk0] at hsize
        rw [he0, hr0] at hrune
        rw [he0] at hbad
        rw [he0, hk0, hr0] at hstep
        rw [hr0, hk0, he0] at cI
        by_cases hee : e0 = 0
        · subst hee
          have hsize2 := hsize rfl
          have hrune2 := hrune rfl
          have hstep2 := Lib.hid (hstep rfl)
          clear hsize hrune hstep
          have hrl := encode_len r0
          obtain ⟨n0, rfl⟩ : ∃ n : Nat, k0 = n := ⟨k0.toNat, by omega⟩
          clear hbad hr0 hk0 he0 hbk hq hnq hdne
          go_wp2_with fail
          refine (cI.out _ (Q.fx hb.out F.out)).mono ?_
          rintro e w2 ⟨rfl, q2⟩
          have hr2 := hr.out.stays q2
          have R2 := Lib.hid hr2
          have B2 := Lib.hid (hb.out.trans (Below.mono q2 hsz.out))
          clear cI
          generalize s.extract k s.size = D at *
          go_wp2_with fail
          refine (rune_row w.heap.size _ acc r0 hrune2.1 hrune2.2 w2 R2.out (by omega) B2.out.size).mono ?_
          rintro e w3 ⟨v3, rfl, hr3, hb3⟩
          have R3 := Lib.hid hr3
          have B3 := Lib.hid (B2.out.trans hb3)
          clear hr3 hb3 hr2
          go_wp2_with fail
          go_roundw
          case rel =>
            refine ⟨k + n0, acc ++ Lib.encodeRune r0, by omega, by omega, by go_num, by rw [List.length_append]; omega, R3, B3, ?_⟩
            have := hstep2.out.symm.trans hgo.out
            rw [Int.toNat_natCast, List.drop_drop] at this
            exact this
          case measure => simp [intOf]; omega
        · have e2 := (hbad hee).symm.trans hgo.out
          subst e2
          clear hstep hrune hsize hbad hr0 hk0 he0 hbk hq hnq hdne H0 hgo
          go_wp2_with fail
          refine (cI.out _ (Q.fx hb.out F.out)).mono ?_
          rintro e w2 ⟨rfl, q2⟩
          have B2 := Lib.hid (hb.out.trans (Below.mono q2 hsz.out))
          clear cI
          generalize s.extract k s.size = D at *
          go_wp2_with fail
          go_ret3
          exact ⟨rfl, B2.out⟩
    · obtain rfl : s.size = k := by omega
      have hnl : s.data.toList.drop s.size = [] := List.drop_of_length_le (by omega)
      have e : unqGo (s.data.toList.drop s.size) s.size acc = ([], 0, 40) := by rw [hnl]; exact unqGo_nil s.size acc
      have e2 := e.symm.trans hgo.out
      subst e2
      clear e hnl hgo H0
      go_wp2_with fail
      go_ret3
      exact ⟨rfl, hb.out⟩
/-- What Unquote returns, for any text. -/
theorem unquote_any (s : ByteArray) (w : World) (f : Fx w) (hs : s.size ≤ 1000000) :
    Calls Tryz.prog 113 #[.string s] w fun e w' => e = .returned (.tuple #[.string ⟨(unq s.data.toList).1.toArray⟩, .int .i64 (unq s.data.toList).2.1, .int .i64 (unq s.data.toList).2.2]) ∧ Q w w' := by
  unfold unq
  by_cases h : s.data.toList = []
  · rw [if_pos h]
    have hne : s.toList.isEmpty = true := by rw [Lib.toList_data, h]; rfl
    clear f
    go_enter Tryz.func113, Tryz.ntmps113
    go_wp2_with fail
    go_ret3
    exact ⟨rfl, Q.refl _⟩
  · rw [if_neg h]
    have h1 : 0 < s.size := by
      rw [Lib.size_eq]
      exact List.length_pos_iff.2 h
    rw [bt_get s 0 h1]
    by_cases h0 : s[0].toNat = 34
    · rw [if_neg (fun x => x h0)]
      exact unquote_main s w f hs h1 (by omega)
    · rw [if_pos h0]
      have hne : s.toList.isEmpty = false := by
        rw [Lib.toList_data]
        cases h' : s.data.toList with
        | nil => exact absurd h' h
        | cons _ _ => rfl
      have hz : (0 : Int) < (s.size : Int) := by omega
      have g : ((s[0].toNat : Int) != 34) = true := by rw [bne_iff_ne]; omega
      clear f h
      go_enter Tryz.func113, Tryz.ntmps113
      go_wp2_with fail
      go_ret3
      exact ⟨rfl, Q.refl _⟩

end Go.Proofs.YthekabflbpfjoaaGreatDoor.lit
