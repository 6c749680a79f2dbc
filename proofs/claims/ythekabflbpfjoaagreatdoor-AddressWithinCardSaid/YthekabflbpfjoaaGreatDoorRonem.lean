/- The reference's items and Unquote: what One and Unquote return. -/
import Derived.Test.YthekabflbpfjoaaGreatDoorRescm
namespace Go.Proofs.YthekabflbpfjoaaGreatDoor.lit
open Go.RowKit

theorem item_at (s : ByteArray) (i : Nat) (hi : i < s.size) (h92 : ¬ s[i].toNat = 92) :
    (item (s.data.toList.drop i) = if wid s i = 0 ∨ s[i].toNat < 32 ∨ s[i].toNat = 127 then ⟨0, 0, 2⟩ else ⟨((Lib.decodeL (s.data.toList.drop i)).1 : Int), (wid s i : Int), 0⟩) ∧
    (¬ wid s i = 0 → s.extract i (i + wid s i) = ⟨(Lib.encodeRune ((Lib.decodeL (s.data.toList.drop i)).1 : Int)).toArray⟩) := by
  have hne := drop_ne s i hi
  have hb0 : bt (s.data.toList.drop i) 0 = s[i].toNat := bt_drop s i 0 hi
  have hge := Lib.decodeL_width (s.data.toList.drop i)
  constructor
  · unfold item
    rw [hb0, if_neg h92]
    by_cases hlt : s[i].toNat < 128
    · have d0 : s.data.toList.drop i = s[i] :: s.data.toList.drop (i + 1) := List.drop_eq_getElem_cons (by simpa using hi)
      have hd : Lib.decodeL (s.data.toList.drop i) = (s[i].toNat, 1) := by rw [d0]; exact Lib.decodeL_ascii _ _ hlt
      have hw : ¬ wrong (s.data.toList.drop i) := by unfold wrong; rw [hd]; simp only; omega
      have hwid : wid s i = 1 := by unfold wid; rw [if_neg hw, hd]
      rw [hwid, hd]
      by_cases hc : ctl s[i].toNat
      · rw [if_pos (.inl hc), if_pos (.inr hc)]
      · rw [if_neg (fun x => x.elim hc hw), if_neg (fun x => x.elim (fun h => by omega) hc)]
    · by_cases hw : wrong (s.data.toList.drop i)
      · have hwid : wid s i = 0 := by unfold wid; rw [if_pos hw]
        rw [if_pos (.inr hw), if_pos (.inl hwid)]
      · have hh := high_bytes _ hw (by unfold bt at hb0; omega)
        have hwid : wid s i = (Lib.decodeL (s.data.toList.drop i)).2 := by unfold wid; rw [if_neg hw]
        rw [if_neg (fun x => x.elim (fun h => by unfold ctl at h; omega) hw), if_neg (by rw [hwid]; omega), hwid]
  · intro hn
    have hw : ¬ wrong (s.data.toList.drop i) := by
      intro hw
      apply hn
      unfold wid
      rw [if_pos hw]
    have hwid : wid s i = (Lib.decodeL (s.data.toList.drop i)).2 := by unfold wid; rw [if_neg hw]
    have hle := Lib.decodeL_le _ hne
    rw [drop_len] at hle
    have hen := Lib.encode_decode _ hne (by unfold wrong at hw; exact hw)
    rw [hen, hwid]
    apply from_list
    simp

set_option maxRecDepth 100000 in
set_option maxHeartbeats 2000000 in
theorem ref_one (s : ByteArray) (i : Nat) (w : World) (hs : s.size ≤ 1000000) (hi : i < s.size) :
    Calls Tryz.prog 104 #[.string s, .int .i64 (i : Int)] w fun e w' => e = .returned (.tuple #[.string (oneText (item (s.data.toList.drop i))), .int .i64 (oneNext (item (s.data.toList.drop i)) i), .int .i64 (item (s.data.toList.drop i)).e]) ∧ Q w w' := by
  have hz : (i : Int) < (s.size : Int) := by omega
  by_cases h92 : s[i].toNat = 92
  · have hb0 : bt (s.data.toList.drop i) 0 = s[i].toNat := bt_drop s i 0 hi
    have e : item (s.data.toList.drop i) = esc (s.data.toList.drop i) := by unfold item; rw [hb0, if_pos h92]
    rw [e]
    have cE := Lib.hid (fun w => ref_escaped s i w hs hi)
    have g : ((s[i].toNat : Int) == 92) = true := by rw [h92]; rfl
    generalize oneText (esc (s.data.toList.drop i)) = X at *
    generalize oneNext (esc (s.data.toList.drop i)) i = N at *
    generalize esc (s.data.toList.drop i) = R at *
    clear e h92 hb0
    go_enter Tryz.func104, Tryz.ntmps104
    go_wp2_with fail
    refine (cE.out _).mono ?_; rintro e w1 ⟨rfl, q1⟩
    go_wp2_with fail
    go_ret3
    exact ⟨rfl, q1⟩
  · have hsp := item_at s i hi h92
    have hwl := wid_le s i hi
    have cD := Lib.hid (fun w => dec_any s i w hs hi)
    have g : ((s[i].toNat : Int) == 92) = false := beq_eq_false_iff_ne.2 (by omega)
    clear h92
    rw [hsp.1]
    have hx := hsp.2
    clear hsp
    generalize wid s i = n at *
    generalize (Lib.decodeL (s.data.toList.drop i)).1 = r at *
    by_cases hn : n = 0
    · subst hn
      rw [if_pos (.inl rfl)]
      clear hx
      go_enter Tryz.func104, Tryz.ntmps104
      go_wp2_with fail
      refine (cD.out _).mono ?_; rintro e w1 ⟨c, rfl, q1⟩
      go_wp2_with fail
      go_ret3
      exact ⟨rfl, q1⟩
    · have hnz : ((n : Int) == 0) = false := beq_eq_false_iff_ne.2 (by omega)
      have hx2 := hx hn
      clear hx
      by_cases h32 : s[i].toNat < 32
      · rw [if_pos (.inr (.inl h32))]
        have h32z : (s[i].toNat : Int) < 32 := by omega
        clear h32 hx2
        go_enter Tryz.func104, Tryz.ntmps104
        go_wp2_with fail
        refine (cD.out _).mono ?_; rintro e w1 ⟨c, rfl, q1⟩
        go_wp2_with fail
        go_ret3
        exact ⟨rfl, q1⟩
      · have h32z : ¬ (s[i].toNat : Int) < 32 := by omega
        by_cases h127 : s[i].toNat = 127
        · rw [if_pos (.inr (.inr h127))]
          have h127z : ((s[i].toNat : Int) == 127) = true := by rw [h127]; rfl
          clear h32 h127 hx2
          go_enter Tryz.func104, Tryz.ntmps104
          go_wp2_with fail
          refine (cD.out _).mono ?_; rintro e w1 ⟨c, rfl, q1⟩
          go_wp2_with fail
          go_ret3
          exact ⟨rfl, q1⟩
        · rw [if_neg (by omega)]
          have h127z : ((s[i].toNat : Int) == 127) = false := beq_eq_false_iff_ne.2 (by omega)
          have b1 : (i : Int) + (n : Int) ≤ (s.size : Int) := by omega
          have HX := Lib.hid hx2
          have e1 : oneText ⟨(r : Int), (n : Int), 0⟩ = ⟨(Lib.encodeRune (r : Int)).toArray⟩ := rfl
          have e2 : oneNext ⟨(r : Int), (n : Int), 0⟩ i = (i : Int) + (n : Int) := rfl
          rw [e1, e2, ← hx2]
          clear h32 h127 hx2 e1 e2
          go_enter Tryz.func104, Tryz.ntmps104
          go_wp2_with fail
          refine (cD.out _).mono ?_; rintro e w1 ⟨c, rfl, q1⟩
          go_wp2_with fail
          go_ret3
          exact ⟨rfl, q1⟩

set_option maxRecDepth 100000 in
set_option maxHeartbeats 4000000 in
theorem ref_unquote_main (s : ByteArray) (w : World) (hs : s.size ≤ 1000000) (h1 : 1 ≤ s.size) (h0 : (s[0].toNat : Int) = 34) :
    Calls Tryz.prog 89 #[.string s] w fun e w' => e = .returned (.tuple #[.string ⟨(unqGo (s.data.toList.drop 1) 1 []).1.toArray⟩, .int .i64 (unqGo (s.data.toList.drop 1) 1 []).2.1, .int .i64 (unqGo (s.data.toList.drop 1) 1 []).2.2]) ∧ Q w w' := by
  have hz : (0 : Int) < (s.size : Int) := by omega
  have hzb : ((s.size : Int) == 0) = false := beq_eq_false_iff_ne.2 (by omega)
  have h0z : ((s[0].toNat : Int) != 34) = false := by rw [h0]; rfl
  have hlen : s.data.toList.length = s.size := by simp
  clear h0
  obtain ⟨ANS, hANS⟩ : ∃ ANS, unqGo (s.data.toList.drop 1) 1 [] = ANS := ⟨_, rfl⟩
  rw [hANS]
  have H0 := Lib.hid hANS
  clear hANS
  go_enter Tryz.func89, Tryz.ntmps89
  go_wp2_with fail
  go_loopw [5, 6] (fun o i wr => ∃ (k : Nat) (O : ByteArray), k ≤ s.size ∧ 1 ≤ k ∧ i = .int .i64 k ∧ o = .string O ∧ O.size ≤ 4 * k ∧ Hid (Q w wr) ∧ Hid (unqGo (s.data.toList.drop k) k O.data.toList = ANS)) (fun _ i _ => s.size - (intOf i).toNat)
  case atStart => exact ⟨1, ⟨#[]⟩, h1, Nat.le_refl _, rfl, rfl, by decide, Q.refl _, H0⟩
  case round =>
    obtain ⟨k, O, hk, hk1, rfl, rfl, hO, hq, hgo⟩ := hrel
    by_cases hlt : k < s.size
    · have hltz : (k : Int) < (s.size : Int) := by omega
      have hdne := drop_ne s k hlt
      have hbk : bt (s.data.toList.drop k) 0 = s[k].toNat := bt_drop s k 0 hlt
      have hOl : O.data.toList.length = O.size := by simp
      by_cases h34 : s[k].toNat = 34
      · have hqz : ((s[k].toNat : Int) == 34) = true := by rw [h34]; rfl
        have e := unqGo_quote (s.data.toList.drop k) k O.data.toList hdne (by rw [hbk]; exact h34)
        have e2 := e.symm.trans hgo.out
        rw [hOl] at e2
        by_cases hl : 4096 < O.size
        · rw [if_pos hl] at e2
          subst e2
          have hlz : (4096 : Int) < (O.size : Int) := by omega
          clear e h34 hbk hdne hgo H0
          go_wp2_with fail
          go_ret3
          exact ⟨rfl, hq.out⟩
        · rw [if_neg hl] at e2
          subst e2
          have hlz : ¬ (4096 : Int) < (O.size : Int) := by omega
          clear e h34 hbk hdne hgo H0
          go_wp2_with fail
          go_ret3
          refine ⟨?_, hq.out⟩
          show Ending.returned (.tuple #[.string O, .int .i64 ((k : Int) + 1), .int .i64 0]) = Ending.returned (.tuple #[.string ⟨O.data.toList.toArray⟩, .int .i64 ((k : Int) + 1), .int .i64 0])
          rw [list_whole]
      · have hqz : ((s[k].toNat : Int) == 34) = false := beq_eq_false_iff_ne.2 (by omega)
        have hnq : ¬ bt (s.data.toList.drop k) 0 = 34 := by rw [hbk]; exact h34
        have cO := Lib.hid (fun w => ref_one s k w hs hlt)
        have hsize := item_size (s.data.toList.drop k) hdne
        have hbad := unqGo_bad (s.data.toList.drop k) k O.data.toList hdne hnq
        have hstep := unqGo_step (s.data.toList.drop k) k O.data.toList hdne hnq
        rw [drop_len] at hsize
        generalize item (s.data.toList.drop k) = I at *
        obtain ⟨r, n, e⟩ := I
        simp only at hsize hbad hstep
        by_cases hee : e = 0
        · subst hee
          have hs2 := hsize rfl
          have hst2 := (hstep rfl).symm.trans hgo.out
          clear hsize hstep hbad
          obtain ⟨m, hm⟩ : ∃ m : Nat, n = m := ⟨n.toNat, by omega⟩
          subst hm
          rw [Int.toNat_natCast, List.drop_drop] at hst2
          have e1 : oneText ⟨r, (m : Int), 0⟩ = ⟨(Lib.encodeRune r).toArray⟩ := rfl
          have e2 : oneNext ⟨r, (m : Int), 0⟩ k = (k : Int) + (m : Int) := rfl
          rw [e1, e2] at cO
          have hel := encode_len r
          obtain ⟨X, hX⟩ : ∃ X : ByteArray, (⟨(Lib.encodeRune r).toArray⟩ : ByteArray) = X := ⟨_, rfl⟩
          have hXd : X.data.toList = Lib.encodeRune r := by rw [← hX]
          have hXs : X.size ≤ 4 := by rw [← hX]; show (Lib.encodeRune r).toArray.size ≤ 4; rw [List.size_toArray]; exact hel
          rw [hX] at cO
          have hnew : Hid (unqGo (s.data.toList.drop (k + m)) (k + m) (O ++ X).data.toList = ANS) := by
            show unqGo _ _ _ = _
            rw [ByteArray.data_append, Array.toList_append, hXd]
            exact hst2
          clear hst2 hX hXd e1 e2 hel h34 hbk hnq hdne
          go_wp2_with fail
          refine (cO.out _).mono ?_; rintro e w1 ⟨rfl, q1⟩
          have Q1 := Lib.hid (hq.out.trans q1)
          go_wp2_with fail
          go_roundw
          case rel => exact ⟨k + m, O ++ X, by omega, by omega, by go_num, rfl, by rw [ByteArray.size_append]; omega, Q1, hnew⟩
          case measure => simp [intOf]; omega
        · have e2 := (hbad hee).symm.trans hgo.out
          subst e2
          clear hstep hsize hbad hbk hnq hdne H0 hgo h34
          generalize oneText ⟨r, n, e⟩ = X at *
          generalize oneNext ⟨r, n, e⟩ k = N at *
          go_wp2_with fail
          refine (cO.out _).mono ?_; rintro e w1 ⟨rfl, q1⟩
          go_wp2_with fail
          go_ret3
          exact ⟨rfl, hq.out.trans q1⟩
    · obtain rfl : s.size = k := by omega
      have hnl : s.data.toList.drop s.size = [] := List.drop_of_length_le (by omega)
      have e : unqGo (s.data.toList.drop s.size) s.size O.data.toList = ([], 0, 40) := by rw [hnl]; exact unqGo_nil s.size _
      have e2 := e.symm.trans hgo.out
      subst e2
      clear e hnl hgo H0
      go_wp2_with fail
      go_ret3
      exact ⟨rfl, hq.out⟩

theorem ref_unquote (s : ByteArray) (w : World) (hs : s.size ≤ 1000000) :
    Calls Tryz.prog 89 #[.string s] w fun e w' => e = .returned (.tuple #[.string ⟨(unq s.data.toList).1.toArray⟩, .int .i64 (unq s.data.toList).2.1, .int .i64 (unq s.data.toList).2.2]) ∧ Q w w' := by
  unfold unq
  by_cases h : s.data.toList = []
  · rw [if_pos h]
    have hz : ((s.size : Int) == 0) = true := by
      rw [Lib.size_eq, h]
      rfl
    go_enter Tryz.func89, Tryz.ntmps89
    go_wp2_with fail
    go_ret3
    exact ⟨rfl, Q.refl _⟩
  · rw [if_neg h]
    have h1 : 0 < s.size := by
      rw [Lib.size_eq]
      exact List.length_pos_iff.2 h
    rw [bt_get s 0 h1]
    by_cases h0 : s[0].toNat = 34
    · rw [if_neg (fun x => x h0)]
      exact ref_unquote_main s w hs h1 (by omega)
    · rw [if_pos h0]
      have hz : (0 : Int) < (s.size : Int) := by omega
      have hzb : ((s.size : Int) == 0) = false := beq_eq_false_iff_ne.2 (by omega)
      have g : ((s[0].toNat : Int) != 34) = true := by rw [bne_iff_ne]; omega
      clear h
      go_enter Tryz.func89, Tryz.ntmps89
      go_wp2_with fail
      go_ret3
      exact ⟨rfl, Q.refl _⟩

end Go.Proofs.YthekabflbpfjoaaGreatDoor.lit
