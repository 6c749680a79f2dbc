/- The reference's Quote and Escape. -/
import Derived.Test.YtnhnondljackmaaDoorRval
namespace Go.Proofs.YtnhnondljackmaaDoor.lit
open Go.RowKit

theorem hex_cut : ∀ n : Fin 16, (⟨#[48, 49, 50, 51, 52, 53, 54, 55, 56, 57, 97, 98, 99, 100, 101, 102]⟩ : ByteArray).extract n.val (n.val + 1) = ⟨#[hexd n.val]⟩ := by decide +kernel

theorem digits_one (c : Nat) (hc : c < 16) (w : World) :
    Calls Tryd.prog 33 #[.int .i64 (c : Int)] w fun e w' => e = .returned (.string ⟨#[hexd c]⟩) ∧ w = w' := by
  have hcut := hex_cut ⟨c, hc⟩
  have hlt : (c : Int) < 16 := by omega
  have hm : (c : Int) % 16 = (c : Int) := by omega
  go_enter Tryd.func33, Tryd.ntmps33
  go_wp2_with fail
  go_ret
  exact ⟨rfl, rfl⟩
theorem digits_two (c : Nat) (hc : 16 ≤ c) (hc2 : c < 256) (w : World) :
    Calls Tryd.prog 33 #[.int .i64 (c : Int)] w fun e w' => e = .returned (.string ⟨#[hexd (c / 16), hexd (c % 16)]⟩) ∧ w = w' := by
  have hcut := hex_cut ⟨c % 16, by omega⟩
  have hlt : ¬ (c : Int) < 16 := by omega
  have c1 : Hid (∀ w, Calls Tryd.prog 33 #[.int .i64 ((c : Int) / 16)] w fun e w' => e = .returned (.string ⟨#[hexd (c / 16)]⟩) ∧ w = w') := fun w => digits_one (c / 16) (by omega) w
  go_enter Tryd.func33, Tryd.ntmps33
  go_wp2_with fail
  refine (c1.out _).mono ?_; rintro e w' ⟨rfl, rfl⟩
  go_wp2_with fail
  go_ret
  exact ⟨rfl, rfl⟩
theorem digits_any (c : Nat) (hc : c < 256) (w : World) :
    Calls Tryd.prog 33 #[.int .i64 (c : Int)] w fun e w' => e = .returned (.string ⟨(hexs c).toArray⟩) ∧ w = w' := by
  unfold hexs
  by_cases h : c < 16
  · rw [if_pos h]; exact digits_one c h w
  · rw [if_neg h]; exact digits_two c (by omega) hc w

theorem from_list (O : ByteArray) (l : List UInt8) (h : O.data.toList = l) : O = ⟨l.toArray⟩ := by
  apply ByteArray.ext
  rw [← h]

set_option maxHeartbeats 1000000 in
theorem escaped_any (c : UInt8) (w : World) :
    Calls Tryd.prog 24 #[.int .u8 (c.toNat : Int)] w fun e w' => e = .returned (.string ⟨(form c).toArray⟩) ∧ Q w w' := by
  have hc := c.toNat_lt
  by_cases h10 : c = 10
  · subst h10
    go_enter Tryd.func24, Tryd.ntmps24
    go_wp2_with fail
    go_ret
    exact ⟨rfl, Q.refl _⟩
  by_cases h13 : c = 13
  · subst h13
    go_enter Tryd.func24, Tryd.ntmps24
    go_wp2_with fail
    go_ret
    exact ⟨rfl, Q.refl _⟩
  by_cases h9 : c = 9
  · subst h9
    go_enter Tryd.func24, Tryd.ntmps24
    go_wp2_with fail
    go_ret
    exact ⟨rfl, Q.refl _⟩
  by_cases h34 : c = 34
  · subst h34
    go_enter Tryd.func24, Tryd.ntmps24
    go_wp2_with fail
    go_ret
    exact ⟨rfl, Q.refl _⟩
  by_cases h92 : c = 92
  · subst h92
    go_enter Tryd.func24, Tryd.ntmps24
    go_wp2_with fail
    go_ret
    exact ⟨rfl, Q.refl _⟩
  have g : ∀ d : UInt8, ¬ c = d → ¬ (c.toNat : Int) = (d.toNat : Int) := fun d hd e => hd (UInt8.toNat_inj.1 (by omega))
  have g10 : ¬ (c.toNat : Int) = 10 := g 10 h10
  have g13 : ¬ (c.toNat : Int) = 13 := g 13 h13
  have g9 : ¬ (c.toNat : Int) = 9 := g 9 h9
  have g34 : ¬ (c.toNat : Int) = 34 := g 34 h34
  have g92 : ¬ (c.toNat : Int) = 92 := g 92 h92
  have ef : form c = if c.toNat < 32 ∨ c.toNat = 127 then [92, 117, 123] ++ hexs c.toNat ++ [125] else [c] := by
    unfold form
    rw [if_neg h10, if_neg h13, if_neg h9, if_neg (fun x => x.elim h34 h92)]
  rw [ef]
  clear ef g h10 h13 h9 h34 h92
  by_cases hx : c.toNat < 32 ∨ c.toNat = 127
  · rw [if_pos hx]
    have cD : Hid (∀ w, Calls Tryd.prog 33 #[.int .i64 (c.toNat : Int)] w fun e w' => e = .returned (.string ⟨(hexs c.toNat).toArray⟩) ∧ w = w') := fun w => digits_any c.toNat hc w
    have hl : (hexs c.toNat).length ≤ 2 := by unfold hexs; split <;> simp
    obtain ⟨H, hH⟩ : ∃ H : ByteArray, (⟨(hexs c.toNat).toArray⟩ : ByteArray) = H := ⟨_, rfl⟩
    have hd : H.data.toList = hexs c.toNat := by rw [← hH]
    have hsz : H.size ≤ 2 := by rw [← hH]; simpa [ByteArray.size] using hl
    rw [hH] at cD
    have hfin : Hid ((⟨#[92, 117, 123]⟩ : ByteArray) ++ H ++ (⟨#[125]⟩ : ByteArray) = ⟨(92 :: 117 :: 123 :: (hexs c.toNat ++ [125])).toArray⟩) := by
      apply from_list
      simp [hd]
    clear hH hd hl
    rcases hx with hx | hx
    · have hz : (c.toNat : Int) < 32 := by omega
      clear hx
      go_enter Tryd.func24, Tryd.ntmps24
      go_wp2_with fail
      refine (cD.out _).mono ?_; rintro e w' ⟨rfl, rfl⟩
      go_wp2_with fail
      go_ret
      refine ⟨?_, Q.refl _⟩
      show Ending.returned (Value.string ((⟨#[92, 117, 123]⟩ : ByteArray) ++ H ++ (⟨#[125]⟩ : ByteArray))) = _
      rw [hfin.out]
    · have hz : ¬ (c.toNat : Int) < 32 := by omega
      have hz2 : ((c.toNat : Int) == 127) = true := beq_iff_eq.2 (by omega)
      clear hx
      go_enter Tryd.func24, Tryd.ntmps24
      go_wp2_with fail
      refine (cD.out _).mono ?_; rintro e w' ⟨rfl, rfl⟩
      go_wp2_with fail
      go_ret
      refine ⟨?_, Q.refl _⟩
      show Ending.returned (Value.string ((⟨#[92, 117, 123]⟩ : ByteArray) ++ H ++ (⟨#[125]⟩ : ByteArray))) = _
      rw [hfin.out]
  · rw [if_neg hx]
    have hz : ¬ (c.toNat : Int) < 32 := by omega
    have hz2 : ((c.toNat : Int) == 127) = false := beq_eq_false_iff_ne.2 (by omega)
    have hcv : (convert 33 9 (.slice (some ⟨w.heap.size, 0, none⟩) 1 1)).run Tryd.prog (w.alloc (.cells #[.int .u8 (c.toNat : Int)] 5)) = .ok (.string ⟨#[c]⟩) (w.alloc (.cells #[.int .u8 (c.toNat : Int)] 5)) := (Row.made w [c] (by simp)).text
    clear hx
    go_enter Tryd.func24, Tryd.ntmps24
    go_wp2_with fail
    go_ret
    exact ⟨rfl, Below.alloc (Below.refl _ _) (Nat.le_refl _) _⟩

set_option maxHeartbeats 2000000 in
theorem ref_quote (s : ByteArray) (w : World) (hs : s.size ≤ 1000000) :
    Calls Tryd.prog 13 #[.string s] w fun e w' => e = .returned (.string ⟨(quoteL s.data.toList).toArray⟩) ∧ Q w w' := by
  go_enter Tryd.func13, Tryd.ntmps13
  go_wp2_with fail
  go_loopw [3, 4] (fun o i wr => ∃ (k : Nat) (O : ByteArray), k ≤ s.size ∧ i = .int .i64 k ∧ o = .string O ∧ O.size ≤ 6 * k + 1 ∧ Hid (O.data.toList = 34 :: forms (s.data.toList.take k)) ∧ Hid (Q w wr)) (fun _ i _ => s.size - (intOf i).toNat)
  case atStart => exact ⟨0, ⟨#[34]⟩, Nat.zero_le _, rfl, rfl, by decide, rfl, Q.refl _⟩
  case round =>
    obtain ⟨k, O, hk, rfl, rfl, hO, hd, hq⟩ := hrel
    by_cases hlt : k < s.size
    · have hltz : (k : Int) < (s.size : Int) := by omega
      have cE : Hid (∀ w, Calls Tryd.prog 24 #[.int .u8 (s[k].toNat : Int)] w fun e w' => e = .returned (.string ⟨(form s[k]).toArray⟩) ∧ Q w w') := fun w => escaped_any s[k] w
      have hfl := form_len s[k]
      obtain ⟨X, hX⟩ : ∃ X : ByteArray, (⟨(form s[k]).toArray⟩ : ByteArray) = X := ⟨_, rfl⟩
      have hXd : X.data.toList = form s[k] := by rw [← hX]
      have hXs : X.size ≤ 6 := by rw [← hX]; show (form s[k]).toArray.size ≤ 6; rw [List.size_toArray]; exact hfl.2
      have hnew : Hid ((O ++ X).data.toList = 34 :: forms (s.data.toList.take (k + 1))) := by
        have e1 : s.data.toList.take (k + 1) = s.data.toList.take k ++ [s[k]] := by
          rw [List.take_succ_eq_append_getElem (by simpa using hlt)]
          rfl
        show (O ++ X).data.toList = _
        have := hd.out
        rw [e1, forms_snoc, ← hXd, ByteArray.data_append, Array.toList_append, this]
        rfl
      rw [hX] at cE
      clear hX hXd hfl
      go_wp2_with fail
      refine (cE.out _).mono ?_; rintro e w1 ⟨rfl, q1⟩
      have Q1 := Lib.hid (hq.out.trans q1)
      go_wp2_with fail
      go_roundw
      case rel => exact ⟨k + 1, O ++ X, hlt, by go_num, rfl, by rw [ByteArray.size_append]; omega, hnew, Q1⟩
      case measure => simp [intOf]; omega
    · obtain rfl : s.size = k := by omega
      have hfin : Hid (O ++ (⟨#[34]⟩ : ByteArray) = ⟨(quoteL s.data.toList).toArray⟩) := by
        apply from_list
        have := hd.out
        rw [List.take_of_length_le (by simp)] at this
        simp [this, quoteL]
      go_wp2_with fail
      go_ret
      refine ⟨?_, hq.out⟩
      show Ending.returned (Value.string (O ++ (⟨#[34]⟩ : ByteArray))) = _
      rw [hfin.out]

theorem esc_at_hit (s : ByteArray) (k : Nat) (h : k + 1 < s.size) (h0 : s[k].toNat = 36) (h1 : s[k + 1].toNat = 123) :
    utf.escL (s.data.toList.drop k) = [36] ++ ([s[k]] ++ utf.escL (s.data.toList.drop (k + 1))) := by
  have e0 : s[k] = 36 := UInt8.toNat_inj.1 (by rw [h0]; rfl)
  have e1 : s[k + 1] = 123 := UInt8.toNat_inj.1 (by rw [h1]; rfl)
  have d0 : s.data.toList.drop k = s[k] :: s.data.toList.drop (k + 1) := List.drop_eq_getElem_cons (by simp; omega)
  have d1 : s.data.toList.drop (k + 1) = s[k + 1] :: s.data.toList.drop (k + 1 + 1) := List.drop_eq_getElem_cons (by simpa using h)
  have hh : (s.data.toList.drop (k + 1)).head? = some 123 := by rw [d1, e1]; rfl
  rw [d0, utf.escL, if_pos ⟨e0, hh⟩, e0]
  rfl
theorem esc_at_miss (s : ByteArray) (k : Nat) (h : k < s.size) (hn : ¬ (s[k].toNat = 36 ∧ ∃ h1 : k + 1 < s.size, s[k + 1].toNat = 123)) :
    utf.escL (s.data.toList.drop k) = [s[k]] ++ utf.escL (s.data.toList.drop (k + 1)) := by
  have d0 : s.data.toList.drop k = s[k] :: s.data.toList.drop (k + 1) := List.drop_eq_getElem_cons (by simpa using h)
  rw [d0, utf.escL, if_neg]
  · rfl
  · rintro ⟨e0, hh⟩
    by_cases h1 : k + 1 < s.size
    · have d1 : s.data.toList.drop (k + 1) = s[k + 1] :: s.data.toList.drop (k + 1 + 1) := List.drop_eq_getElem_cons (by simpa using h1)
      rw [d1, List.head?_cons, Option.some.injEq] at hh
      exact hn ⟨by rw [e0]; rfl, h1, by rw [hh]; rfl⟩
    · rw [List.drop_of_length_le (by simp; omega)] at hh
      cases hh
theorem cut_one (s : ByteArray) (k : Nat) (h : k < s.size) : (s.extract k (k + 1)).data.toList = [s[k]] := by
  have hk : k < s.data.toList.length := by simpa using h
  have e : s[k] = s.data.toList[k]'hk := rfl
  rw [e]
  simp
  rw [List.drop_eq_getElem_cons hk]
  rfl

set_option maxHeartbeats 2000000 in
theorem ref_escape (s : ByteArray) (w : World) (hs : s.size ≤ 1000000) :
    Calls Tryd.prog 15 #[.string s] w fun e w' => e = .returned (.string ⟨(utf.escL s.data.toList).toArray⟩) ∧ w = w' := by
  obtain ⟨ANS, hANS⟩ : ∃ A, utf.escL s.data.toList = A := ⟨_, rfl⟩
  rw [hANS]
  have H0 : Hid ((⟨#[]⟩ : ByteArray).data.toList ++ utf.escL (s.data.toList.drop 0) = ANS) := by rw [List.drop_zero]; exact hANS
  have hhit := Lib.hid (esc_at_hit s)
  have hmiss := Lib.hid (esc_at_miss s)
  have hcut := Lib.hid (cut_one s)
  clear hANS
  go_enter Tryd.func15, Tryd.ntmps15
  go_wp2_with fail
  go_loop [3, 4] (fun o i => ∃ (k : Nat) (O : ByteArray), k ≤ s.size ∧ i = .int .i64 k ∧ o = .string O ∧ O.size ≤ 2 * k ∧ Hid (O.data.toList ++ utf.escL (s.data.toList.drop k) = ANS)) (fun _ i => s.size - (intOf i).toNat)
  case atStart => exact ⟨0, ⟨#[]⟩, Nat.zero_le _, rfl, rfl, by decide, H0⟩
  case round =>
    obtain ⟨k, O, hk, rfl, rfl, hO, hv⟩ := hrel
    by_cases hlt : k < s.size
    · have hltz : (k : Int) < (s.size : Int) := by omega
      have hX := hcut.out k hlt
      have hXs : (s.extract k (k + 1)).size = 1 := by rw [Lib.size_eq, hX]; rfl
      by_cases h0 : s[k].toNat = 36
      · have c0 : ((s[k].toNat : Int) == 36) = true := by rw [h0]; rfl
        by_cases h1 : k + 1 < s.size
        · have h1z : (k : Int) + 1 < (s.size : Int) := by omega
          by_cases h2 : s[k + 1].toNat = 123
          · have c2 : ((s[k + 1].toNat : Int) == 123) = true := by rw [h2]; rfl
            have hnew : Hid ((O ++ (⟨#[36]⟩ : ByteArray) ++ s.extract k (k + 1)).data.toList ++ utf.escL (s.data.toList.drop (k + 1)) = ANS) := by
              show _ ++ _ = _
              have := hv.out
              rw [hhit.out k h1 h0 h2] at this
              rw [← this, ByteArray.data_append, Array.toList_append, ByteArray.data_append, Array.toList_append, hX, List.append_assoc, List.append_assoc]
            clear h0 h2 hX
            go_wp2_with fail
            go_round
            case rel => exact ⟨k + 1, O ++ (⟨#[36]⟩ : ByteArray) ++ s.extract k (k + 1), hlt, by go_num, rfl, by rw [ByteArray.size_append, ByteArray.size_append, hXs]; show O.size + 1 + 1 ≤ _; omega, hnew⟩
            case measure => simp [intOf]; omega
          · have c2 : ((s[k + 1].toNat : Int) == 123) = false := beq_eq_false_iff_ne.2 (by omega)
            have hnew : Hid ((O ++ s.extract k (k + 1)).data.toList ++ utf.escL (s.data.toList.drop (k + 1)) = ANS) := by
              show _ ++ _ = _
              have := hv.out
              rw [hmiss.out k hlt (fun x => h2 (x.2.choose_spec))] at this
              rw [← this, ByteArray.data_append, Array.toList_append, hX, List.append_assoc]
            clear h0 h2 hX
            go_wp2_with fail
            go_round
            case rel => exact ⟨k + 1, O ++ s.extract k (k + 1), hlt, by go_num, rfl, by rw [ByteArray.size_append, hXs]; omega, hnew⟩
            case measure => simp [intOf]; omega
        · have h1z : ¬ (k : Int) + 1 < (s.size : Int) := by omega
          have hnew : Hid ((O ++ s.extract k (k + 1)).data.toList ++ utf.escL (s.data.toList.drop (k + 1)) = ANS) := by
            show _ ++ _ = _
            have := hv.out
            rw [hmiss.out k hlt (fun x => h1 x.2.choose)] at this
            rw [← this, ByteArray.data_append, Array.toList_append, hX, List.append_assoc]
          clear h0 hX
          go_wp2_with fail
          go_round
          case rel => exact ⟨k + 1, O ++ s.extract k (k + 1), hlt, by go_num, rfl, by rw [ByteArray.size_append, hXs]; omega, hnew⟩
          case measure => simp [intOf]; omega
      · have c0 : ((s[k].toNat : Int) == 36) = false := beq_eq_false_iff_ne.2 (by omega)
        have hnew : Hid ((O ++ s.extract k (k + 1)).data.toList ++ utf.escL (s.data.toList.drop (k + 1)) = ANS) := by
          show _ ++ _ = _
          have := hv.out
          rw [hmiss.out k hlt (fun x => h0 x.1)] at this
          rw [← this, ByteArray.data_append, Array.toList_append, hX, List.append_assoc]
        clear h0 hX
        go_wp2_with fail
        go_round
        case rel => exact ⟨k + 1, O ++ s.extract k (k + 1), hlt, by go_num, rfl, by rw [ByteArray.size_append, hXs]; omega, hnew⟩
        case measure => simp [intOf]; omega
    · obtain rfl : s.size = k := by omega
      have hfin : O = ⟨ANS.toArray⟩ := by
        apply from_list
        have := hv.out
        rw [List.drop_of_length_le (by simp)] at this
        simpa [utf.escL] using this
      subst hfin
      go_wp2_with fail
      go_ret
      exact ⟨rfl, rfl⟩

end Go.Proofs.YtnhnondljackmaaDoor.lit
