/- The reference's Quote and Escape. -/
import Derived.Test.YthekabflbpfjoaaGreatDoorRvalm
namespace Go.Proofs.YthekabflbpfjoaaGreatDoor.lit
open Go.RowKit

theorem hex_cut : ∀ n : Fin 16, (⟨#[48, 49, 50, 51, 52, 53, 54, 55, 56, 57, 97, 98, 99, 100, 101, 102]⟩ : ByteArray).extract n.val (n.val + 1) = ⟨#[hexd n.val]⟩ := by decide +kernel

theorem digits_one (c : Nat) (hc : c < 16) (w : World) :
    Calls Tryz.prog 84 #[.int .i64 (c : Int)] w fun e w' => e = .returned (.string ⟨#[hexd c]⟩) ∧ w = w' := by
  have hcut := hex_cut ⟨c, hc⟩
  have hlt : (c : Int) < 16 := by omega
  have hm : (c : Int) % 16 = (c : Int) := by omega
  go_enter Tryz.func84, Tryz.ntmps84
  go_wp2_with fail
  go_ret
  exact ⟨rfl, rfl⟩
theorem digits_two (c : Nat) (hc : 16 ≤ c) (hc2 : c < 256) (w : World) :
    Calls Tryz.prog 84 #[.int .i64 (c : Int)] w fun e w' => e = .returned (.string ⟨#[hexd (c / 16), hexd (c % 16)]⟩) ∧ w = w' := by
  have hcut := hex_cut ⟨c % 16, by omega⟩
  have hlt : ¬ (c : Int) < 16 := by omega
  have c1 : Hid (∀ w, Calls Tryz.prog 84 #[.int .i64 ((c : Int) / 16)] w fun e w' => e = .returned (.string ⟨#[hexd (c / 16)]⟩) ∧ w = w') := fun w => digits_one (c / 16) (by omega) w
  go_enter Tryz.func84, Tryz.ntmps84
  go_wp2_with fail
  refine (c1.out _).mono ?_; rintro e w' ⟨rfl, rfl⟩
  go_wp2_with fail
  go_ret
  exact ⟨rfl, rfl⟩
theorem digits_any (c : Nat) (hc : c < 256) (w : World) :
    Calls Tryz.prog 84 #[.int .i64 (c : Int)] w fun e w' => e = .returned (.string ⟨(hexs c).toArray⟩) ∧ w = w' := by
  unfold hexs
  by_cases h : c < 16
  · rw [if_pos h]; exact digits_one c h w
  · rw [if_neg h]; exact digits_two c (by omega) hc w

theorem from_list (O : ByteArray) (l : List UInt8) (h : O.data.toList = l) : O = ⟨l.toArray⟩ := by
  apply ByteArray.ext
  rw [← h]

set_option maxRecDepth 100000 in
set_option maxHeartbeats 1000000 in
theorem escaped_any (c : UInt8) (w : World) :
    Calls Tryz.prog 64 #[.int .u8 (c.toNat : Int)] w fun e w' => e = .returned (.string ⟨(form c).toArray⟩) ∧ Q w w' := by
  have hc := c.toNat_lt
  by_cases h10 : c = 10
  · subst h10
    go_enter Tryz.func64, Tryz.ntmps64
    go_wp2_with fail
    go_ret
    exact ⟨rfl, Q.refl _⟩
  by_cases h13 : c = 13
  · subst h13
    go_enter Tryz.func64, Tryz.ntmps64
    go_wp2_with fail
    go_ret
    exact ⟨rfl, Q.refl _⟩
  by_cases h9 : c = 9
  · subst h9
    go_enter Tryz.func64, Tryz.ntmps64
    go_wp2_with fail
    go_ret
    exact ⟨rfl, Q.refl _⟩
  by_cases h34 : c = 34
  · subst h34
    go_enter Tryz.func64, Tryz.ntmps64
    go_wp2_with fail
    go_ret
    exact ⟨rfl, Q.refl _⟩
  by_cases h92 : c = 92
  · subst h92
    go_enter Tryz.func64, Tryz.ntmps64
    go_wp2_with fail
    go_ret
    exact ⟨rfl, Q.refl _⟩
  have g : ∀ d : UInt8, ¬ c = d → ¬ (c.toNat : Int) = (d.toNat : Int) := fun d hd e => hd (UInt8.toNat_inj.1 (by omega))
  have g10 : ¬ (c.toNat : Int) = 10 := g 10 h10
  have g13 : ¬ (c.toNat : Int) = 13 := g 13 h13
  have g9 : ¬ (c.toNat : Int) = 9 := g 9 h9
  have g34 : ¬ (c.toNat : Int) = 34 := g 34 h34
  have g92 : ¬ (c.toNat : Int) = 92 := g 92 h92
  have ef : form c = if c.toNat < 32 ∨ c.toNat = 127 then [92, 117, 123] ++ hexs c.toNat ++ [125] else [c] := by
    unfold form
    rw [if_neg h10, if_neg h13, if_neg h9, if_neg (fun x => x.elim h34 h92)]
  rw [ef]
  clear ef g h10 h13 h9 h34 h92
  by_cases hx : c.toNat < 32 ∨ c.toNat = 127
  · rw [if_pos hx]
    have cD : Hid (∀ w, Calls Tryz.prog 84 #[.int .i64 (c.toNat : Int)] w fun e w' => e = .returned (.string ⟨(hexs c.toNat).toArray⟩) ∧ w = w') := fun w => digits_any c.toNat hc w
    have hl : (hexs c.toNat).length ≤ 2 := by unfold hexs; split <;> simp
    obtain ⟨H, hH⟩ : ∃ H : ByteArray, (⟨(hexs c.toNat).toArray⟩ : ByteArray) = H := ⟨_, rfl⟩
    have hd : H.data.toList = hexs c.toNat := by rw [← hH]
    have hsz : H.size ≤ 2 := by rw [← hH]; simpa [ByteArray.size] using hl
    rw [hH] at cD
    have hfin : Hid ((⟨#[92, 117, 123]⟩ : ByteArray) ++ H ++ (⟨#[125]⟩ : ByteArray) = ⟨(92 :: 117 :: 123 :: (hexs c.toNat ++ [125])).toArray⟩) := by
      apply from_list
      simp [hd]
    clear hH hd hl
    rcases hx with hx | hx
    · have hz : (c.toNat : Int) < 32 := by omega
      clear hx
      go_enter Tryz.func64, Tryz.ntmps64
      go_wp2_with fail
      refine (cD.out _).mono ?_; rintro e w' ⟨rfl, rfl⟩
      go_wp2_with fail
      go_ret
      refine ⟨?_, Q.refl _⟩
      show Ending.returned (Value.string ((⟨#[92, 117, 123]⟩ : ByteArray) ++ H ++ (⟨#[125]⟩ : ByteArray))) = _
      rw [hfin.out]
    · have hz : ¬ (c.toNat : Int) < 32 := by omega
      have hz2 : ((c.toNat : Int) == 127) = true := beq_iff_eq.2 (by omega)
      clear hx
      go_enter Tryz.func64, Tryz.ntmps64
      go_wp2_with fail
      refine (cD.out _).mono ?_; rintro e w' ⟨rfl, rfl⟩
      go_wp2_with fail
      go_ret
      refine ⟨?_, Q.refl _⟩
      show Ending.returned (Value.string ((⟨#[92, 117, 123]⟩ : ByteArray) ++ H ++ (⟨#[125]⟩ : ByteArray))) = _
      rw [hfin.out]
  · rw [if_neg hx]
    have hz : ¬ (c.toNat : Int) < 32 := by omega
    have hz2 : ((c.toNat : Int) == 127) = false := beq_eq_false_iff_ne.2 (by omega)
    have hcv : (convert 49 9 (.slice (some ⟨w.heap.size, 0, none⟩) 1 1)).run Tryz.prog (w.alloc (.cells #[.int .u8 (c.toNat : Int)] 5)) = .ok (.string ⟨#[c]⟩) (w.alloc (.cells #[.int .u8 (c.toNat : Int)] 5)) := (Row.made w [c] (by simp)).text
    clear hx
    go_enter Tryz.func64, Tryz.ntmps64
    go_wp2_with fail
    go_ret
    exact ⟨rfl, Below.alloc (Below.refl _ _) (Nat.le_refl _) _⟩

set_option maxRecDepth 100000 in
set_option maxHeartbeats 2000000 in
theorem ref_quote (s : ByteArray) (w : World) (hs : s.size ≤ 1000000) :
    Calls Tryz.prog 38 #[.string s] w fun e w' => e = .returned (.string ⟨(quoteL s.data.toList).toArray⟩) ∧ Q w w' := by
  go_enter Tryz.func38, Tryz.ntmps38
  go_wp2_with fail
  go_loopw [3, 4] (fun o i wr => ∃ (k : Nat) (O : ByteArray), k ≤ s.size ∧ i = .int .i64 k ∧ o = .string O ∧ O.size ≤ 6 * k + 1 ∧ Hid (O.data.toList = 34 :: forms (s.data.toList.take k)) ∧ Hid (Q w wr)) (fun _ i _ => s.size - (intOf i).toNat)
  case atStart => exact ⟨0, ⟨#[34]⟩, Nat.zero_le _, rfl, rfl, by decide, rfl, Q.refl _⟩
  case round =>
    obtain ⟨k, O, hk, rfl, rfl, hO, hd, hq⟩ := hrel
    by_cases hlt : k < s.size
    · have hltz : (k : Int) < (s.size : Int) := by omega
      have cE : Hid (∀ w, Calls Tryz.prog 64 #[.int .u8 (s[k].toNat : Int)] w fun e w' => e = .returned (.string ⟨(form s[k]).toArray⟩) ∧ Q w w') := fun w => escaped_any s[k] w
      have hfl := form_len s[k]
      obtain ⟨X, hX⟩ : ∃ X : ByteArray, (⟨(form s[k]).toArray⟩ : ByteArray) = X := ⟨_, rfl⟩
      have hXd : X.data.toList = form s[k] := by rw [← hX]
      have hXs : X.size ≤ 6 := by rw [← hX]; show (form s[k]).toArray.size ≤ 6; rw [List.size_toArray]; exact hfl.2
      have hnew : Hid ((O ++ X).data.toList = 34 :: forms (s.data.toList.take (k + 1))) := by
        have e1 : s.data.toList.take (k + 1) = s.data.toList.take k ++ [s[k]] := by
          rw [List.take_succ_eq_append_getElem (by simpa using hlt)]
          rfl
        show (O ++ X).data.toList = _
        have := hd.out
        rw [e1, forms_snoc, ← hXd, ByteArray.data_append, Array.toList_append, this]
        rfl
      rw [hX] at cE
      clear hX hXd hfl
      go_wp2_with fail
      refine (cE.out _).mono ?_; rintro e w1 ⟨rfl, q1⟩
      have Q1 := Lib.hid (hq.out.trans q1)
      go_wp2_with fail
      go_roundw
      case rel => exact ⟨k + 1, O ++ X, hlt, by go_num, rfl, by rw [ByteArray.size_append]; omega, hnew, Q1⟩
      case measure => simp [intOf]; omega
    · obtain rfl : s.size = k := by omega
      have hfin : Hid (O ++ (⟨#[34]⟩ : ByteArray) = ⟨(quoteL s.data.toList).toArray⟩) := by
        apply from_list
        have := hd.out
        rw [List.take_of_length_le (by simp)] at this
        simp [this, quoteL]
      go_wp2_with fail
      go_ret
      refine ⟨?_, hq.out⟩
      show Ending.returned (Value.string (O ++ (⟨#[34]⟩ : ByteArray))) = _
      rw [hfin.out]

theorem cut_one (s : ByteArray) (k : Nat) (h : k < s.size) : (s.extract k (k + 1)).data.toList = [s[k]] := by
  have hk : k < s.data.toList.length := by simpa using h
  have e : s[k] = s.data.toList[k]'hk := rfl
  rw [e]
  simp
  rw [List.drop_eq_getElem_cons hk]
  rfl

end Go.Proofs.YthekabflbpfjoaaGreatDoor.lit
