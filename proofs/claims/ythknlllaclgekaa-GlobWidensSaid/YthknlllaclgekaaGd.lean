/- The law GlobWidens. -/
import Derived.Test.YthknlllaclgekaaGf
namespace Go.Proofs.Ythknlllaclgekaa.glo
open Go.RowKit

/-- What the loop of doubled knows: what lies in D and what comes of the rest are the whole. -/
def Dbl (p : ByteArray) (ANS : List UInt8) (k : Nat) (D : ByteArray) : Prop := ∃ prev : Bool, (prev = true ↔ aft p k) ∧ D.data.toList ++ dbl prev (p.data.toList.drop k) = ANS ∧ D.size ≤ 2 * k
theorem Dbl.start (p : ByteArray) : Dbl p (dbl false p.data.toList) 0 ⟨#[]⟩ :=
  ⟨false, ⟨fun h => (by cases h), fun ⟨_, h, _⟩ => absurd h (by omega)⟩, by rw [List.drop_zero]; rfl, Nat.le_refl _⟩
theorem app_list (a b : ByteArray) : (a ++ b).data.toList = a.data.toList ++ b.data.toList := by simp
theorem Dbl.other {p : ByteArray} {ANS : List UInt8} {k : Nat} {D : ByteArray} (h : Dbl p ANS k D) (hk : k < p.size) (hc : p[k].toNat ≠ 42) : Dbl p ANS (k + 1) (D ++ p.extract k (k + 1)) := by
  obtain ⟨prev, hp, h1, h2⟩ := h
  have e1 : (p.extract k (k + 1)).data.toList = [p[k]] := by
    rw [ByteArray.data_extract, Array.toList_extract, List.extract_eq_take_drop, drop_at p k hk]
    rw [show k + 1 - k = 1 by omega]
    rfl
  refine ⟨false, ⟨fun h => (by cases h), fun ⟨_, _, h⟩ => absurd h hc⟩, ?_, ?_⟩
  · rw [drop_at p k hk] at h1
    unfold dbl at h1
    rw [if_neg (by rw [byte42]; exact hc)] at h1
    rw [app_list, e1, List.append_assoc]
    exact h1
  · rw [ByteArray.size_append, ByteArray.size_extract]
    omega
theorem Dbl.again {p : ByteArray} {ANS : List UInt8} {k : Nat} {D : ByteArray} (h : Dbl p ANS k D) (hk : k < p.size) (hc : p[k].toNat = 42) (ha : aft p k) : Dbl p ANS (k + 1) D := by
  obtain ⟨prev, hp, h1, h2⟩ := h
  refine ⟨true, ⟨fun _ => ⟨hk, Nat.succ_pos k, hc⟩, fun _ => rfl⟩, ?_, by omega⟩
  rw [drop_at p k hk] at h1
  unfold dbl at h1
  rw [if_pos (by rw [byte42]; exact hc), if_pos (hp.2 ha)] at h1
  exact h1
theorem Dbl.new {p : ByteArray} {ANS : List UInt8} {k : Nat} {D : ByteArray} (h : Dbl p ANS k D) (hk : k < p.size) (hc : p[k].toNat = 42) (ha : ¬ aft p k) : Dbl p ANS (k + 1) (D ++ ⟨#[42, 42]⟩) := by
  obtain ⟨prev, hp, h1, h2⟩ := h
  refine ⟨true, ⟨fun _ => ⟨hk, Nat.succ_pos k, hc⟩, fun _ => rfl⟩, ?_, ?_⟩
  · rw [drop_at p k hk] at h1
    unfold dbl at h1
    rw [if_pos (by rw [byte42]; exact hc), if_neg (fun x => ha (hp.1 x))] at h1
    rw [app_list, List.append_assoc]
    exact h1
  · rw [ByteArray.size_append]
    show D.size + 2 ≤ _
    omega
theorem Dbl.done {p : ByteArray} {ANS : List UInt8} {D : ByteArray} (h : Dbl p ANS p.size D) : D = ⟨ANS.toArray⟩ := by
  obtain ⟨prev, hp, h1, h2⟩ := h
  rw [drop_end] at h1
  rw [← h1]
  unfold dbl
  rw [List.append_nil]

set_option maxRecDepth 100000 in
set_option maxHeartbeats 2000000 in
theorem doubled_any (p : ByteArray) (w : World) (_hp : p.size ≤ 500) :
    Calls Try.prog 19 #[.string p] w fun e w' => e = .returned (.string ⟨(dbl false p.data.toList).toArray⟩) ∧ w = w' := by
  have h0 := Lib.hid (Dbl.start p)
  generalize dbl false p.data.toList = ANS at *
  go_enter Try.func19, Try.ntmps19
  go_wp2_with fail
  go_loop [3, 4] (fun x i => ∃ (k : Nat) (D : ByteArray), k ≤ p.size ∧ D.size ≤ 2 * k ∧ i = .int .i64 k ∧ x = .string D ∧ Hid (Dbl p ANS k D)) (fun _ i => p.size - (intOf i).toNat)
  case atStart => exact ⟨0, _, Nat.zero_le _, Nat.le_refl _, rfl, rfl, h0⟩
  case round =>
    obtain ⟨k, D, hk, hD, rfl, rfl, HG⟩ := hrel
    clear h0
    by_cases hlt : k < p.size
    · by_cases hc : p[k].toNat = 42
      · have f1 : ((p[k].toNat : Int) != 42) = false := by rw [bne_eq_false_iff_eq]; omega
        match k, hk, hD, HG, hlt, hc, f1 with
        | 0, hk, hD, HG, hlt, hc, f1 =>
          have HN := Lib.hid (HG.out.new hlt hc (fun ⟨_, h, _⟩ => absurd h (by omega)))
          have hN : (D ++ (⟨#[42, 42]⟩ : ByteArray)).size ≤ 2 * (0 + 1) := by rw [ByteArray.size_append]; show D.size + 2 ≤ _; omega
          have HZ := Lib.hid hN
          clear hc HG hN
          go_wp2_with fail
          go_round
          case rel => exact ⟨_, _, by omega, HZ.out, by go_num, rfl, HN⟩
          case measure => simp [intOf]; omega
        | j + 1, hk, hD, HG, hlt, hc, f1 =>
          have hj : j < p.size := by omega
          have f2 : (((j + 1 : Nat) : Int) == 0) = false := by rw [beq_eq_false_iff_ne]; omega
          by_cases hp : p[j].toNat = 42
          · have f3 : ((p[j].toNat : Int) != 42) = false := by rw [bne_eq_false_iff_eq]; omega
            have HN := Lib.hid (HG.out.again hlt hc ⟨hj, by omega, hp⟩)
            clear hc hp HG
            go_wp2_with fail
            go_round
            case rel => exact ⟨_, D, by omega, by omega, by go_num, rfl, HN⟩
            case measure => simp [intOf]; omega
          · have f3 : ((p[j].toNat : Int) != 42) = true := by rw [bne_iff_ne]; omega
            have HN := Lib.hid (HG.out.new hlt hc (fun ⟨_, _, h⟩ => absurd h hp))
            have hN : (D ++ (⟨#[42, 42]⟩ : ByteArray)).size ≤ 2 * (j + 1 + 1) := by rw [ByteArray.size_append]; show D.size + 2 ≤ _; omega
            have HZ := Lib.hid hN
            clear hc hp HG hN
            go_wp2_with fail
            go_round
            case rel => exact ⟨_, _, by omega, HZ.out, by go_num, rfl, HN⟩
            case measure => simp [intOf]; omega
      · have f1 : ((p[k].toNat : Int) != 42) = true := by rw [bne_iff_ne]; omega
        have HN := Lib.hid (HG.out.other hlt hc)
        have hN : (D ++ p.extract k (k + 1)).size ≤ 2 * (k + 1) := by rw [ByteArray.size_append, ByteArray.size_extract]; omega
        have HZ := Lib.hid hN
        have f2 : (k : Int) + 1 ≤ (p.size : Int) := by omega
        have f3 : (p.extract k (k + 1)).size = 1 := by rw [ByteArray.size_extract]; omega
        clear hc HG hN
        go_wp2_with fail
        go_round
        case rel => exact ⟨k + 1, _, by omega, HZ.out, by go_num, rfl, HN⟩
        case measure => simp [intOf]; omega
    · obtain rfl : k = p.size := by omega
      have HA := Lib.hid (HG.out.done)
      clear HG
      go_wp2_with fail
      go_ret
      exact ⟨by rw [HA.out]; rfl, rfl⟩

set_option maxRecDepth 100000 in
set_option maxHeartbeats 2000000 in
theorem widens_any (p s : ByteArray) (w : World) (_hp : p.size ≤ maxLen) (_hs : s.size ≤ maxLen) (mx : MX w) :
    Calls Try.prog 7 #[.string p, .string s] w fun e w' => e = .returned (.bool true) ∧ Below w.heap.size w w' := by
  have cA := Lib.hid (awake_true w mx)
  by_cases h1 : 500 < p.size
  · have f1 : (500 : Int) < (p.size : Int) := by omega
    clear mx h1 _hp _hs
    go_enter Try.func7, Try.ntmps7
    go_wp2_with fail
    refine (cA.out).mono ?_; rintro e w1 ⟨rfl, q⟩
    have q := Lib.hid q
    go_wp2_with fail
    go_ret
    exact ⟨rfl, q.out⟩
  · by_cases h2 : 300 < s.size
    · have f1 : ¬ (500 : Int) < (p.size : Int) := by omega
      have f2 : (300 : Int) < (s.size : Int) := by omega
      clear mx h1 h2 _hp _hs
      go_enter Try.func7, Try.ntmps7
      go_wp2_with fail
      refine (cA.out).mono ?_; rintro e w1 ⟨rfl, q⟩
      have q := Lib.hid q
      go_wp2_with fail
      go_ret
      exact ⟨rfl, q.out⟩
    · have f1 : ¬ (500 : Int) < (p.size : Int) := by omega
      have f2 : decide ((300 : Int) < (s.size : Int)) = false := decide_eq_false (by omega)
      have cA2 : Hid (∀ w1, Q w w1 → Calls Try.prog 8 #[] w1 fun e w' => e = .returned (.bool true) ∧ Q w w') := fun w1 q => by
        exact (awake_true w1 (mx.stays q)).mono fun e w' h => ⟨h.1, q.trans h.2⟩
      have c1 := Lib.hid (match_any p s w mx (by omega) (by omega))
      cases hh : hitB p.data.toList s.data.toList with
      | false =>
        rw [hh] at c1
        clear mx h1 h2 _hp _hs hh cA
        go_enter Try.func7, Try.ntmps7
        go_wp2_with fail
        refine (c1.out).mono ?_; rintro e w1 ⟨rfl, q⟩
        have q1 := Lib.hid q; clear q c1
        go_wp2_with fail
        refine (cA2.out _ q1.out).mono ?_; rintro e w3 ⟨rfl, q⟩
        have q3 := Lib.hid q; clear q cA2
        go_wp2_with fail
        go_ret
        exact ⟨rfl, q3.out⟩
      | true =>
        rw [hh] at c1
        have hd : hitB (dbl false p.data.toList) s.data.toList = true := (hitB_iff _ _).2 (hit_dbl _ _ (by rw [len_data]; omega) ((hitB_iff _ _).1 hh))
        obtain ⟨D, hD⟩ : ∃ D : ByteArray, (⟨(dbl false p.data.toList).toArray⟩ : ByteArray) = D := ⟨_, rfl⟩
        have hDl : D.data.toList = dbl false p.data.toList := by rw [← hD]
        have hDs : D.size ≤ 1000 := by
          have := dbl_length p.data.toList false
          rw [← len_data, hDl]
          rw [len_data] at this
          omega
        have cD : Hid (∀ w, Calls Try.prog 19 #[.string p] w fun e w' => e = .returned (.string D) ∧ w = w') := fun w => by
          have h := doubled_any p w (by omega)
          rw [hD] at h
          exact h
        have c2 : Hid (∀ w1, Q w w1 → Calls Try.prog 13 #[.string D, .string s] w1 fun e w' => e = .returned (.bool true) ∧ Q w w') := fun w1 q => by
          have h := match_any D s w1 (mx.stays q) (by omega) (by omega)
          rw [hDl, hd] at h
          exact h.mono fun e w' h => ⟨h.1, q.trans h.2⟩
        clear mx h1 h2 _hp _hs hh cA hd hD hDl hDs
        go_enter Try.func7, Try.ntmps7
        go_wp2_with fail
        refine (c1.out).mono ?_; rintro e w1 ⟨rfl, q⟩
        have q1 := Lib.hid q; clear q c1
        go_wp2_with fail
        refine (cD.out _).mono ?_; rintro e w2 ⟨rfl, rfl⟩
        go_wp2_with fail
        refine (c2.out _ q1.out).mono ?_; rintro e w2 ⟨rfl, q⟩
        have q2 := Lib.hid q; clear q c2
        go_wp2_with fail
        refine (cA2.out _ q2.out).mono ?_; rintro e w3 ⟨rfl, q⟩
        have q3 := Lib.hid q; clear q cA2
        go_wp2_with fail
        go_ret
        exact ⟨rfl, q3.out⟩

end Go.Proofs.Ythknlllaclgekaa.glo
