/- The reference's Format returns the decimal text of every integer. -/
import Derived.Test.YthekabflbpfjoaaGreatDoorPrsm
import Derived.Laws.BytesString
import Derived.Laws.BytesArg
namespace Go.Proofs.YthekabflbpfjoaaGreatDoor.num
open Go.RowKit
open Go.Proofs.YthekabflbpfjoaaGreatDoor.txt

def Q (w w' : World) : Prop := Below w.heap.size w w'
theorem Q.refl (w : World) : Q w w := Below.refl _ _
theorem Q.trans {a b c : World} (h : Q a b) (k : Q b c) : Q a c := Below.trans h (Below.mono k h.size)
theorem Q.drewN (w : World) (n : Nat) : Q w (w.drewN n) := ⟨rfl, rfl, rfl, by simp, fun _ _ => rfl⟩
theorem tm_pos (a b : Int) (h : 0 < b) : -b < a.tmod b ∧ a.tmod b < b := ⟨Int.lt_tmod_of_pos a h, Int.tmod_lt_of_pos a h⟩

theorem conv_one (x : Int) (W : World) : Sem.run Tryz.prog (convert 49 9 (.slice (some ⟨W.heap.size, 0, none⟩) 1 1)) (W.alloc (.cells #[.int .u8 x] 5)) = .ok (.string (strOfNums [x])) (W.alloc (.cells #[.int .u8 x] 5)) :=
  run_convert_bytes_arg (W.alloc (.cells #[.int .u8 x] 5)) 49 5 Tryz.underlying49 Tryz.underlying5 W.heap.size 0 1 1 [x] rfl (fun i hi => by
    obtain rfl : i = 0 := by omega
    exact cell_one_new W _ 5 0 _ rfl) 9 Tryz.underlying9

set_option maxHeartbeats 400000 in
theorem rf_small (n : Int) (w : World) (h0 : 0 ≤ n) (h1 : n ≤ 9) :
    Calls Tryz.prog 37 #[.int .i64 n] w fun e w' => e = .returned (.string (strOfNums [48 + n])) ∧ Q w w' := by
  have hcv := conv_one (48 + n)
  go_enter Tryz.func37, Tryz.ntmps37
  go_wp2_with fail
  go_ret
  exact ⟨rfl, (Below.refl _ _).alloc (Nat.le_refl _) _⟩
set_option maxHeartbeats 400000 in
theorem rf_neg (n : Int) (w : World) (h0 : n < 0) (h1 : -10 < n) (A : ByteArray) (ha : A.size ≤ 100)
  (hc : Hid (∀ w, Calls Tryz.prog 37 #[.int .i64 (-n)] w fun e w' => e = .returned (.string A) ∧ Q w w')) :
    Calls Tryz.prog 37 #[.int .i64 n] w fun e w' => e = .returned (.string (⟨#[45]⟩ ++ A)) ∧ Q w w' := by
  go_enter Tryz.func37, Tryz.ntmps37
  go_wp2_with fail
  refine (hc.out _).mono ?_; rintro e w1 ⟨rfl, q1⟩
  go_wp2_with fail
  go_ret
  exact ⟨rfl, q1⟩
set_option maxHeartbeats 400000 in
theorem rf_low (n : Int) (w : World) (h0 : n ≤ -10) (h1 : -9223372036854775808 ≤ n) (A B : ByteArray) (ha : A.size ≤ 100) (hb : B.size ≤ 100)
  (g0 : -9223372036854775808 ≤ n.tdiv 10) (g1 : n.tdiv 10 ≤ 9223372036854775807) (g2 : -9 ≤ n.tmod 10) (g3 : n.tmod 10 ≤ 0)
  (hc : Hid (∀ w, Calls Tryz.prog 37 #[.int .i64 (n.tdiv 10)] w fun e w' => e = .returned (.string A) ∧ Q w w'))
  (hd : Hid (∀ w, Calls Tryz.prog 37 #[.int .i64 (-(n.tmod 10))] w fun e w' => e = .returned (.string B) ∧ Q w w')) :
    Calls Tryz.prog 37 #[.int .i64 n] w fun e w' => e = .returned (.string (A ++ B)) ∧ Q w w' := by
  go_enter Tryz.func37, Tryz.ntmps37
  go_wp2_with fail
  refine (hc.out _).mono ?_; rintro e w1 ⟨rfl, q1⟩
  go_wp2_with fail
  refine (hd.out _).mono ?_; rintro e w2 ⟨rfl, q2⟩
  go_wp2_with fail
  go_ret
  exact ⟨rfl, q1.trans q2⟩
set_option maxHeartbeats 400000 in
theorem rf_high (n : Int) (w : World) (h0 : 10 ≤ n) (h1 : n ≤ 9223372036854775807) (A B : ByteArray) (ha : A.size ≤ 100) (hb : B.size ≤ 100)
  (hc : Hid (∀ w, Calls Tryz.prog 37 #[.int .i64 (n / 10)] w fun e w' => e = .returned (.string A) ∧ Q w w'))
  (hd : Hid (∀ w, Calls Tryz.prog 37 #[.int .i64 (n % 10)] w fun e w' => e = .returned (.string B) ∧ Q w w')) :
    Calls Tryz.prog 37 #[.int .i64 n] w fun e w' => e = .returned (.string (A ++ B)) ∧ Q w w' := by
  go_enter Tryz.func37, Tryz.ntmps37
  go_wp2_with fail
  refine (hc.out _).mono ?_; rintro e w1 ⟨rfl, q1⟩
  go_wp2_with fail
  refine (hd.out _).mono ?_; rintro e w2 ⟨rfl, q2⟩
  go_wp2_with fail
  go_ret
  exact ⟨rfl, q1.trans q2⟩

theorem cat (a b c : List UInt8) (h : c = a ++ b) : (⟨a.toArray⟩ : ByteArray) ++ ⟨b.toArray⟩ = ⟨c.toArray⟩ := by
  subst h
  apply WideShapes.bytes_inj
  rw [Joins.data_append]
theorem itoa_small (n : Int) (h0 : 0 ≤ n) (h1 : n ≤ 9) : strOfNums [48 + n] = ⟨(Lib.itoa n).toArray⟩ := by
  unfold Lib.itoa strOfNums
  rw [if_neg (by omega), dd_small _ (by omega)]
  simp only [List.map_cons, List.map_nil]
  rw [show (48 + n).toNat = 48 + n.toNat by omega]
theorem itoa_neg (n : Int) (h0 : n < 0) : Lib.itoa n = [45] ++ Lib.itoa (-n) := by
  unfold Lib.itoa
  rw [if_pos h0, if_neg (by omega), show n.natAbs = (-n).toNat by omega]
  rfl
theorem itoa_high (n : Int) (h0 : 10 ≤ n) : Lib.itoa n = Lib.itoa (n / 10) ++ Lib.itoa (n % 10) := by
  unfold Lib.itoa
  rw [if_neg (by omega), if_neg (by omega), if_neg (by omega), dd_big _ (by omega), show (n / 10).toNat = n.toNat / 10 by omega, show (n % 10).toNat = n.toNat % 10 by omega, dd_small (n.toNat % 10) (by omega)]
theorem itoa_low (n q r : Int) (h0 : n ≤ -10) (hq : n = 10 * q + r) (hr0 : -9 ≤ r) (hr1 : r ≤ 0) : Lib.itoa n = Lib.itoa q ++ Lib.itoa (-r) := by
  unfold Lib.itoa
  rw [if_pos (by omega), if_pos (by omega), if_neg (by omega), dd_big _ (by omega), show q.natAbs = n.natAbs / 10 by omega, show (-r).toNat = n.natAbs % 10 by omega, dd_small (n.natAbs % 10) (by omega)]
  rfl
theorem itoa_len (n : Int) (h0 : -9223372036854775808 ≤ n) (h1 : n ≤ 9223372036854775807) : (⟨(Lib.itoa n).toArray⟩ : ByteArray).size ≤ 100 := by
  have e : (⟨(Lib.itoa n).toArray⟩ : ByteArray).size = (Lib.itoa n).length := by simp [ByteArray.size]
  have := Lib.itoa_length_le n h0 h1
  omega

theorem rformat (k : Nat) : ∀ (n : Int) (w : World), n.natAbs ≤ k → -9223372036854775808 ≤ n → n ≤ 9223372036854775807 →
    Calls Tryz.prog 37 #[.int .i64 n] w fun e w' => e = .returned (.string ⟨(Lib.itoa n).toArray⟩) ∧ Q w w' := by
  induction k using Nat.strongRecOn with
  | ind k ih =>
    intro n w hk h0 h1
    have small : ∀ (m : Int) (w : World), 0 ≤ m → m ≤ 9 → Calls Tryz.prog 37 #[.int .i64 m] w fun e w' => e = .returned (.string ⟨(Lib.itoa m).toArray⟩) ∧ Q w w' := fun m w a b => by
      rw [← itoa_small m a b]; exact rf_small m w a b
    by_cases a : 10 ≤ n
    · have h := rf_high n w a h1 _ _ (itoa_len (n / 10) (by omega) (by omega)) (itoa_len (n % 10) (by omega) (by omega)) (Lib.hid fun w => ih (k - 1) (by omega) (n / 10) w (by omega) (by omega) (by omega)) (Lib.hid fun w => small (n % 10) w (by omega) (by omega))
      rwa [cat _ _ _ (itoa_high n a)] at h
    · by_cases b : 0 ≤ n
      · exact small n w b (by omega)
      · by_cases c : -10 < n
        · have h := rf_neg n w (by omega) c _ (itoa_len (-n) (by omega) (by omega)) (Lib.hid fun w => small (-n) w (by omega) (by omega))
          rwa [cat [45] _ _ (itoa_neg n (by omega))] at h
        · have e := Int.mul_tdiv_add_tmod n 10
          have t1 := tm_pos n 10 (by omega)
          have t2 : n.tmod 10 ≤ 0 := by
            have h' := Int.tmod_nonneg 10 (show 0 ≤ -n by omega)
            rw [Int.neg_tmod] at h'
            omega
          generalize hq : n.tdiv 10 = q at *
          generalize hr : n.tmod 10 = r at *
          have h := rf_low n w (by omega) h0 _ _ (itoa_len q (by omega) (by omega)) (itoa_len (-r) (by omega) (by omega)) (by omega) (by omega) (by omega) (by omega) (Lib.hid fun w => by rw [hq]; exact ih (k - 1) (by omega) q w (by omega) (by omega) (by omega)) (Lib.hid fun w => by rw [hr]; exact small (-r) w (by omega) (by omega))
          rwa [cat _ _ _ (itoa_low n q r (by omega) (by omega) (by omega) t2)] at h

end Go.Proofs.YthekabflbpfjoaaGreatDoor.num
