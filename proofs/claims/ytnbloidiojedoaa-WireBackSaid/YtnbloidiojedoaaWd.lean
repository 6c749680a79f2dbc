/- Reading numbers: decodeNumber. -/
import Derived.Test.YtnbloidiojedoaaWe
namespace Go.Proofs.Ytnbloidiojedoaa.wir
open Go.RowKit

theorem drop_at (s : ByteArray) (k : Nat) (h : k < s.size) : s.data.toList.drop k = s[k] :: s.data.toList.drop (k + 1) := by
  rw [List.drop_eq_getElem_cons (show k < s.data.toList.length by simpa using h)]
  rfl
theorem drop_end (s : ByteArray) : s.data.toList.drop s.size = [] := List.drop_eq_nil_of_le (by simp)
/-- The three results. -/
def trip (t : Int × Nat × Int) : Ending := .returned (.tuple #[.int .i64 t.1, .int .i64 (t.2.1 : Int), .int .i64 t.2.2])
/-- What the loop knows. -/
def Got (s : ByteArray) (ANS : Int × Nat × Int) (k u : Nat) : Prop := dec k u (s.data.toList.drop k) = ANS ∧ u < 128 ^ k ∧ k ≤ 9

theorem pow_two_seven (k : Nat) : 2 ^ (7 * k) = 128 ^ k := by rw [Nat.pow_mul]
theorem pow_eight : 128 ^ 8 = 72057594037927936 := by decide
theorem group_lt (u c k : Nat) (hu : u < 128 ^ k) (hk : k ≤ 8 ∨ k = 9 ∧ c ≤ 1) : u + c % 128 * 128 ^ k < 18446744073709551616 := by
  rcases hk with hk | ⟨rfl, hc⟩
  · have h1 := part_lt u c _ hu
    have h2 : 128 ^ k ≤ 128 ^ 8 := Nat.pow_le_pow_right (by decide) hk
    rw [pow_eight] at h2
    omega
  · rw [pow9] at *
    omega
theorem group_val (u c k : Nat) (hu : u < 128 ^ k) (hk : k ≤ 8 ∨ k = 9 ∧ c ≤ 1) :
    bits .or .u64 (u : Int) (IntKind.u64.wrap ((c : Int) % 128 * 2 ^ (7 * k))) = ((u + c % 128 * 128 ^ k : Nat) : Int) := by
  have h1 := group_lt u c k hu hk
  have e : IntKind.u64.wrap ((c : Int) % 128 * 2 ^ (7 * k)) = ((c % 128 * 128 ^ k : Nat) : Int) := by
    rw [show (c : Int) % 128 * 2 ^ (7 * k) = ((c % 128 * 128 ^ k : Nat) : Int) by rw [← pow_two_seven]; push_cast; rfl, IntKind.wrap_u64]
    omega
  rw [e, u64_or_nat u _ (by omega) (by omega), Nat.or_comm, nat_join (7 * k) _ u (by rw [pow_two_seven]; exact Nat.mul_mod_left _ _) (by rw [pow_two_seven]; exact hu), Nat.add_comm]

theorem Got.more {s : ByteArray} {ANS : Int × Nat × Int} {k u : Nat} (h : Got s ANS k u) (hk : k < s.size) (h9 : k ≠ 9) (h2 : 128 ≤ s[k].toNat) : Got s ANS (k + 1) (u + s[k].toNat % 128 * 128 ^ k) := by
  obtain ⟨h1, hu, hl⟩ := h
  rw [drop_at s k hk, dec_more _ _ _ _ (by omega) h2] at h1
  exact ⟨h1, by rw [pow_next]; exact part_lt _ _ _ hu, by omega⟩
theorem Got.range {s : ByteArray} {ANS : Int × Nat × Int} {u : Nat} (h : Got s ANS 9 u) (hk : 9 < s.size) (h2 : 1 < s[9].toNat) : ANS = (0, 0, 5) := by
  obtain ⟨h1, hu, hl⟩ := h
  rw [drop_at s 9 hk, dec_range _ _ _ h2] at h1
  exact h1.symm
theorem Got.zero {s : ByteArray} {ANS : Int × Nat × Int} {k u : Nat} (h : Got s ANS k u) (hk : k < s.size) (h0 : 0 < k) (h2 : s[k].toNat = 0) : ANS = (0, 0, 1) := by
  obtain ⟨h1, hu, hl⟩ := h
  rw [drop_at s k hk, dec_zero _ _ _ _ h2 h0] at h1
  exact h1.symm
theorem Got.last {s : ByteArray} {ANS : Int × Nat × Int} {k u : Nat} (h : Got s ANS k u) (hk : k < s.size) (h9 : ¬ (k = 9 ∧ 1 < s[k].toNat)) (h2 : s[k].toNat < 128) (h3 : ¬ (s[k].toNat = 0 ∧ 0 < k)) :
    ANS = (zag (u + s[k].toNat % 128 * 128 ^ k), k + 1, 0) := by
  obtain ⟨h1, hu, hl⟩ := h
  rw [drop_at s k hk, dec_last _ _ _ _ h9 h2 h3] at h1
  exact h1.symm
theorem Got.short {s : ByteArray} {ANS : Int × Nat × Int} {u : Nat} (h : Got s ANS s.size u) : ANS = (0, 0, 40) := by
  obtain ⟨h1, hu, hl⟩ := h
  rw [drop_end] at h1
  exact h1.symm

set_option maxRecDepth 100000 in
set_option maxHeartbeats 4000000 in
theorem decodeNumber_any (s : ByteArray) (w : World) (_hs : s.size ≤ 1000000) :
    Calls Try.prog 33 #[.string s] w fun e w' => e = trip (dec 0 0 s.data.toList) ∧ w = w' := by
  have h0 : Hid (Got s (dec 0 0 s.data.toList) 0 0) := ⟨by rw [List.drop_zero], by decide, by decide⟩
  generalize dec 0 0 s.data.toList = ANS at *
  go_enter Try.func33, Try.ntmps33
  go_wp2_with fail
  go_loop [5, 6] (fun x i => ∃ k u : Nat, k ≤ s.size ∧ i = .int .i64 k ∧ x = .int .u64 (u : Int) ∧ Hid (Got s ANS k u)) (fun _ i => s.size - (intOf i).toNat)
  case atStart => exact ⟨0, 0, Nat.zero_le _, rfl, rfl, h0.out⟩
  case round =>
    obtain ⟨k, u, hk, rfl, rfl, HG⟩ := hrel
    clear h0
    by_cases hlt : k < s.size
    · by_cases h9 : k = 9 ∧ 1 < s[k].toNat
      · have f1 : ((k : Int) == 9) = true := by rw [beq_iff_eq]; omega
        have f2 : 1 < (s[k].toNat : Int) := by omega
        have HA : Hid (ANS = (0, 0, 5)) := by obtain ⟨rfl, h9⟩ := h9; exact Got.range HG.out hlt h9
        clear h9 hk HG
        go_wp2_with fail
        go_ret3
        exact ⟨by rw [HA.out]; rfl, rfl⟩
      · have hk9 := HG.out.2.2
        by_cases h2 : 128 ≤ s[k].toNat
        · have f1 : ((k : Int) == 9) = false := by rw [beq_eq_false_iff_ne]; omega
          have f2 : 128 ≤ (s[k].toNat : Int) := by omega
          have f3 : (k : Int) < 9 := by omega
          have HN := Lib.hid (Got.more HG.out hlt (by omega) h2)
          have HV := Lib.hid (group_val u s[k].toNat k HG.out.2.1 (by omega))
          clear h9 h2 hk HG hk9
          go_wp2_with fail
          go_round
          case rel => exact ⟨k + 1, _, by omega, by go_num, by rw [HV.out], HN.out⟩
          case measure => simp [intOf]; omega
        · have f2 : ¬ 128 ≤ (s[k].toNat : Int) := by omega
          by_cases h3 : s[k].toNat = 0 ∧ 0 < k
          · have HA : Hid (ANS = (0, 0, 1)) := Got.zero HG.out hlt h3.2 h3.1
            have f4 : ((s[k].toNat : Int) == 0) = true := by rw [beq_iff_eq]; omega
            have f5 : 0 < (k : Int) := by omega
            by_cases hk9 : k = 9
            · have f1 : ((k : Int) == 9) = true := by rw [beq_iff_eq]; omega
              have f6 : decide (1 < (s[k].toNat : Int)) = false := decide_eq_false (by omega)
              clear h9 h2 h3 hk HG hk9
              go_wp2_with fail
              go_ret3
              exact ⟨by rw [HA.out]; rfl, rfl⟩
            · have f1 : ((k : Int) == 9) = false := by rw [beq_eq_false_iff_ne]; omega
              clear h9 h2 h3 hk HG hk9
              go_wp2_with fail
              go_ret3
              exact ⟨by rw [HA.out]; rfl, rfl⟩
          · have HA := Lib.hid (Got.last HG.out hlt h9 (by omega) h3)
            have hV := group_val u s[k].toNat k HG.out.2.1 (by omega)
            have CU : Hid (∀ w, Calls Try.prog 37 #[.int .u64 (bits .or .u64 (u : Int) (IntKind.u64.wrap ((s[k].toNat : Int) % 128 * 2 ^ (7 * k))))] w fun e w' => e = .returned (.int .i64 (zag (u + s[k].toNat % 128 * 128 ^ k))) ∧ w = w') := fun w => by
              rw [hV]
              exact unfold_any _ w (group_lt _ _ _ HG.out.2.1 (by omega))
            clear hV
            by_cases hk9 : k = 9
            · have f1 : ((k : Int) == 9) = true := by rw [beq_iff_eq]; omega
              have f6 : decide (1 < (s[k].toNat : Int)) = false := decide_eq_false (by omega)
              have f4 : ((s[k].toNat : Int) == 0) = false := by rw [beq_eq_false_iff_ne]; omega
              clear h9 h2 h3 hk HG hk9
              go_wp2_with fail
              refine (CU.out _).mono ?_; rintro e w' ⟨rfl, rfl⟩
              go_wp2_with fail
              go_ret3
              exact ⟨by rw [HA.out]; rfl, rfl⟩
            · have f1 : ((k : Int) == 9) = false := by rw [beq_eq_false_iff_ne]; omega
              by_cases hc : s[k].toNat = 0
              · have f4 : ((s[k].toNat : Int) == 0) = true := by rw [beq_iff_eq]; omega
                have f5 : ¬ 0 < (k : Int) := by omega
                clear h9 h2 h3 hk HG hk9 hc
                go_wp2_with fail
                refine (CU.out _).mono ?_; rintro e w' ⟨rfl, rfl⟩
                go_wp2_with fail
                go_ret3
                exact ⟨by rw [HA.out]; rfl, rfl⟩
              · have f4 : ((s[k].toNat : Int) == 0) = false := by rw [beq_eq_false_iff_ne]; omega
                clear h9 h2 h3 hk HG hk9 hc
                go_wp2_with fail
                refine (CU.out _).mono ?_; rintro e w' ⟨rfl, rfl⟩
                go_wp2_with fail
                go_ret3
                exact ⟨by rw [HA.out]; rfl, rfl⟩
    · obtain rfl : k = s.size := by omega
      have HA := Lib.hid (Got.short HG.out)
      clear HG
      go_wp2_with fail
      go_ret3
      exact ⟨by rw [HA.out]; rfl, rfl⟩

end Go.Proofs.Ytnbloidiojedoaa.wir
