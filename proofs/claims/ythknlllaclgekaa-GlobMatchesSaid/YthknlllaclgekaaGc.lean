/- Groups of a pattern, counted by the program, the statements and the reference. -/
import Derived.Test.YthknlllaclgekaaGw
namespace Go.Proofs.Ythknlllaclgekaa.glo
open Go.RowKit

/-- The byte before place k is an asterisk. -/
def aft (s : ByteArray) (k : Nat) : Prop := ∃ h : k - 1 < s.size, 0 < k ∧ s[k - 1].toNat = 42
/-- What a loop that counts groups knows. -/
def Cnt (s : ByteArray) (ANS k n : Nat) : Prop := n ≤ k ∧ ∃ m r, (grp n m r (s.data.toList.drop k)).1 = ANS ∧ (0 < r ↔ aft s k)
theorem Cnt.start (s : ByteArray) : Cnt s (grp 0 0 0 s.data.toList).1 0 0 :=
  ⟨Nat.le_refl _, 0, 0, by rw [List.drop_zero], fun h => absurd h (by omega), fun ⟨_, h, _⟩ => absurd h (by omega)⟩
theorem byte42 {b : UInt8} : b = 42 ↔ b.toNat = 42 := by
  rw [← UInt8.toNat_inj]
  exact Iff.rfl
theorem Cnt.other {s : ByteArray} {ANS k n : Nat} (h : Cnt s ANS k n) (hk : k < s.size) (hc : s[k].toNat ≠ 42) : Cnt s ANS (k + 1) n := by
  obtain ⟨hn, m, r, h1, h2⟩ := h
  rw [drop_at s k hk] at h1
  unfold grp at h1
  rw [if_neg (by rw [byte42]; exact hc)] at h1
  exact ⟨by omega, m, 0, h1, fun h => absurd h (by omega), fun ⟨_, _, h⟩ => absurd h hc⟩
theorem Cnt.again {s : ByteArray} {ANS k n : Nat} (h : Cnt s ANS k n) (hk : k < s.size) (hc : s[k].toNat = 42) (ha : aft s k) : Cnt s ANS (k + 1) n := by
  obtain ⟨hn, m, r, h1, h2⟩ := h
  rw [drop_at s k hk] at h1
  unfold grp at h1
  have hr := h2.2 ha
  rw [if_pos (by rw [byte42]; exact hc), if_neg (by omega)] at h1
  exact ⟨by omega, _, r + 1, h1, fun _ => ⟨hk, Nat.succ_pos k, hc⟩, fun _ => Nat.succ_pos r⟩
theorem Cnt.new {s : ByteArray} {ANS k n : Nat} (h : Cnt s ANS k n) (hk : k < s.size) (hc : s[k].toNat = 42) (ha : ¬ aft s k) : Cnt s ANS (k + 1) (n + 1) := by
  obtain ⟨hn, m, r, h1, h2⟩ := h
  rw [drop_at s k hk] at h1
  unfold grp at h1
  have hr : r = 0 := Nat.eq_zero_of_not_pos fun x => ha (h2.1 x)
  rw [if_pos (by rw [byte42]; exact hc), if_pos hr] at h1
  exact ⟨by omega, _, r + 1, h1, fun _ => ⟨hk, Nat.succ_pos k, hc⟩, fun _ => Nat.succ_pos r⟩
theorem Cnt.done {s : ByteArray} {ANS n : Nat} (h : Cnt s ANS s.size n) : n = ANS := by
  obtain ⟨_, m, r, h1, _⟩ := h
  rw [drop_end] at h1
  exact h1

set_option maxHeartbeats 1000000 in
theorem countGroups_any (s : ByteArray) (w : World) (_hs : s.size ≤ 1000000) :
    Calls Try.prog 20 #[.string s] w fun e w' => e = .returned (.int .i64 ((grp 0 0 0 s.data.toList).1 : Int)) ∧ w = w' := by
  have h0 := Lib.hid (Cnt.start s)
  generalize (grp 0 0 0 s.data.toList).1 = ANS at *
  go_enter Try.func20, Try.ntmps20
  go_wp2_with fail
  go_loop [3, 7] (fun x i => ∃ k n : Nat, k ≤ s.size ∧ n ≤ k ∧ i = .int .i64 k ∧ x = .int .i64 (n : Int) ∧ Hid (Cnt s ANS k n)) (fun _ i => s.size - (intOf i).toNat)
  case atStart => exact ⟨0, 0, Nat.zero_le _, Nat.zero_le _, rfl, rfl, h0⟩
  case round =>
    obtain ⟨k, n, hk, hn, rfl, rfl, HG⟩ := hrel
    clear h0
    by_cases hlt : k < s.size
    · by_cases hc : s[k].toNat = 42
      · have f1 : ((s[k].toNat : Int) == 42) = true := by rw [beq_iff_eq]; omega
        match k, hk, hn, HG, hlt, hc, f1 with
        | 0, hk, hn, HG, hlt, hc, f1 =>
          have HN := Lib.hid (HG.out.new hlt hc (fun ⟨_, h, _⟩ => absurd h (by omega)))
          clear hc HG
          go_wp2_with fail
          go_round
          case rel => exact ⟨_, n + 1, by omega, by omega, by go_num, by go_num, HN⟩
          case measure => simp [intOf]; omega
        | j + 1, hk, hn, HG, hlt, hc, f1 =>
          have hj : j < s.size := by omega
          have f2 : (((j + 1 : Nat) : Int) == 0) = false := by rw [beq_eq_false_iff_ne]; omega
          by_cases hp : s[j].toNat = 42
          · have f3 : ((s[j].toNat : Int) != 42) = false := by rw [bne_eq_false_iff_eq]; omega
            have HN := Lib.hid (HG.out.again hlt hc ⟨hj, by omega, hp⟩)
            clear hc hp HG
            go_wp2_with fail
            go_round
            case rel => exact ⟨_, n, by omega, by omega, by go_num, by go_num, HN⟩
            case measure => simp [intOf]; omega
          · have f3 : ((s[j].toNat : Int) != 42) = true := by rw [bne_iff_ne]; omega
            have HN := Lib.hid (HG.out.new hlt hc (fun ⟨_, _, h⟩ => absurd h hp))
            clear hc hp HG
            go_wp2_with fail
            go_round
            case rel => exact ⟨_, n + 1, by omega, by omega, by go_num, by go_num, HN⟩
            case measure => simp [intOf]; omega
      · have f1 : ((s[k].toNat : Int) == 42) = false := by rw [beq_eq_false_iff_ne]; omega
        have HN := Lib.hid (HG.out.other hlt hc)
        clear hc HG
        go_wp2_with fail
        go_round
        case rel => exact ⟨k + 1, n, by omega, by omega, by go_num, by go_num, HN⟩
        case measure => simp [intOf]; omega
    · obtain rfl : k = s.size := by omega
      have HA := Lib.hid (HG.out.done)
      clear HG
      go_wp2_with fail
      go_ret
      exact ⟨by rw [HA.out]; rfl, rfl⟩

set_option maxHeartbeats 1000000 in
theorem groups_any (s : ByteArray) (w : World) (_hs : s.size ≤ 1000000) :
    Calls Try.prog 17 #[.string s] w fun e w' => e = .returned (.int .i64 ((grp 0 0 0 s.data.toList).1 : Int)) ∧ w = w' := by
  have h0 := Lib.hid (Cnt.start s)
  generalize (grp 0 0 0 s.data.toList).1 = ANS at *
  go_enter Try.func17, Try.ntmps17
  go_wp2_with fail
  go_loop [3, 4] (fun x i => ∃ k n : Nat, k ≤ s.size ∧ n ≤ k ∧ i = .int .i64 k ∧ x = .int .i64 (n : Int) ∧ Hid (Cnt s ANS k n)) (fun _ i => s.size - (intOf i).toNat)
  case atStart => exact ⟨0, 0, Nat.zero_le _, Nat.zero_le _, rfl, rfl, h0⟩
  case round =>
    obtain ⟨k, n, hk, hn, rfl, rfl, HG⟩ := hrel
    clear h0
    by_cases hlt : k < s.size
    · by_cases hc : s[k].toNat = 42
      · have f1 : ((s[k].toNat : Int) == 42) = true := by rw [beq_iff_eq]; omega
        match k, hk, hn, HG, hlt, hc, f1 with
        | 0, hk, hn, HG, hlt, hc, f1 =>
          have HN := Lib.hid (HG.out.new hlt hc (fun ⟨_, h, _⟩ => absurd h (by omega)))
          clear hc HG
          go_wp2_with fail
          go_round
          case rel => exact ⟨_, n + 1, by omega, by omega, by go_num, by go_num, HN⟩
          case measure => simp [intOf]; omega
        | j + 1, hk, hn, HG, hlt, hc, f1 =>
          have hj : j < s.size := by omega
          have f2 : (((j + 1 : Nat) : Int) == 0) = false := by rw [beq_eq_false_iff_ne]; omega
          by_cases hp : s[j].toNat = 42
          · have f3 : ((s[j].toNat : Int) != 42) = false := by rw [bne_eq_false_iff_eq]; omega
            have HN := Lib.hid (HG.out.again hlt hc ⟨hj, by omega, hp⟩)
            clear hc hp HG
            go_wp2_with fail
            go_round
            case rel => exact ⟨_, n, by omega, by omega, by go_num, by go_num, HN⟩
            case measure => simp [intOf]; omega
          · have f3 : ((s[j].toNat : Int) != 42) = true := by rw [bne_iff_ne]; omega
            have HN := Lib.hid (HG.out.new hlt hc (fun ⟨_, _, h⟩ => absurd h hp))
            clear hc hp HG
            go_wp2_with fail
            go_round
            case rel => exact ⟨_, n + 1, by omega, by omega, by go_num, by go_num, HN⟩
            case measure => simp [intOf]; omega
      · have f1 : ((s[k].toNat : Int) == 42) = false := by rw [beq_eq_false_iff_ne]; omega
        have HN := Lib.hid (HG.out.other hlt hc)
        clear hc HG
        go_wp2_with fail
        go_round
        case rel => exact ⟨k + 1, n, by omega, by omega, by go_num, by go_num, HN⟩
        case measure => simp [intOf]; omega
    · obtain rfl : k = s.size := by omega
      have HA := Lib.hid (HG.out.done)
      clear HG
      go_wp2_with fail
      go_ret
      exact ⟨by rw [HA.out]; rfl, rfl⟩

/-- The reference's. -/
def Cnt2 (s : ByteArray) (ANS : Nat × Nat) (k n m r : Nat) : Prop := grp n m r (s.data.toList.drop k) = ANS
theorem Cnt2.other {s : ByteArray} {ANS : Nat × Nat} {k n m r : Nat} (h : Cnt2 s ANS k n m r) (hk : k < s.size) (hc : s[k].toNat ≠ 42) : Cnt2 s ANS (k + 1) n m 0 := by
  unfold Cnt2 at h
  rw [drop_at s k hk] at h
  unfold grp at h
  rw [if_neg (by rw [byte42]; exact hc)] at h
  exact h
theorem Cnt2.star {s : ByteArray} {ANS : Nat × Nat} {k n m r : Nat} (h : Cnt2 s ANS k n m r) (hk : k < s.size) (hc : s[k].toNat = 42) : Cnt2 s ANS (k + 1) (if r = 0 then n + 1 else n) (max m (r + 1)) (r + 1) := by
  unfold Cnt2 at h
  rw [drop_at s k hk] at h
  unfold grp at h
  rw [if_pos (by rw [byte42]; exact hc)] at h
  exact h
theorem Cnt2.done {s : ByteArray} {ANS : Nat × Nat} {n m r : Nat} (h : Cnt2 s ANS s.size n m r) : ANS = (n, m) := by
  unfold Cnt2 at h
  rw [drop_end] at h
  exact h.symm

set_option maxHeartbeats 1000000 in
theorem refGroups_any (s : ByteArray) (w : World) (_hs : s.size ≤ 1000000) :
    Calls Try.prog 22 #[.string s] w fun e w' => e = .returned (.tuple #[.int .i64 ((grp 0 0 0 s.data.toList).1 : Int), .int .i64 ((grp 0 0 0 s.data.toList).2 : Int)]) ∧ w = w' := by
  have h0 : Hid (Cnt2 s (grp 0 0 0 s.data.toList) 0 0 0 0) := show grp 0 0 0 (s.data.toList.drop 0) = _ by rw [List.drop_zero]
  generalize (grp 0 0 0 s.data.toList) = ANS at *
  go_enter Try.func22, Try.ntmps22
  go_wp2_with fail
  go_loop [4, 5, 6, 7] (fun x y z i => ∃ k n m r : Nat, k ≤ s.size ∧ n ≤ k ∧ m ≤ k ∧ r ≤ k ∧ i = .int .i64 k ∧ x = .int .i64 (n : Int) ∧ y = .int .i64 (m : Int) ∧ z = .int .i64 (r : Int) ∧ Hid (Cnt2 s ANS k n m r)) (fun _ _ _ i => s.size - (intOf i).toNat)
  case atStart => exact ⟨0, 0, 0, 0, Nat.zero_le _, Nat.zero_le _, Nat.zero_le _, Nat.zero_le _, rfl, rfl, rfl, rfl, h0⟩
  case round =>
    obtain ⟨k, n, m, r, hk, hn, hm, hr, rfl, rfl, rfl, rfl, HG⟩ := hrel
    clear h0
    by_cases hlt : k < s.size
    · by_cases hc : s[k].toNat = 42
      · have f1 : ((s[k].toNat : Int) != 42) = false := by rw [bne_eq_false_iff_eq]; omega
        have HN := Lib.hid (HG.out.star hlt hc)
        have hmax : max (m : Int) ((r : Int) + 1) = ((max m (r + 1) : Nat) : Int) := by omega
        have HX := Lib.hid hmax
        clear hmax
        by_cases hr0 : r = 0
        · have f2 : ((r : Int) + 1 == 1) = true := by rw [beq_iff_eq]; omega
          rw [if_pos hr0] at HN
          clear hc HG hr0
          go_wp2_with fail
          go_round
          case rel => exact ⟨k + 1, n + 1, _, _, by omega, by omega, by omega, by omega, by go_num, by go_num, by rw [HX.out], by go_num, HN⟩
          case measure => simp [intOf]; omega
        · have f2 : ((r : Int) + 1 == 1) = false := by rw [beq_eq_false_iff_ne]; omega
          rw [if_neg hr0] at HN
          clear hc HG hr0
          go_wp2_with fail
          go_round
          case rel => exact ⟨k + 1, n, _, _, by omega, by omega, by omega, by omega, by go_num, by go_num, by rw [HX.out], by go_num, HN⟩
          case measure => simp [intOf]; omega
      · have f1 : ((s[k].toNat : Int) != 42) = true := by rw [bne_iff_ne]; omega
        have HN := Lib.hid (HG.out.other hlt hc)
        clear hc HG
        go_wp2_with fail
        go_round
        case rel => exact ⟨k + 1, n, m, 0, by omega, by omega, by omega, by omega, by go_num, by go_num, by go_num, by go_num, HN⟩
        case measure => simp [intOf]; omega
    · obtain rfl : k = s.size := by omega
      have HA := Lib.hid (HG.out.done)
      clear HG
      go_wp2_with fail
      go_ret2
      exact ⟨by rw [HA.out]; rfl, rfl⟩

end Go.Proofs.Ythknlllaclgekaa.glo
