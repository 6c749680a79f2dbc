/- The reference's key: numbers. -/
import Derived.Test.YthekabflbpfjoaaGreatDoorRkzm
namespace Go.Proofs.YthekabflbpfjoaaGreatDoor.adr
open Go.RowKit
open Go.Proofs.YthekabflbpfjoaaGreatDoor

/-- The digits from a place on, byte by byte. -/
theorem digs_at (s : ByteArray) (k : Nat) (h : k < s.size) : digs (s.data.toList.drop k) = if txt.digit s[k] then s[k] :: digs (s.data.toList.drop (k + 1)) else [] := by
  have e : s.data.toList.drop k = s[k] :: s.data.toList.drop (k + 1) := by
    rw [List.drop_eq_getElem_cons (by simpa using h)]
    rfl
  rw [e]
  unfold digs
  rw [List.takeWhile_cons]

set_option maxHeartbeats 16000000 in
/-- A number key that is none. -/
theorem refKy_numno (s DG : ByteArray) (ANS : Nat) (x e0 : Int) (w : World) (_hs : s.size ≤ 1000000) (he : s.toList.isEmpty = false) (hp : 0 < s.size) (h0 : ((s[0].toNat : Int) != 91) = false)
  (hns : ((s.size : Int) ≤ 1) ∨ (1 < (s.size : Int) ∧ ∃ h : 1 < s.size, ((s[1].toNat : Int) == 34) = false))
  (HA : Hid (1 + (digs (s.data.toList.drop 1)).length = ANS)) (HD : Hid (s.extract 1 ANS = DG))
  (cP : Hid (∀ w', Calls Tryz.prog 90 #[.string DG] w' fun e w'' => e = .returned (.tuple #[.int .i64 x, .int .i64 e0]) ∧ w' = w''))
  (hno : (e0 != 0) = true ∨ ((e0 != 0) = false ∧ (s.size : Int) ≤ (ANS : Int)) ∨ ((e0 != 0) = false ∧ (ANS : Int) < (s.size : Int) ∧ ∃ h : ANS < s.size, ((s[ANS].toNat : Int) != 93) = true)) :
    Calls Tryz.prog 71 #[.string s] w fun e w' => e = .returned (.tuple #[.agg #[.int .i64 0, .int .i64 0, .string ⟨#[]⟩], .string ⟨#[]⟩, .bool false]) ∧ Q w w' := by
  have b1 := Lib.hid (Bk.new #[.int .i64 0, .int .i64 0, .string ⟨#[]⟩] 25 w)
  have Q1 := Lib.hid (Q.alloc w (.cells #[.int .i64 0, .int .i64 0, .string ⟨#[]⟩] 25))
  rcases hns with hn1 | ⟨hn1, hn2, hn3⟩
  · go_enter Tryz.func71, Tryz.ntmps71
    go_wp2_with fail
    generalize w.alloc (.cells #[.int .i64 0, .int .i64 0, .string ⟨#[]⟩] 25) = w1 at *
    go_loop [9] (fun i => ∃ k : Nat, 1 ≤ k ∧ k ≤ s.size ∧ i = .int .i64 k ∧ Hid (k + (digs (s.data.toList.drop k)).length = ANS)) (fun i => s.size - (intOf i).toNat)
    case atStart => exact ⟨1, Nat.le_refl _, hp, rfl, HA⟩
    case round =>
      clear HA
      obtain ⟨k, hk1, hk, rfl, HS⟩ := hrel
      have hex : (k = s.size) ∨ (∃ h : k < s.size, (k : Int) < (s.size : Int) ∧ ¬ (48 : Int) ≤ (s[k].toNat : Int) ∧ ANS = k) ∨ (∃ h : k < s.size, (k : Int) < (s.size : Int) ∧ (48 : Int) ≤ (s[k].toNat : Int) ∧ ¬ (s[k].toNat : Int) ≤ 57 ∧ ANS = k) ∨ (∃ h : k < s.size, (k : Int) < (s.size : Int) ∧ (48 : Int) ≤ (s[k].toNat : Int) ∧ (s[k].toNat : Int) ≤ 57 ∧ Hid (k + 1 + (digs (s.data.toList.drop (k + 1))).length = ANS)) := by
        by_cases hlt : k < s.size
        · right
          have hat := digs_at s k hlt
          have hd := txt.digit_iff s[k]
          have hz := HS.out
          by_cases a : 48 ≤ s[k].toNat
          · by_cases b : s[k].toNat ≤ 57
            · rw [if_pos (hd.2 ⟨a, b⟩)] at hat
              rw [hat, List.length_cons] at hz
              exact .inr (.inr ⟨hlt, by omega, by omega, by omega, Lib.hid (by omega)⟩)
            · rw [if_neg (fun h => b (hd.1 h).2)] at hat
              rw [hat, List.length_nil] at hz
              exact .inr (.inl ⟨hlt, by omega, by omega, by omega, by omega⟩)
          · rw [if_neg (fun h => a (hd.1 h).1)] at hat
            rw [hat, List.length_nil] at hz
            exact .inl ⟨hlt, by omega, by omega, by omega⟩
        · exact .inl (by omega)
      have hk1' : (1 : Int) ≤ (k : Int) := by omega
      rcases hex with rfl | ⟨hlt, f1, f2, rfl⟩ | ⟨hlt, f1, f2, f3, rfl⟩ | ⟨hlt, f1, f2, f3, HZ⟩
      · obtain rfl : ANS = s.size := by
          have hz := HS.out
          rw [List.drop_of_length_le (by simp)] at hz
          exact hz.symm
        have eD := HD.out
        clear HS HD
        have z0 := b1.out.frozen 0
        have z1 := b1.out.frozen 1
        have z2 := b1.out.frozen 2
        have x0 := b1.out.at 0 _ rfl
        have x1 := b1.out.at 1 _ rfl
        have x2 := b1.out.at 2 _ rfl
        have bp := b1.out.put3 (.int .i64 0) (.int .i64 0) (.string ⟨#[]⟩)
        have y0 := bp.at 0 _ rfl
        have y1 := bp.at 1 _ rfl
        have y2 := bp.at 2 _ rfl
        have QP := Lib.hid (Q1.out.put3 (Nat.le_refl _) (.int .i64 0) (.int .i64 0) (.string ⟨#[]⟩))
        clear bp b1 Q1
        rcases hno with g1 | ⟨g1, g2⟩ | ⟨g1, g2, g3, g4⟩
        · go_wp2_with fail
          refine (cP.out _).mono ?_; rintro e w4 ⟨rfl, rfl⟩
          go_wp2_with fail
          refine bodyPost_ret (by simp [results, Tryz.results71, go_sem, y0, y1, y2]; try rfl) rfl ?_
          exact ⟨rfl, QP.out⟩
        · go_wp2_with fail
          refine (cP.out _).mono ?_; rintro e w4 ⟨rfl, rfl⟩
          go_wp2_with fail
          refine bodyPost_ret (by simp [results, Tryz.results71, go_sem, y0, y1, y2]; try rfl) rfl ?_
          exact ⟨rfl, QP.out⟩
        · exact absurd g3 (Nat.lt_irrefl _)
      all_goals exact absurd hlt (by omega)
  · go_enter Tryz.func71, Tryz.ntmps71
    go_wp2_with fail
    generalize w.alloc (.cells #[.int .i64 0, .int .i64 0, .string ⟨#[]⟩] 25) = w1 at *
    go_loop [9] (fun i => ∃ k : Nat, 1 ≤ k ∧ k ≤ s.size ∧ i = .int .i64 k ∧ Hid (k + (digs (s.data.toList.drop k)).length = ANS)) (fun i => s.size - (intOf i).toNat)
    case atStart => exact ⟨1, Nat.le_refl _, hp, rfl, HA⟩
    case round =>
      clear HA
      obtain ⟨k, hk1, hk, rfl, HS⟩ := hrel
      have hex : (k = s.size) ∨ (∃ h : k < s.size, (k : Int) < (s.size : Int) ∧ ¬ (48 : Int) ≤ (s[k].toNat : Int) ∧ ANS = k) ∨ (∃ h : k < s.size, (k : Int) < (s.size : Int) ∧ (48 : Int) ≤ (s[k].toNat : Int) ∧ ¬ (s[k].toNat : Int) ≤ 57 ∧ ANS = k) ∨ (∃ h : k < s.size, (k : Int) < (s.size : Int) ∧ (48 : Int) ≤ (s[k].toNat : Int) ∧ (s[k].toNat : Int) ≤ 57 ∧ Hid (k + 1 + (digs (s.data.toList.drop (k + 1))).length = ANS)) := by
        by_cases hlt : k < s.size
        · right
          have hat := digs_at s k hlt
          have hd := txt.digit_iff s[k]
          have hz := HS.out
          by_cases a : 48 ≤ s[k].toNat
          · by_cases b : s[k].toNat ≤ 57
            · rw [if_pos (hd.2 ⟨a, b⟩)] at hat
              rw [hat, List.length_cons] at hz
              exact .inr (.inr ⟨hlt, by omega, by omega, by omega, Lib.hid (by omega)⟩)
            · rw [if_neg (fun h => b (hd.1 h).2)] at hat
              rw [hat, List.length_nil] at hz
              exact .inr (.inl ⟨hlt, by omega, by omega, by omega, by omega⟩)
          · rw [if_neg (fun h => a (hd.1 h).1)] at hat
            rw [hat, List.length_nil] at hz
            exact .inl ⟨hlt, by omega, by omega, by omega⟩
        · exact .inl (by omega)
      have hk1' : (1 : Int) ≤ (k : Int) := by omega
      rcases hex with rfl | ⟨hlt, f1, f2, rfl⟩ | ⟨hlt, f1, f2, f3, rfl⟩ | ⟨hlt, f1, f2, f3, HZ⟩
      rotate_right 1
      · clear HS hno HD cP b1 Q1
        go_wp2_with fail
        go_round
        case rel => exact ⟨k + 1, by omega, hlt, by go_num, HZ⟩
        case measure => simp [intOf]; omega
      · obtain rfl : ANS = s.size := by
          have hz := HS.out
          rw [List.drop_of_length_le (by simp)] at hz
          exact hz.symm
        have eD := HD.out
        clear HS HD
        have z0 := b1.out.frozen 0
        have z1 := b1.out.frozen 1
        have z2 := b1.out.frozen 2
        have x0 := b1.out.at 0 _ rfl
        have x1 := b1.out.at 1 _ rfl
        have x2 := b1.out.at 2 _ rfl
        have bp := b1.out.put3 (.int .i64 0) (.int .i64 0) (.string ⟨#[]⟩)
        have y0 := bp.at 0 _ rfl
        have y1 := bp.at 1 _ rfl
        have y2 := bp.at 2 _ rfl
        have QP := Lib.hid (Q1.out.put3 (Nat.le_refl _) (.int .i64 0) (.int .i64 0) (.string ⟨#[]⟩))
        clear bp b1 Q1
        rcases hno with g1 | ⟨g1, g2⟩ | ⟨g1, g2, g3, g4⟩
        · go_wp2_with fail
          refine (cP.out _).mono ?_; rintro e w4 ⟨rfl, rfl⟩
          go_wp2_with fail
          refine bodyPost_ret (by simp [results, Tryz.results71, go_sem, y0, y1, y2]; try rfl) rfl ?_
          exact ⟨rfl, QP.out⟩
        · go_wp2_with fail
          refine (cP.out _).mono ?_; rintro e w4 ⟨rfl, rfl⟩
          go_wp2_with fail
          refine bodyPost_ret (by simp [results, Tryz.results71, go_sem, y0, y1, y2]; try rfl) rfl ?_
          exact ⟨rfl, QP.out⟩
        · exact absurd g3 (Nat.lt_irrefl _)
      all_goals
        have eD := HD.out
        clear HS HD hk hk1
        have z0 := b1.out.frozen 0
        have z1 := b1.out.frozen 1
        have z2 := b1.out.frozen 2
        have x0 := b1.out.at 0 _ rfl
        have x1 := b1.out.at 1 _ rfl
        have x2 := b1.out.at 2 _ rfl
        have bp := b1.out.put3 (.int .i64 0) (.int .i64 0) (.string ⟨#[]⟩)
        have y0 := bp.at 0 _ rfl
        have y1 := bp.at 1 _ rfl
        have y2 := bp.at 2 _ rfl
        have QP := Lib.hid (Q1.out.put3 (Nat.le_refl _) (.int .i64 0) (.int .i64 0) (.string ⟨#[]⟩))
        clear bp b1 Q1
        rcases hno with g1 | ⟨g1, g2⟩ | ⟨g1, g2, g3, g4⟩
        · go_wp2_with fail
          refine (cP.out _).mono ?_; rintro e w4 ⟨rfl, rfl⟩
          go_wp2_with fail
          refine bodyPost_ret (by simp [results, Tryz.results71, go_sem, y0, y1, y2]; try rfl) rfl ?_
          exact ⟨rfl, QP.out⟩
        · exact absurd g2 (by omega)
        · go_wp2_with fail
          refine (cP.out _).mono ?_; rintro e w4 ⟨rfl, rfl⟩
          go_wp2_with fail
          refine bodyPost_ret (by simp [results, Tryz.results71, go_sem, y0, y1, y2]; try rfl) rfl ?_
          exact ⟨rfl, QP.out⟩

set_option maxHeartbeats 16000000 in
/-- A number key. -/
theorem refKy_numyes (s DG R : ByteArray) (ANS : Nat) (x : Int) (w : World) (_hs : s.size ≤ 1000000) (he : s.toList.isEmpty = false) (h0' : 0 < s.size) (h0 : ((s[0].toNat : Int) != 91) = false)
  (hn1 : 1 < (s.size : Int)) (hn2 : 1 < s.size) (hn3 : ((s[1].toNat : Int) == 34) = false)
  (HA : Hid (1 + (digs (s.data.toList.drop 1)).length = ANS)) (HD : Hid (s.extract 1 ANS = DG)) (HR : Hid (s.extract (ANS + 1) s.size = R))
  (cP : Hid (∀ w', Calls Tryz.prog 90 #[.string DG] w' fun e w'' => e = .returned (.tuple #[.int .i64 x, .int .i64 0]) ∧ w' = w''))
  (g2 : (ANS : Int) < (s.size : Int)) (g3 : ANS < s.size) (g4 : ((s[ANS].toNat : Int) != 93) = false) :
    Calls Tryz.prog 71 #[.string s] w fun e w' => e = .returned (.tuple #[.agg #[.int .i64 1, .int .i64 x, .string ⟨#[]⟩], .string R, .bool true]) ∧ Q w w' := by
  have b1 := Lib.hid (Bk.new #[.int .i64 0, .int .i64 0, .string ⟨#[]⟩] 25 w)
  have Q1 := Lib.hid (Q.alloc w (.cells #[.int .i64 0, .int .i64 0, .string ⟨#[]⟩] 25))
  go_enter Tryz.func71, Tryz.ntmps71
  go_wp2_with fail
  generalize w.alloc (.cells #[.int .i64 0, .int .i64 0, .string ⟨#[]⟩] 25) = w1 at *
  go_loop [9] (fun i => ∃ k : Nat, 1 ≤ k ∧ k ≤ s.size ∧ i = .int .i64 k ∧ Hid (k + (digs (s.data.toList.drop k)).length = ANS)) (fun i => s.size - (intOf i).toNat)
  case atStart => exact ⟨1, Nat.le_refl _, h0', rfl, HA⟩
  case round =>
    clear HA
    obtain ⟨k, hk1, hk, rfl, HS⟩ := hrel
    have hex : (∃ h : k < s.size, (k : Int) < (s.size : Int) ∧ ¬ (48 : Int) ≤ (s[k].toNat : Int) ∧ ANS = k) ∨ (∃ h : k < s.size, (k : Int) < (s.size : Int) ∧ (48 : Int) ≤ (s[k].toNat : Int) ∧ ¬ (s[k].toNat : Int) ≤ 57 ∧ ANS = k) ∨ (∃ h : k < s.size, (k : Int) < (s.size : Int) ∧ (48 : Int) ≤ (s[k].toNat : Int) ∧ (s[k].toNat : Int) ≤ 57 ∧ Hid (k + 1 + (digs (s.data.toList.drop (k + 1))).length = ANS)) := by
      by_cases hlt : k < s.size
      · have hat := digs_at s k hlt
        have hd := txt.digit_iff s[k]
        have hz := HS.out
        by_cases a : 48 ≤ s[k].toNat
        · by_cases b : s[k].toNat ≤ 57
          · rw [if_pos (hd.2 ⟨a, b⟩)] at hat
            rw [hat, List.length_cons] at hz
            exact .inr (.inr ⟨hlt, by omega, by omega, by omega, Lib.hid (by omega)⟩)
          · rw [if_neg (fun h => b (hd.1 h).2)] at hat
            rw [hat, List.length_nil] at hz
            exact .inr (.inl ⟨hlt, by omega, by omega, by omega, by omega⟩)
        · rw [if_neg (fun h => a (hd.1 h).1)] at hat
          rw [hat, List.length_nil] at hz
          exact .inl ⟨hlt, by omega, by omega, by omega⟩
      · have hz := HS.out
        rw [List.drop_of_length_le (by simp; omega)] at hz
        have : k + 0 = ANS := hz
        omega
    have hk1' : (1 : Int) ≤ (k : Int) := by omega
    rcases hex with ⟨hlt, f1, f2, rfl⟩ | ⟨hlt, f1, f2, f3, rfl⟩ | ⟨hlt, f1, f2, f3, HZ⟩
    rotate_right 1
    · clear HS HD HR g2 g4 cP b1 Q1
      go_wp2_with fail
      go_round
      case rel => exact ⟨k + 1, by omega, hlt, by go_num, HZ⟩
      case measure => simp [intOf]; omega
    all_goals
        have eD := HD.out
        have hw : IntKind.i64.wrap ((ANS : Int) + 1) = (ANS : Int) + 1 := by rw [IntKind.wrap_i64]; omega
        have g9 : (0 : Int) ≤ (ANS : Int) + 1 := by omega
        have g10 : (ANS : Int) + 1 ≤ (s.size : Int) := by omega
        clear HS HD hk hk1
        replace b1 : Hid (Bk w.heap.size #[.int .i64 0, .int .i64 0, .string ⟨#[]⟩] 25 w1.drew) := Lib.hid (b1.out.drewN 1)
        replace Q1 : Hid (Q w w1.drew) := Lib.hid (Q1.out.trans (Q.drewN _ 1))
        have z0 := b1.out.frozen 0
        have z1 := b1.out.frozen 1
        have z2 := b1.out.frozen 2
        have x0 := b1.out.at 0 _ rfl
        have x1 := b1.out.at 1 _ rfl
        have x2 := b1.out.at 2 _ rfl
        have bp := Lib.hid (b1.out.put3 (.int .i64 1) (.int .i64 x) (.string ⟨#[]⟩))
        have QP := Lib.hid (Q1.out.put3 (Nat.le_refl _) (.int .i64 1) (.int .i64 x) (.string ⟨#[]⟩))
        clear b1 Q1
        go_wp2_with fail
        refine (cP.out _).mono ?_; rintro e w4 ⟨rfl, rfl⟩
        go_wp2_with fail
        refine Go.wp_region_held_drew (S := fun _ => True) (by kernel_rfl) (trivial) (fun hHeld => ?_)
        generalize w1.drew = w5 at *
        refine Go.wpAnyH_take (i := 0) (oi := _) (v := ?_) rfl (by kernel_rfl) (by kernel_rfl) (by kernel_rfl) (fun _ _ _ h => h) (Or.inl ⟨by rfl, ?_⟩) (by assumption) ?_
        rotate_left 1
        · intro wx hSw
          go_simp <;> with_reducible rfl
        simp only [Act.put, List.getElem_toArray, List.getElem_cons_zero, List.setIfInBounds_toArray, List.set_cons_zero, List.set_cons_succ]
        refine Go.wpAnyH_take (i := 1) (oi := _) (v := ?_) rfl (by kernel_rfl) (by kernel_rfl) (by kernel_rfl) (fun _ _ _ h => h) (Or.inl ⟨by rfl, ?_⟩) (by assumption) ?_
        rotate_left 1
        · intro wx hSw
          go_simp <;> with_reducible rfl
        simp only [Act.put, List.getElem_toArray, List.getElem_cons_zero, List.getElem_cons_succ, List.setIfInBounds_toArray, List.set_cons_zero, List.set_cons_succ]
        refine Go.wpAnyH_take (i := 2) (oi := _) (v := ?_) rfl (by kernel_rfl) (by kernel_rfl) (by kernel_rfl) (fun _ _ _ h => h) (Or.inl ⟨by rfl, ?_⟩) (by assumption) ?_
        rotate_left 1
        · intro wx hSw
          go_simp <;> with_reducible rfl
        simp only [Act.put, List.getElem_toArray, List.getElem_cons_zero, List.getElem_cons_succ, List.setIfInBounds_toArray, List.set_cons_zero, List.set_cons_succ]
        refine Go.wpAnyH_take (i := 3) (oi := _) (v := ?_) rfl (by kernel_rfl) (by kernel_rfl) (by kernel_rfl) (fun _ _ _ h => h) (Or.inl ⟨by rfl, ?_⟩) (by assumption) ?_
        rotate_left 1
        · intro wx hSw
          go_simp <;> with_reducible rfl
        simp only [Act.put, List.getElem_toArray, List.getElem_cons_zero, List.getElem_cons_succ, List.setIfInBounds_toArray, List.set_cons_zero, List.set_cons_succ]
        refine Go.wpAnyH_take (i := 4) (oi := _) (v := ?_) rfl (by kernel_rfl) (by kernel_rfl) (by kernel_rfl) (fun _ _ _ h => h) (Or.inl ⟨by rfl, ?_⟩) (by assumption) ?_
        rotate_left 1
        · intro wx hSw
          go_simp <;> with_reducible rfl
        simp only [Act.put, List.getElem_toArray, List.getElem_cons_zero, List.getElem_cons_succ, List.setIfInBounds_toArray, List.set_cons_zero, List.set_cons_succ]
        refine Go.wpAnyH_take (i := 5) (oi := _) (v := ?_) rfl (by kernel_rfl) (by kernel_rfl) (by kernel_rfl) (fun _ _ _ h => h) (Or.inl ⟨by rfl, ?_⟩) (by assumption) ?_
        rotate_left 1
        · intro wx hSw
          go_simp <;> with_reducible rfl
        simp only [Act.put, List.getElem_toArray, List.getElem_cons_zero, List.getElem_cons_succ, List.setIfInBounds_toArray, List.set_cons_zero, List.set_cons_succ]
        refine Go.wpAnyH_ready (rs := [6]) (by kernel_rfl) (by simp) ?_
        refine Go.AllReadyH.cons rfl (fun Kx hK => ?_) Go.AllReadyH.nil
        go_simp
        refine hK.out _ _ trivial (fun hHeld => ?_)
        clear hK Kx
        try simp only [Act.put, List.getElem_toArray, List.getElem_cons_zero, List.getElem_cons_succ, List.setIfInBounds_toArray, List.set_cons_zero, List.set_cons_succ]
        refine Go.wpAnyH_take (i := 7) (oi := _) (v := ?_) rfl (by kernel_rfl) (by kernel_rfl) (by kernel_rfl) (fun _ _ _ h => h) (Or.inl ⟨by rfl, ?_⟩) (by assumption) ?_
        rotate_left 1
        · intro wx hSw
          go_simp <;> with_reducible rfl
        simp only [Act.put, List.getElem_toArray, List.getElem_cons_zero, List.getElem_cons_succ, List.setIfInBounds_toArray, List.set_cons_zero, List.set_cons_succ]
        refine Go.wpAnyH_take (i := 8) (oi := _) (v := ?_) rfl (by kernel_rfl) (by kernel_rfl) (by kernel_rfl) (fun _ _ _ h => h) (Or.inl ⟨by rfl, ?_⟩) (by assumption) ?_
        rotate_left 1
        · intro wx hSw
          go_simp <;> with_reducible rfl
        simp only [Act.put, List.getElem_toArray, List.getElem_cons_zero, List.getElem_cons_succ, List.setIfInBounds_toArray, List.set_cons_zero, List.set_cons_succ]
        refine Go.wpAnyH_done (by kernel_rfl) ?_ _
        have y0 := bp.out.at 0 (.int .i64 1) rfl
        have y1 := bp.out.at 1 (.int .i64 x) rfl
        have y2 := bp.out.at 2 (.string ⟨#[]⟩) rfl
        go_wp2_with fail
        refine bodyPost_ret (by simp [results, Tryz.results71, go_sem, y0, y1, y2]; try rfl) rfl ?_
        exact ⟨by rw [← HR.out], QP.out⟩

end Go.Proofs.YthekabflbpfjoaaGreatDoor.adr
