/- The reference's Match and Any. -/
import Derived.Test.YthknlllaclgekaaGt
namespace Go.Proofs.Ythknlllaclgekaa.glo
open Go.RowKit

theorem get_list (s : ByteArray) (j : Nat) (h : j < s.size) : s.data.toList[j]'(by rw [len_data]; exact h) = s[j] := rfl
/-- What the loop knows: ps has been read. -/
def Red (p s : ByteArray) (n b k : Nat) (w wr : World) : Prop := ∃ ps : List Part, ps ++ parts (p.data.toList.drop k) = parts p.data.toList ∧ RB b n (rowB ps s.data.toList) wr ∧ Q w wr
theorem app_one (ps : List Part) (x : Part) (l m m' : List Part) (h : ps ++ l = m) (hl : l = x :: m') : (ps ++ [x]) ++ m' = m := by
  rw [← h, hl]; simp
theorem row_byte (ps : List Part) (s : ByteArray) (c : UInt8) : rowB (ps ++ [.one c]) s.data.toList 0 = false ∧ ∀ j (hj : j < s.size), rowB (ps ++ [.one c]) s.data.toList (j + 1) = (rowB ps s.data.toList j && s[j] == c) :=
  ⟨rowB_one_zero _ _ _, fun j hj => rowB_one_next ps c s.data.toList j (by rw [len_data]; exact hj)⟩
theorem row_group (ps : List Part) (s : ByteArray) (all : Bool) : rowB (ps ++ [if all = true then .star2 else .star]) s.data.toList 0 = rowB ps s.data.toList 0 ∧
    ∀ j (hj : j < s.size), rowB (ps ++ [if all = true then .star2 else .star]) s.data.toList (j + 1) = (rowB ps s.data.toList (j + 1) || (rowB (ps ++ [if all = true then .star2 else .star]) s.data.toList j && (all || s[j] != 46))) := by
  cases all with
  | true =>
    refine ⟨rowB_star2_zero _ _, fun j hj => ?_⟩
    rw [Bool.true_or, Bool.and_true]
    exact rowB_star2_next ps s.data.toList j (by rw [len_data]; exact hj)
  | false =>
    refine ⟨rowB_star_zero _ _, fun j hj => ?_⟩
    rw [Bool.false_or]
    exact rowB_star_next ps s.data.toList j (by rw [len_data]; exact hj)

set_option maxRecDepth 100000 in
set_option maxHeartbeats 4000000 in
theorem refMatch_any (p s : ByteArray) (w : World) (hp : p.size ≤ 2000) (hs : s.size ≤ 1000) :
    Calls Try.prog 14 #[.string p, .string s] w fun e w' => e = .returned (.bool (hitB p.data.toList s.data.toList)) ∧ Q w w' := by
  have cC := Lib.hid (refCheck_any p w (by omega))
  have hB : Hid (hitB p.data.toList s.data.toList = ((chk p.data.toList == 0) && mb (parts p.data.toList) s.data.toList)) := rfl
  generalize hitB p.data.toList s.data.toList = H at *
  generalize chk p.data.toList = C at *
  by_cases h4 : C = 0
  · have f4 : (C != 0) = false := by rw [bne_eq_false_iff_eq]; exact h4
    have hE : Hid (H = mb (parts p.data.toList) s.data.toList) := by
      have := hB.out
      rw [show (C == 0) = true by rw [beq_iff_eq]; exact h4, Bool.true_and] at this
      exact this
    obtain ⟨n, hn⟩ : ∃ n, n = s.size + 1 := ⟨_, rfl⟩
    have hn1 : (s.size : Int) < (n : Int) := by omega
    have hn2 : (0 : Int) < (n : Int) := by omega
    have hmk : ∀ w : World, (Instr.makeSlice 33 (.int .i64 ((s.size : Int) + 1)) (.int .i64 ((s.size : Int) + 1))).run Try.prog w = .ok (.slice (some ⟨w.heap.size, 0, none⟩) n n) (w.alloc (.cells (madeCells #[.bool false] n) 4)) := fun w => by
      have h := make_bools n (by omega) w
      rw [show ((n : Nat) : Int) = (s.size : Int) + 1 by omega] at h
      exact h
    have r0 := RB.made w n (fun j => decide (j = 0))
    have fz := World.rowIs.frozen r0 0
    obtain ⟨d0, hd0⟩ := (⟨_, World.rowIs.cell r0 (show 0 < n by omega)⟩ : ∃ d, (w.alloc (.cells (madeCells #[.bool false] n) 4)).cell? ⟨w.heap.size, 0, none⟩ = some d)
    have H0 : Hid (Red p s n w.heap.size 0 w ((w.alloc (.cells (madeCells #[.bool false] n) 4)).setCell ⟨w.heap.size, 0, none⟩ (.bool true))) := by
      refine ⟨[], by rw [List.drop_zero]; rfl, ?_, Q.set (Below.alloc (Below.refl _ _) (Nat.le_refl _) _) _ (Nat.le_refl _) _ _⟩
      refine World.rowIs.congr (r0.next (x := true) rfl) fun j hj => ?_
      rw [rowB_start _ _ (by rw [len_data]; omega)]
      unfold part
      by_cases e : j = 0
      · subst e; rfl
      · rw [if_neg (by omega), decide_eq_false e]
    have hN := Lib.hid hn
    clear hB f4 r0 hn
    obtain ⟨W1, eW⟩ : ∃ W1, w.alloc (.cells (madeCells #[.bool false] n) 4) = W1 := ⟨_, rfl⟩
    rw [eW] at fz hd0 H0
    subst h4
    go_enter Try.func14, Try.ntmps14
    go_wp2_with fail
    refine (cC.out).mono ?_; rintro e w' ⟨rfl, rfl⟩
    go_wp2_with fail
    clear hmk eW fz hd0 cC
    go_loopw [5, 6] (fun l i wr => ∃ k b : Nat, k ≤ p.size ∧ l = .slice (some ⟨b, 0, none⟩) n n ∧ i = .int .i64 k ∧ Hid (Red p s n b k w wr)) (fun _ i _ => p.size - (intOf i).toNat)
    case atStart => exact ⟨0, _, Nat.zero_le _, rfl, rfl, H0⟩
    case round =>
      obtain ⟨k, b, hk, rfl, rfl, HK⟩ := hrel
      clear H0
      by_cases hlt : k < p.size
      · have q1 : (k : Int) < (p.size : Int) := by omega
        obtain ⟨ps, hps, hrow, hq⟩ := HK.out
        have hs1 := hs
        clear HK hE
        by_cases hc : p[k].toNat = 42
        · have f1 : ((p[k].toNat : Int) == 42) = true := by rw [beq_iff_eq]; omega
          by_cases h2 : k + 1 < p.size
          · have f2 : (k : Int) + 1 < (p.size : Int) := by omega
            by_cases hc2 : p[k + 1].toNat = 42
            · -- two asterisks
              have f5 : ((p[k + 1].toNat : Int) == 42) = true := by rw [beq_iff_eq]; omega
              have hl : parts (p.data.toList.drop k) = .star2 :: parts (p.data.toList.drop (k + 2)) := by
                rw [drop_at p k hlt, drop_at p (k + 1) h2, byte42.2 hc, byte42.2 hc2, parts_two]
              obtain ⟨g0, g1⟩ := row_group ps s true
              have cS : Hid (Calls Try.prog 24 #[.slice (some ⟨b, 0, none⟩) n n, .string s, .int .u8 (p[k].toNat : Int), .bool true, .bool true] wr (Stepped n (rowB (ps ++ [.star2]) s.data.toList) wr)) := step_group true _ b n _ _ s wr hN.out (by omega) hrow g0 g1
              have HR : Hid (∀ w1, Hid (RB wr.heap.size n (rowB (ps ++ [.star2]) s.data.toList) w1 ∧ Q wr w1) → Red p s n wr.heap.size (k + 2) w w1) := fun w1 h => ⟨_, app_one ps _ _ _ _ hps hl, h.out.1, hq.trans h.out.2⟩
              clear hps hrow hq hl g0 g1 hc hc2 hN
              go_wp2_with fail
              refine (cS.out).mono ?_; rintro e w1 ⟨rfl, h⟩
              have HN := Lib.hid (HR.out w1 h)
              clear h HR
              go_wp2_with fail
              go_roundw
              case rel => exact ⟨k + 2, _, by omega, rfl, by go_num, HN⟩
              case measure => simp [intOf]; omega
            · -- one
              have f5 : ((p[k + 1].toNat : Int) == 42) = false := by rw [beq_eq_false_iff_ne]; omega
              have hl : parts (p.data.toList.drop k) = .star :: parts (p.data.toList.drop (k + 1)) := by
                rw [drop_at p k hlt, byte42.2 hc, parts_star _ (fun x e => hc2 (by
                  rw [drop_at p (k + 1) h2] at e
                  simp only [List.cons.injEq] at e
                  rw [e.1]; rfl))]
              obtain ⟨g0, g1⟩ := row_group ps s false
              have cS : Hid (Calls Try.prog 24 #[.slice (some ⟨b, 0, none⟩) n n, .string s, .int .u8 (p[k].toNat : Int), .bool true, .bool false] wr (Stepped n (rowB (ps ++ [.star]) s.data.toList) wr)) := step_group false _ b n _ _ s wr hN.out (by omega) hrow g0 g1
              have HR : Hid (∀ w1, Hid (RB wr.heap.size n (rowB (ps ++ [.star]) s.data.toList) w1 ∧ Q wr w1) → Red p s n wr.heap.size (k + 1) w w1) := fun w1 h => ⟨_, app_one ps _ _ _ _ hps hl, h.out.1, hq.trans h.out.2⟩
              clear hps hrow hq hl g0 g1 hc hc2 hN
              go_wp2_with fail
              refine (cS.out).mono ?_; rintro e w1 ⟨rfl, h⟩
              have HN := Lib.hid (HR.out w1 h)
              clear h HR
              go_wp2_with fail
              go_roundw
              case rel => exact ⟨k + 1, _, by omega, rfl, by go_num, HN⟩
              case measure => simp [intOf]; omega
          · -- one, at the end
            have f2 : decide ((k : Int) + 1 < (p.size : Int)) = false := decide_eq_false (by omega)
            have hl : parts (p.data.toList.drop k) = .star :: parts (p.data.toList.drop (k + 1)) := by
              rw [drop_at p k hlt, byte42.2 hc, parts_star _ (fun x e => by
                have := congrArg List.length e
                rw [List.length_drop, len_data] at this
                simp at this
                omega)]
            obtain ⟨g0, g1⟩ := row_group ps s false
            have cS : Hid (Calls Try.prog 24 #[.slice (some ⟨b, 0, none⟩) n n, .string s, .int .u8 (p[k].toNat : Int), .bool true, .bool false] wr (Stepped n (rowB (ps ++ [.star]) s.data.toList) wr)) := step_group false _ b n _ _ s wr hN.out (by omega) hrow g0 g1
            have HR : Hid (∀ w1, Hid (RB wr.heap.size n (rowB (ps ++ [.star]) s.data.toList) w1 ∧ Q wr w1) → Red p s n wr.heap.size (k + 1) w w1) := fun w1 h => ⟨_, app_one ps _ _ _ _ hps hl, h.out.1, hq.trans h.out.2⟩
            clear hps hrow hq hl g0 g1 hc hN
            go_wp2_with fail
            refine (cS.out).mono ?_; rintro e w1 ⟨rfl, h⟩
            have HN := Lib.hid (HR.out w1 h)
            clear h HR
            go_wp2_with fail
            go_roundw
            case rel => exact ⟨k + 1, _, by omega, rfl, by go_num, HN⟩
            case measure => simp [intOf]; omega
        · -- a byte
          have f1 : ((p[k].toNat : Int) == 42) = false := by rw [beq_eq_false_iff_ne]; omega
          have hl : parts (p.data.toList.drop k) = .one p[k] :: parts (p.data.toList.drop (k + 1)) := by
            rw [drop_at p k hlt, parts_byte _ _ (by rw [Ne, byte42]; exact hc)]
          obtain ⟨g0, g1⟩ := row_byte ps s p[k]
          have cS : Hid (Calls Try.prog 24 #[.slice (some ⟨b, 0, none⟩) n n, .string s, .int .u8 (p[k].toNat : Int), .bool false, .bool false] wr (Stepped n (rowB (ps ++ [.one p[k]]) s.data.toList) wr)) := step_byte false _ b n _ _ s wr hN.out (by omega) hrow g0 g1
          have HR : Hid (∀ w1, Hid (RB wr.heap.size n (rowB (ps ++ [.one p[k]]) s.data.toList) w1 ∧ Q wr w1) → Red p s n wr.heap.size (k + 1) w w1) := fun w1 h => ⟨_, app_one ps _ _ _ _ hps hl, h.out.1, hq.trans h.out.2⟩
          clear hps hrow hq hl g0 g1 hc hN
          go_wp2_with fail
          refine (cS.out).mono ?_; rintro e w1 ⟨rfl, h⟩
          have HN := Lib.hid (HR.out w1 h)
          clear h HR
          go_wp2_with fail
          go_roundw
          case rel => exact ⟨k + 1, _, by omega, rfl, by go_num, HN⟩
          case measure => simp [intOf]; omega
      · obtain rfl : k = p.size := by omega
        have HA : Hid (rowB (parts p.data.toList) s.data.toList s.size = H ∧ Q w wr ∧ wr.cell? ⟨b, s.size, none⟩ = some (.bool (rowB (parts p.data.toList) s.data.toList s.size))) := by
          obtain ⟨ps, hps, hrow, hq⟩ := HK.out
          rw [drop_end, show parts [] = [] from rfl, List.append_nil] at hps
          subst hps
          refine ⟨?_, hq, hrow.cell (by have := hN.out; omega) rfl⟩
          rw [hE.out, Bool.eq_iff_iff, mb_iff, ← len_data s]
          exact rowB_whole _ _
        have c0 := HA.out.2.2
        have HQ := Lib.hid HA.out.2.1
        rw [HA.out.1] at c0
        clear HA HK hE hN hlt
        go_wp2_with fail
        go_ret
        exact ⟨rfl, HQ.out⟩
  · have f4 : (C != 0) = true := by rw [bne_iff_ne]; exact h4
    have hE : Hid (H = false) := by
      have := hB.out
      rw [show (C == 0) = false by rw [beq_eq_false_iff_ne]; exact h4, Bool.false_and] at this
      exact this
    clear h4 hB
    go_enter Try.func14, Try.ntmps14
    go_wp2_with fail
    refine (cC.out).mono ?_; rintro e w' ⟨rfl, rfl⟩
    go_wp2_with fail
    go_ret
    exact ⟨by rw [hE.out]; rfl, Q.refl _⟩

end Go.Proofs.Ythknlllaclgekaa.glo
