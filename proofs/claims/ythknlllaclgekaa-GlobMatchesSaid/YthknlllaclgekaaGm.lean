/- The matching loop: what it returns is whether the parts of the pattern match the text. -/
import Derived.Test.YthknlllaclgekaaGb
import Derived.WalkMore
import Derived.Deep.LoopGhost
import Derived.RegionTactic
namespace Go.Proofs.Ythknlllaclgekaa.glo
open Go.RowKit

theorem two_new (w : World) : ∃ W2, (w.alloc (.cells #[.bool false, .string ⟨#[]⟩, .string ⟨#[]⟩] 37)).alloc (.cells #[.bool false, .string ⟨#[]⟩, .string ⟨#[]⟩] 37) = W2 ∧ Gr w.heap.size false ⟨#[]⟩ ⟨#[]⟩ W2 ∧ Gr (w.heap.size + 1) false ⟨#[]⟩ ⟨#[]⟩ W2 ∧ Q w W2 := by
  refine ⟨_, rfl, ?_, ?_, ?_⟩
  · exact (Gr.new _ _ _ w).stays (Below.alloc (Below.refl _ _) (Nat.le_refl _) _)
  · have h := Gr.new false ⟨#[]⟩ ⟨#[]⟩ (w.alloc (.cells #[.bool false, .string ⟨#[]⟩, .string ⟨#[]⟩] 37))
    rw [show (w.alloc (.cells #[.bool false, .string ⟨#[]⟩, .string ⟨#[]⟩] 37)).heap.size = w.heap.size + 1 from Array.size_push _] at h
    exact h
  · exact Q.trans (Below.alloc (Below.refl _ _) (Nat.le_refl _) _) (Below.alloc (Below.refl _ _) (Nat.le_refl _) _)

set_option maxRecDepth 100000 in
set_option maxHeartbeats 4000000 in
theorem matches_any (p s : ByteArray) (w : World) (mx : MX w) (hp : p.size ≤ 1000000) (hs : s.size ≤ 1000000) :
    Calls Try.prog 23 #[.string p, .string s] w fun e w' => e = .returned (.bool (mb (parts p.data.toList) s.data.toList)) ∧ Q w w' := by
  obtain ⟨W2, eW, y1, y2, yq⟩ := two_new w
  have HS := Lib.hid (Big.start w p s hp hs y1 y2 yq)
  have HA : Hid (mb (parts p.data.toList) s.data.toList = true ↔ mt (parts p.data.toList) s.data.toList) := mb_iff _ _
  generalize mt (parts p.data.toList) s.data.toList = ANS at *
  generalize mb (parts p.data.toList) s.data.toList = R at *
  have HM := Lib.hid mx
  clear mx y1 y2 yq hp hs
  go_enter Try.func23, Try.ntmps23
  go_wp2_with fail
  go_step3
  go_wp2_with fail
  go_step3
  go_wp2_with fail
  go_loopg [0, 1] (wt 1000000 1000000 false ⟨#[]⟩ ⟨#[]⟩ false ⟨#[]⟩ ⟨#[]⟩ p) (fun g x y wr => ∃ m1 b1 r1 m2 b2 r2 p s, x = .string p ∧ y = .string s ∧ Hid (Big 1000000 1000000 w ANS m1 b1 r1 m2 b2 r2 p s wr ∧ wt 1000000 1000000 m1 b1 r1 m2 b2 r2 p = g))
  case atStart => exact ⟨_, _, _, _, _, _, _, _, rfl, rfl, HS.out, rfl⟩
  case round =>
    obtain ⟨m1, b1, r1, m2, b2, r2, p, s, rfl, rfl, HB⟩ := hrel
    clear HS eW
    have cP : Hid (∀ w, Calls Try.prog 26 #[.string p, .string ⟨#[42, 42]⟩] w fun e w' => e = .returned (.bool (Lib.hasPrefix p.data.toList [42, 42])) ∧ w' = w) := fun w => Try.strings_HasPrefix p ⟨#[42, 42]⟩ w
    have cO : Hid (∀ w, Calls Try.prog 26 #[.string p, .string ⟨#[42]⟩] w fun e w' => e = .returned (.bool (Lib.hasPrefix p.data.toList [42])) ∧ w' = w) := fun w => Try.strings_HasPrefix p ⟨#[42]⟩ w
    by_cases h0 : p.size = 0 ∧ s.size = 0
    · -- all is matched
      have fp : p.toList.isEmpty = true := by rw [empty_iff]; exact decide_eq_true h0.1
      have fs : s.toList.isEmpty = true := by rw [empty_iff]; exact decide_eq_true h0.2
      have HR : Hid (R = true ∧ Q w wr) := by
        have hm := HB.out.1.mid
        rw [(nil_iff p).2 h0.1, (nil_iff s).2 h0.2] at hm
        exact ⟨HA.out.2 hm.done, HB.out.1.hq⟩
      clear h0 HB cP cO HA HM
      go_wp2_with fail
      rw [Exit.noGoto_ret]
      go_ret
      exact ⟨by rw [HR.out.1]; rfl, HR.out.2⟩
    · cases hA : Lib.hasPrefix p.data.toList [42, 42] with
      | true =>
        -- a group of two
        obtain ⟨h2, ht⟩ := pre_two p hA
        have fp : p.toList.isEmpty = false := by rw [empty_iff]; exact decide_eq_false (by omega)
        have f2 : (2 : Int) ≤ (p.size : Int) := by omega
        rw [hA] at cP
        have HN := Lib.hid (HB.out.1.star2 h2 ht 1)
        have HG := Lib.hid HB.out.2
        have x0 := HB.out.1.g1.frozen 0
        have x1 := HB.out.1.g1.frozen 1
        have x2 := HB.out.1.g1.frozen 2
        have z0 := HB.out.1.g2.frozen 0
        have z1 := HB.out.1.g2.frozen 1
        have z2 := HB.out.1.g2.frozen 2
        have a0 := HB.out.1.g1.c0
        have a1 := HB.out.1.g1.c1
        have a2 := HB.out.1.g1.c2
        have e0 := HB.out.1.g2.c0
        have e1 := HB.out.1.g2.c1
        have e2 := HB.out.1.g2.c2
        clear h0 HB cO HA HM ht hA h2
        go_wp2_with fail
        refine (cP.out _).mono ?_; rintro e w' ⟨rfl, rfl⟩
        clear cP
        go_wp2_with fail
        go_region
        go_wp2_with fail
        go_roundg (wt 1000000 1000000 false ⟨#[]⟩ ⟨#[]⟩ true (p.extract 2 p.size) s (p.extract 2 p.size))
        case measure => rw [← HG.out]; exact HN.out.2
        case rel => exact ⟨_, _, _, _, _, _, _, _, rfl, rfl, HN.out.1, rfl⟩
      | false =>
        rw [hA] at cP
        have x0 := HB.out.1.g1.frozen 0
        have x1 := HB.out.1.g1.frozen 1
        have x2 := HB.out.1.g1.frozen 2
        have z0 := HB.out.1.g2.frozen 0
        have z1 := HB.out.1.g2.frozen 1
        have z2 := HB.out.1.g2.frozen 2
        have a0 := HB.out.1.g1.c0
        have a1 := HB.out.1.g1.c1
        have a2 := HB.out.1.g1.c2
        have e0 := HB.out.1.g2.c0
        have e1 := HB.out.1.g2.c1
        have e2 := HB.out.1.g2.c2
        have HG := Lib.hid HB.out.2
        cases hB : Lib.hasPrefix p.data.toList [42] with
        | true =>
          -- a group of one
          obtain ⟨h1, hc⟩ := pre_one p hB
          have fp : p.toList.isEmpty = false := by rw [empty_iff]; exact decide_eq_false (by omega)
          have f1 : (1 : Int) ≤ (p.size : Int) := by omega
          rw [hB] at cO
          have HN := Lib.hid (HB.out.1.star h1 hc (pre_not_two p h1 hc hA))
          clear h0 HB HA HM hc hA hB h1
          go_wp2_with fail
          refine (cP.out _).mono ?_; rintro e w' ⟨rfl, rfl⟩
          clear cP
          go_wp2_with fail
          refine (cO.out _).mono ?_; rintro e w' ⟨rfl, rfl⟩
          clear cO
          go_wp2_with fail
          go_roundg (wt 1000000 1000000 true (p.extract 1 p.size) s m2 b2 r2 (p.extract 1 p.size))
          case measure => rw [← HG.out]; exact HN.out.2
          case rel => exact ⟨_, _, _, _, _, _, _, _, rfl, rfl, HN.out.1, rfl⟩
        | false =>
          rw [hB] at cO
          by_cases hC : ∃ (h1 : 0 < p.size) (h2 : 0 < s.size), p[0].toNat = s[0].toNat
          · -- a byte
            obtain ⟨h1, h2, he⟩ := hC
            have hc : p[0].toNat ≠ 42 := fun h => pre_not_one p hB (p.extract 1 p.size).data.toList (by rw [cons_of p h1, byte42.2 h])
            have fp : p.toList.isEmpty = false := by rw [empty_iff]; exact decide_eq_false (by omega)
            have fs : s.toList.isEmpty = false := by rw [empty_iff]; exact decide_eq_false (by omega)
            have f1 : (1 : Int) ≤ (p.size : Int) := by omega
            have f2 : (1 : Int) ≤ (s.size : Int) := by omega
            have f3 : (0 : Int) < (p.size : Int) := by omega
            have f4 : (0 : Int) < (s.size : Int) := by omega
            have f5 : ((p[0].toNat : Int) == (s[0].toNat : Int)) = true := by rw [beq_iff_eq]; omega
            have HN := Lib.hid (HB.out.1.byte h1 h2 he hc)
            clear h0 HB HA HM hc hA hB he
            go_wp2_with fail
            refine (cP.out _).mono ?_; rintro e w' ⟨rfl, rfl⟩
            clear cP
            go_wp2_with fail
            refine (cO.out _).mono ?_; rintro e w' ⟨rfl, rfl⟩
            clear cO
            go_wp2_with fail
            go_quiet (fail)
            go_wp2_with fail
            go_quiet (fail)
            go_wp2_with fail
            go_roundg (wt 1000000 1000000 m1 b1 r1 m2 b2 r2 (p.extract 1 p.size))
            case measure => rw [← HG.out]; exact (HN.out 0 0).2
            case rel => exact ⟨_, _, _, _, _, _, _, _, rfl, rfl, (HN.out _ _).1, rfl⟩
          · -- what is left is not matched
            have hn : ¬ mt (parts p.data.toList) s.data.toList := not_left_of p s hB (by omega) (fun h1 h2 h => hC ⟨h1, h2, h⟩)
            have hS := shape_of p s h0 hC
            unfold shape at hS
            clear h0 hA hB hC
            by_cases hD : ∃ h : 0 < r1.size, r1[0].toNat ≠ 46
            · -- the group of one takes a byte more
              obtain ⟨hr, hc⟩ := hD
              have k0 : r1.toList.isEmpty = false := by rw [empty_iff]; exact decide_eq_false (by omega)
              have k1 : (0 : Int) < (r1.size : Int) := by omega
              have k2 : ((r1[0].toNat : Int) != 46) = true := by rw [bne_iff_ne]; omega
              have k3 : (1 : Int) ≤ (r1.size : Int) := by omega
              have HN := Lib.hid (HB.out.1.more1 hr hc hn)
              clear HB HA HM hn hc
              rcases hS with ⟨h1, h2⟩ | ⟨h1, h2⟩ | ⟨h1, h2, he⟩
              · have fp : p.toList.isEmpty = true := by rw [empty_iff]; exact decide_eq_true h1
                have fs : s.toList.isEmpty = false := by rw [empty_iff]; exact decide_eq_false (by omega)
                clear h1 h2
                go_wp2_with fail
                refine (cP.out _).mono ?_; rintro e w' ⟨rfl, rfl⟩
                clear cP
                go_wp2_with fail
                refine (cO.out _).mono ?_; rintro e w' ⟨rfl, rfl⟩
                clear cO
                go_wp2_with fail
                go_quiet (fail)
                go_wp2_with fail
                go_quiet (fail)
                go_wp2_with fail
                go_roundg (wt 1000000 1000000 m1 b1 (r1.extract 1 r1.size) m2 b2 r2 b1)
                case measure => rw [← HG.out]; exact (HN.out 0 0).2
                case rel => exact ⟨_, _, _, _, _, _, _, _, rfl, rfl, (HN.out _ _).1, rfl⟩
              · have fp : p.toList.isEmpty = false := by rw [empty_iff]; exact decide_eq_false (by omega)
                have fs : s.toList.isEmpty = true := by rw [empty_iff]; exact decide_eq_true h2
                have f3 : (0 : Int) < (p.size : Int) := by omega
                clear h1 h2
                go_wp2_with fail
                refine (cP.out _).mono ?_; rintro e w' ⟨rfl, rfl⟩
                clear cP
                go_wp2_with fail
                refine (cO.out _).mono ?_; rintro e w' ⟨rfl, rfl⟩
                clear cO
                go_wp2_with fail
                go_quiet (fail)
                go_wp2_with fail
                go_quiet (fail)
                go_wp2_with fail
                go_roundg (wt 1000000 1000000 m1 b1 (r1.extract 1 r1.size) m2 b2 r2 b1)
                case measure => rw [← HG.out]; exact (HN.out 0 0).2
                case rel => exact ⟨_, _, _, _, _, _, _, _, rfl, rfl, (HN.out _ _).1, rfl⟩
              · have fp : p.toList.isEmpty = false := by rw [empty_iff]; exact decide_eq_false (by omega)
                have fs : s.toList.isEmpty = false := by rw [empty_iff]; exact decide_eq_false (by omega)
                have f3 : (0 : Int) < (p.size : Int) := by omega
                have f4 : (0 : Int) < (s.size : Int) := by omega
                have f5 : ((p[0].toNat : Int) == (s[0].toNat : Int)) = false := by rw [beq_eq_false_iff_ne]; omega
                clear he
                go_wp2_with fail
                refine (cP.out _).mono ?_; rintro e w' ⟨rfl, rfl⟩
                clear cP
                go_wp2_with fail
                refine (cO.out _).mono ?_; rintro e w' ⟨rfl, rfl⟩
                clear cO
                go_wp2_with fail
                go_quiet (fail)
                go_wp2_with fail
                go_quiet (fail)
                go_wp2_with fail
                go_roundg (wt 1000000 1000000 m1 b1 (r1.extract 1 r1.size) m2 b2 r2 b1)
                case measure => rw [← HG.out]; exact (HN.out 0 0).2
                case rel => exact ⟨_, _, _, _, _, _, _, _, rfl, rfl, (HN.out _ _).1, rfl⟩
            · have hK : r1.size = 0 ∨ ∃ h : 0 < r1.size, r1[0].toNat = 46 := by
                rcases Nat.eq_zero_or_pos r1.size with h | h
                · exact .inl h
                · exact .inr ⟨h, Classical.byContradiction fun x => hD ⟨h, x⟩⟩
              have hk := stuck_of r1 hK
              clear hD
              cases m1 with
              | true =>
                by_cases hd : (46 : UInt8) ∈ r2.data.toList
                · -- the group of two goes on behind a dot
                  obtain ⟨x, t, e, hx, hcut⟩ := cut_found 46 _ hd
                  obtain ⟨R2, hR2⟩ : ∃ R2 : ByteArray, (⟨t.toArray⟩ : ByteArray) = R2 := ⟨_, rfl⟩
                  have hRt : R2.data.toList = t := by rw [← hR2]
                  have cT : Hid (∀ w1, Q wr w1 → Calls Try.prog 27 #[.string r2, .bool true] w1 fun e w' => e = .returned (.tuple #[.string R2, .bool true]) ∧ Q wr w') := fun w1 q => by
                    have h := takeMore_stopped r2 w1 ((HM.out.stays HB.out.1.hq).stays q) HB.out.1.r2T
                    rw [hcut, hR2] at h
                    exact h.mono fun e w' h => ⟨h.1, q.trans h.2⟩
                  have HN : Hid (∀ w1, Q wr w1 → _) := fun w1 q => HB.out.1.again R2 (by rw [← len_data R2, ← len_data r2, e, hRt]; simp; omega) (by
                    have hm := HB.out.1.mid
                    rw [e] at hm
                    rw [hRt]
                    exact hm.dot2 hx rfl hk hn) q
                  clear HA HM hn hk hd e hx hcut hR2 hRt
                  rcases hK with hk | ⟨hk, hk2⟩
                  · have k0 : r1.toList.isEmpty = true := by rw [empty_iff]; exact decide_eq_true hk
                    clear hk
                    rcases hS with ⟨h1, h2⟩ | ⟨h1, h2⟩ | ⟨h1, h2, he⟩
                    · have fp : p.toList.isEmpty = true := by rw [empty_iff]; exact decide_eq_true h1
                      have fs : s.toList.isEmpty = false := by rw [empty_iff]; exact decide_eq_false (by omega)
                      clear h1 h2
                      go_wp2_with fail
                      refine (cP.out _).mono ?_; rintro e w' ⟨rfl, rfl⟩
                      clear cP
                      go_wp2_with fail
                      refine (cO.out _).mono ?_; rintro e w' ⟨rfl, rfl⟩
                      clear cO
                      go_wp2_with fail
                      go_quiet (fail)
                      go_wp2_with fail
                      refine (cT.out _ (Q.drewN _ _)).mono ?_; rintro e w2 ⟨rfl, q⟩
                      clear cT x0 x1 x2 z0 z1 z2 a0 a1 a2 e0 e1 e2
                      have HN := Lib.hid (HN.out _ q)
                      have u1 := HB.out.1.g1.stays q
                      have u2 := HB.out.1.g2.stays q
                      have x0 := u1.frozen 0
                      have x1 := u1.frozen 1
                      have x2 := u1.frozen 2
                      have z2 := u2.frozen 2
                      have a0 := u1.c0
                      have a1 := u1.c1
                      have a2 := u1.c2
                      have e1 := u2.c1
                      have e2 := u2.c2
                      clear q HB u1 u2
                      go_wp2_with fail
                      go_roundg (wt 1000000 1000000 false ⟨#[]⟩ ⟨#[]⟩ m2 b2 R2 b2)
                      case measure => rw [← HG.out]; exact HN.out.2
                      case rel => exact ⟨_, _, _, _, _, _, _, _, rfl, rfl, HN.out.1, rfl⟩
                    · have fp : p.toList.isEmpty = false := by rw [empty_iff]; exact decide_eq_false (by omega)
                      have fs : s.toList.isEmpty = true := by rw [empty_iff]; exact decide_eq_true h2
                      have f3 : (0 : Int) < (p.size : Int) := by omega
                      clear h1 h2
                      go_wp2_with fail
                      refine (cP.out _).mono ?_; rintro e w' ⟨rfl, rfl⟩
                      clear cP
                      go_wp2_with fail
                      refine (cO.out _).mono ?_; rintro e w' ⟨rfl, rfl⟩
                      clear cO
                      go_wp2_with fail
                      go_quiet (fail)
                      go_wp2_with fail
                      refine (cT.out _ (Q.drewN _ _)).mono ?_; rintro e w2 ⟨rfl, q⟩
                      clear cT x0 x1 x2 z0 z1 z2 a0 a1 a2 e0 e1 e2
                      have HN := Lib.hid (HN.out _ q)
                      have u1 := HB.out.1.g1.stays q
                      have u2 := HB.out.1.g2.stays q
                      have x0 := u1.frozen 0
                      have x1 := u1.frozen 1
                      have x2 := u1.frozen 2
                      have z2 := u2.frozen 2
                      have a0 := u1.c0
                      have a1 := u1.c1
                      have a2 := u1.c2
                      have e1 := u2.c1
                      have e2 := u2.c2
                      clear q HB u1 u2
                      go_wp2_with fail
                      go_roundg (wt 1000000 1000000 false ⟨#[]⟩ ⟨#[]⟩ m2 b2 R2 b2)
                      case measure => rw [← HG.out]; exact HN.out.2
                      case rel => exact ⟨_, _, _, _, _, _, _, _, rfl, rfl, HN.out.1, rfl⟩
                    · have fp : p.toList.isEmpty = false := by rw [empty_iff]; exact decide_eq_false (by omega)
                      have fs : s.toList.isEmpty = false := by rw [empty_iff]; exact decide_eq_false (by omega)
                      have f3 : (0 : Int) < (p.size : Int) := by omega
                      have f4 : (0 : Int) < (s.size : Int) := by omega
                      have f5 : ((p[0].toNat : Int) == (s[0].toNat : Int)) = false := by rw [beq_eq_false_iff_ne]; omega
                      clear he
                      go_wp2_with fail
                      refine (cP.out _).mono ?_; rintro e w' ⟨rfl, rfl⟩
                      clear cP
                      go_wp2_with fail
                      refine (cO.out _).mono ?_; rintro e w' ⟨rfl, rfl⟩
                      clear cO
                      go_wp2_with fail
                      go_quiet (fail)
                      go_wp2_with fail
                      refine (cT.out _ (Q.drewN _ _)).mono ?_; rintro e w2 ⟨rfl, q⟩
                      clear cT x0 x1 x2 z0 z1 z2 a0 a1 a2 e0 e1 e2
                      have HN := Lib.hid (HN.out _ q)
                      have u1 := HB.out.1.g1.stays q
                      have u2 := HB.out.1.g2.stays q
                      have x0 := u1.frozen 0
                      have x1 := u1.frozen 1
                      have x2 := u1.frozen 2
                      have z2 := u2.frozen 2
                      have a0 := u1.c0
                      have a1 := u1.c1
                      have a2 := u1.c2
                      have e1 := u2.c1
                      have e2 := u2.c2
                      clear q HB u1 u2
                      go_wp2_with fail
                      go_roundg (wt 1000000 1000000 false ⟨#[]⟩ ⟨#[]⟩ m2 b2 R2 b2)
                      case measure => rw [← HG.out]; exact HN.out.2
                      case rel => exact ⟨_, _, _, _, _, _, _, _, rfl, rfl, HN.out.1, rfl⟩
                  · have k0 : r1.toList.isEmpty = false := by rw [empty_iff]; exact decide_eq_false (by omega)
                    have k1 : (0 : Int) < (r1.size : Int) := by omega
                    have k2 : ((r1[0].toNat : Int) != 46) = false := by rw [bne_eq_false_iff_eq]; omega
                    clear hk2
                    rcases hS with ⟨h1, h2⟩ | ⟨h1, h2⟩ | ⟨h1, h2, he⟩
                    · have fp : p.toList.isEmpty = true := by rw [empty_iff]; exact decide_eq_true h1
                      have fs : s.toList.isEmpty = false := by rw [empty_iff]; exact decide_eq_false (by omega)
                      clear h1 h2
                      go_wp2_with fail
                      refine (cP.out _).mono ?_; rintro e w' ⟨rfl, rfl⟩
                      clear cP
                      go_wp2_with fail
                      refine (cO.out _).mono ?_; rintro e w' ⟨rfl, rfl⟩
                      clear cO
                      go_wp2_with fail
                      go_quiet (fail)
                      go_wp2_with fail
                      refine (cT.out _ (Q.drewN _ _)).mono ?_; rintro e w2 ⟨rfl, q⟩
                      clear cT x0 x1 x2 z0 z1 z2 a0 a1 a2 e0 e1 e2
                      have HN := Lib.hid (HN.out _ q)
                      have u1 := HB.out.1.g1.stays q
                      have u2 := HB.out.1.g2.stays q
                      have x0 := u1.frozen 0
                      have x1 := u1.frozen 1
                      have x2 := u1.frozen 2
                      have z2 := u2.frozen 2
                      have a0 := u1.c0
                      have a1 := u1.c1
                      have a2 := u1.c2
                      have e1 := u2.c1
                      have e2 := u2.c2
                      clear q HB u1 u2
                      go_wp2_with fail
                      go_roundg (wt 1000000 1000000 false ⟨#[]⟩ ⟨#[]⟩ m2 b2 R2 b2)
                      case measure => rw [← HG.out]; exact HN.out.2
                      case rel => exact ⟨_, _, _, _, _, _, _, _, rfl, rfl, HN.out.1, rfl⟩
                    · have fp : p.toList.isEmpty = false := by rw [empty_iff]; exact decide_eq_false (by omega)
                      have fs : s.toList.isEmpty = true := by rw [empty_iff]; exact decide_eq_true h2
                      have f3 : (0 : Int) < (p.size : Int) := by omega
                      clear h1 h2
                      go_wp2_with fail
                      refine (cP.out _).mono ?_; rintro e w' ⟨rfl, rfl⟩
                      clear cP
                      go_wp2_with fail
                      refine (cO.out _).mono ?_; rintro e w' ⟨rfl, rfl⟩
                      clear cO
                      go_wp2_with fail
                      go_quiet (fail)
                      go_wp2_with fail
                      refine (cT.out _ (Q.drewN _ _)).mono ?_; rintro e w2 ⟨rfl, q⟩
                      clear cT x0 x1 x2 z0 z1 z2 a0 a1 a2 e0 e1 e2
                      have HN := Lib.hid (HN.out _ q)
                      have u1 := HB.out.1.g1.stays q
                      have u2 := HB.out.1.g2.stays q
                      have x0 := u1.frozen 0
                      have x1 := u1.frozen 1
                      have x2 := u1.frozen 2
                      have z2 := u2.frozen 2
                      have a0 := u1.c0
                      have a1 := u1.c1
                      have a2 := u1.c2
                      have e1 := u2.c1
                      have e2 := u2.c2
                      clear q HB u1 u2
                      go_wp2_with fail
                      go_roundg (wt 1000000 1000000 false ⟨#[]⟩ ⟨#[]⟩ m2 b2 R2 b2)
                      case measure => rw [← HG.out]; exact HN.out.2
                      case rel => exact ⟨_, _, _, _, _, _, _, _, rfl, rfl, HN.out.1, rfl⟩
                    · have fp : p.toList.isEmpty = false := by rw [empty_iff]; exact decide_eq_false (by omega)
                      have fs : s.toList.isEmpty = false := by rw [empty_iff]; exact decide_eq_false (by omega)
                      have f3 : (0 : Int) < (p.size : Int) := by omega
                      have f4 : (0 : Int) < (s.size : Int) := by omega
                      have f5 : ((p[0].toNat : Int) == (s[0].toNat : Int)) = false := by rw [beq_eq_false_iff_ne]; omega
                      clear he
                      go_wp2_with fail
                      refine (cP.out _).mono ?_; rintro e w' ⟨rfl, rfl⟩
                      clear cP
                      go_wp2_with fail
                      refine (cO.out _).mono ?_; rintro e w' ⟨rfl, rfl⟩
                      clear cO
                      go_wp2_with fail
                      go_quiet (fail)
                      go_wp2_with fail
                      refine (cT.out _ (Q.drewN _ _)).mono ?_; rintro e w2 ⟨rfl, q⟩
                      clear cT x0 x1 x2 z0 z1 z2 a0 a1 a2 e0 e1 e2
                      have HN := Lib.hid (HN.out _ q)
                      have u1 := HB.out.1.g1.stays q
                      have u2 := HB.out.1.g2.stays q
                      have x0 := u1.frozen 0
                      have x1 := u1.frozen 1
                      have x2 := u1.frozen 2
                      have z2 := u2.frozen 2
                      have a0 := u1.c0
                      have a1 := u1.c1
                      have a2 := u1.c2
                      have e1 := u2.c1
                      have e2 := u2.c2
                      clear q HB u1 u2
                      go_wp2_with fail
                      go_roundg (wt 1000000 1000000 false ⟨#[]⟩ ⟨#[]⟩ m2 b2 R2 b2)
                      case measure => rw [← HG.out]; exact HN.out.2
                      case rel => exact ⟨_, _, _, _, _, _, _, _, rfl, rfl, HN.out.1, rfl⟩
                · -- it can't
                  have cT : Hid (∀ w1, Q wr w1 → Calls Try.prog 27 #[.string r2, .bool true] w1 fun e w' => e = .returned (.tuple #[.string ⟨#[]⟩, .bool false]) ∧ Q wr w') := fun w1 q => by
                    have h := takeMore_stopped r2 w1 ((HM.out.stays HB.out.1.hq).stays q) HB.out.1.r2T
                    rw [cut_not 46 _ hd] at h
                    exact h.mono fun e w' h => ⟨h.1, q.trans h.2⟩
                  have HN : Hid (R = false) := by
                    have h := HB.out.1.mid.no2 hk hn (.inl ⟨rfl, fun c hc e => hd (e ▸ hc)⟩)
                    rw [← HA.out, Bool.not_eq_true] at h
                    exact h
                  clear HA HM hn hk hd
                  rcases hK with hk | ⟨hk, hk2⟩
                  · have k0 : r1.toList.isEmpty = true := by rw [empty_iff]; exact decide_eq_true hk
                    clear hk
                    rcases hS with ⟨h1, h2⟩ | ⟨h1, h2⟩ | ⟨h1, h2, he⟩
                    · have fp : p.toList.isEmpty = true := by rw [empty_iff]; exact decide_eq_true h1
                      have fs : s.toList.isEmpty = false := by rw [empty_iff]; exact decide_eq_false (by omega)
                      clear h1 h2
                      go_wp2_with fail
                      refine (cP.out _).mono ?_; rintro e w' ⟨rfl, rfl⟩
                      clear cP
                      go_wp2_with fail
                      refine (cO.out _).mono ?_; rintro e w' ⟨rfl, rfl⟩
                      clear cO
                      go_wp2_with fail
                      go_quiet (fail)
                      go_wp2_with fail
                      refine (cT.out _ (Q.drewN _ _)).mono ?_; rintro e w2 ⟨rfl, q⟩
                      clear cT x0 x1 x2 z0 z1 z2 a0 a1 a2 e0 e1 e2
                      have HR := Lib.hid (And.intro HN.out (HB.out.1.hq.trans q))
                      clear q HB
                      go_wp2_with fail
                      rw [Exit.noGoto_ret]
                      go_ret
                      exact ⟨by rw [HR.out.1]; rfl, HR.out.2⟩
                    · have fp : p.toList.isEmpty = false := by rw [empty_iff]; exact decide_eq_false (by omega)
                      have fs : s.toList.isEmpty = true := by rw [empty_iff]; exact decide_eq_true h2
                      have f3 : (0 : Int) < (p.size : Int) := by omega
                      clear h1 h2
                      go_wp2_with fail
                      refine (cP.out _).mono ?_; rintro e w' ⟨rfl, rfl⟩
                      clear cP
                      go_wp2_with fail
                      refine (cO.out _).mono ?_; rintro e w' ⟨rfl, rfl⟩
                      clear cO
                      go_wp2_with fail
                      go_quiet (fail)
                      go_wp2_with fail
                      refine (cT.out _ (Q.drewN _ _)).mono ?_; rintro e w2 ⟨rfl, q⟩
                      clear cT x0 x1 x2 z0 z1 z2 a0 a1 a2 e0 e1 e2
                      have HR := Lib.hid (And.intro HN.out (HB.out.1.hq.trans q))
                      clear q HB
                      go_wp2_with fail
                      rw [Exit.noGoto_ret]
                      go_ret
                      exact ⟨by rw [HR.out.1]; rfl, HR.out.2⟩
                    · have fp : p.toList.isEmpty = false := by rw [empty_iff]; exact decide_eq_false (by omega)
                      have fs : s.toList.isEmpty = false := by rw [empty_iff]; exact decide_eq_false (by omega)
                      have f3 : (0 : Int) < (p.size : Int) := by omega
                      have f4 : (0 : Int) < (s.size : Int) := by omega
                      have f5 : ((p[0].toNat : Int) == (s[0].toNat : Int)) = false := by rw [beq_eq_false_iff_ne]; omega
                      clear he
                      go_wp2_with fail
                      refine (cP.out _).mono ?_; rintro e w' ⟨rfl, rfl⟩
                      clear cP
                      go_wp2_with fail
                      refine (cO.out _).mono ?_; rintro e w' ⟨rfl, rfl⟩
                      clear cO
                      go_wp2_with fail
                      go_quiet (fail)
                      go_wp2_with fail
                      refine (cT.out _ (Q.drewN _ _)).mono ?_; rintro e w2 ⟨rfl, q⟩
                      clear cT x0 x1 x2 z0 z1 z2 a0 a1 a2 e0 e1 e2
                      have HR := Lib.hid (And.intro HN.out (HB.out.1.hq.trans q))
                      clear q HB
                      go_wp2_with fail
                      rw [Exit.noGoto_ret]
                      go_ret
                      exact ⟨by rw [HR.out.1]; rfl, HR.out.2⟩
                  · have k0 : r1.toList.isEmpty = false := by rw [empty_iff]; exact decide_eq_false (by omega)
                    have k1 : (0 : Int) < (r1.size : Int) := by omega
                    have k2 : ((r1[0].toNat : Int) != 46) = false := by rw [bne_eq_false_iff_eq]; omega
                    clear hk2
                    rcases hS with ⟨h1, h2⟩ | ⟨h1, h2⟩ | ⟨h1, h2, he⟩
                    · have fp : p.toList.isEmpty = true := by rw [empty_iff]; exact decide_eq_true h1
                      have fs : s.toList.isEmpty = false := by rw [empty_iff]; exact decide_eq_false (by omega)
                      clear h1 h2
                      go_wp2_with fail
                      refine (cP.out _).mono ?_; rintro e w' ⟨rfl, rfl⟩
                      clear cP
                      go_wp2_with fail
                      refine (cO.out _).mono ?_; rintro e w' ⟨rfl, rfl⟩
                      clear cO
                      go_wp2_with fail
                      go_quiet (fail)
                      go_wp2_with fail
                      refine (cT.out _ (Q.drewN _ _)).mono ?_; rintro e w2 ⟨rfl, q⟩
                      clear cT x0 x1 x2 z0 z1 z2 a0 a1 a2 e0 e1 e2
                      have HR := Lib.hid (And.intro HN.out (HB.out.1.hq.trans q))
                      clear q HB
                      go_wp2_with fail
                      rw [Exit.noGoto_ret]
                      go_ret
                      exact ⟨by rw [HR.out.1]; rfl, HR.out.2⟩
                    · have fp : p.toList.isEmpty = false := by rw [empty_iff]; exact decide_eq_false (by omega)
                      have fs : s.toList.isEmpty = true := by rw [empty_iff]; exact decide_eq_true h2
                      have f3 : (0 : Int) < (p.size : Int) := by omega
                      clear h1 h2
                      go_wp2_with fail
                      refine (cP.out _).mono ?_; rintro e w' ⟨rfl, rfl⟩
                      clear cP
                      go_wp2_with fail
                      refine (cO.out _).mono ?_; rintro e w' ⟨rfl, rfl⟩
                      clear cO
                      go_wp2_with fail
                      go_quiet (fail)
                      go_wp2_with fail
                      refine (cT.out _ (Q.drewN _ _)).mono ?_; rintro e w2 ⟨rfl, q⟩
                      clear cT x0 x1 x2 z0 z1 z2 a0 a1 a2 e0 e1 e2
                      have HR := Lib.hid (And.intro HN.out (HB.out.1.hq.trans q))
                      clear q HB
                      go_wp2_with fail
                      rw [Exit.noGoto_ret]
                      go_ret
                      exact ⟨by rw [HR.out.1]; rfl, HR.out.2⟩
                    · have fp : p.toList.isEmpty = false := by rw [empty_iff]; exact decide_eq_false (by omega)
                      have fs : s.toList.isEmpty = false := by rw [empty_iff]; exact decide_eq_false (by omega)
                      have f3 : (0 : Int) < (p.size : Int) := by omega
                      have f4 : (0 : Int) < (s.size : Int) := by omega
                      have f5 : ((p[0].toNat : Int) == (s[0].toNat : Int)) = false := by rw [beq_eq_false_iff_ne]; omega
                      clear he
                      go_wp2_with fail
                      refine (cP.out _).mono ?_; rintro e w' ⟨rfl, rfl⟩
                      clear cP
                      go_wp2_with fail
                      refine (cO.out _).mono ?_; rintro e w' ⟨rfl, rfl⟩
                      clear cO
                      go_wp2_with fail
                      go_quiet (fail)
                      go_wp2_with fail
                      refine (cT.out _ (Q.drewN _ _)).mono ?_; rintro e w2 ⟨rfl, q⟩
                      clear cT x0 x1 x2 z0 z1 z2 a0 a1 a2 e0 e1 e2
                      have HR := Lib.hid (And.intro HN.out (HB.out.1.hq.trans q))
                      clear q HB
                      go_wp2_with fail
                      rw [Exit.noGoto_ret]
                      go_ret
                      exact ⟨by rw [HR.out.1]; rfl, HR.out.2⟩
              | false =>
                have hr0 : r1.size = 0 := (nil_iff r1).1 (HB.out.1.mid.none1 rfl)
                have k0 : r1.toList.isEmpty = true := by rw [empty_iff]; exact decide_eq_true hr0
                clear hK
                by_cases hd : 0 < r2.size
                · -- the group of two takes a byte more
                  obtain ⟨R2, hR2⟩ : ∃ R2 : ByteArray, r2.extract 1 r2.size = R2 := ⟨_, rfl⟩
                  have cT : Hid (∀ w1, Q wr w1 → Calls Try.prog 27 #[.string r2, .bool false] w1 fun e w' => e = .returned (.tuple #[.string R2, .bool true]) ∧ Q wr w') := fun w1 q => by
                    have h := takeMore_next r2 w1 HB.out.1.r2T hd
                    rw [hR2] at h
                    exact h.mono fun e w' h => ⟨h.1, q.trans h.2⟩
                  have HN : Hid (∀ w1, Q wr w1 → _) := fun w1 q => HB.out.1.again R2 (by rw [← hR2, ext_size]; omega) (by
                    have hm := HB.out.1.mid
                    rw [cons_of r2 hd, hR2] at hm
                    exact hm.more2 hk hn) q
                  clear HA HM hn hk hd hr0 hR2
                  rcases hS with ⟨h1, h2⟩ | ⟨h1, h2⟩ | ⟨h1, h2, he⟩
                  · have fp : p.toList.isEmpty = true := by rw [empty_iff]; exact decide_eq_true h1
                    have fs : s.toList.isEmpty = false := by rw [empty_iff]; exact decide_eq_false (by omega)
                    clear h1 h2
                    go_wp2_with fail
                    refine (cP.out _).mono ?_; rintro e w' ⟨rfl, rfl⟩
                    clear cP
                    go_wp2_with fail
                    refine (cO.out _).mono ?_; rintro e w' ⟨rfl, rfl⟩
                    clear cO
                    go_wp2_with fail
                    go_quiet (fail)
                    go_wp2_with fail
                    refine (cT.out _ (Q.drewN _ _)).mono ?_; rintro e w2 ⟨rfl, q⟩
                    clear cT x0 x1 x2 z0 z1 z2 a0 a1 a2 e0 e1 e2
                    have HN := Lib.hid (HN.out _ q)
                    have u1 := HB.out.1.g1.stays q
                    have u2 := HB.out.1.g2.stays q
                    have x0 := u1.frozen 0
                    have x1 := u1.frozen 1
                    have x2 := u1.frozen 2
                    have z2 := u2.frozen 2
                    have a0 := u1.c0
                    have a1 := u1.c1
                    have a2 := u1.c2
                    have e1 := u2.c1
                    have e2 := u2.c2
                    clear q HB u1 u2
                    go_wp2_with fail
                    go_roundg (wt 1000000 1000000 false ⟨#[]⟩ ⟨#[]⟩ m2 b2 R2 b2)
                    case measure => rw [← HG.out]; exact HN.out.2
                    case rel => exact ⟨_, _, _, _, _, _, _, _, rfl, rfl, HN.out.1, rfl⟩
                  · have fp : p.toList.isEmpty = false := by rw [empty_iff]; exact decide_eq_false (by omega)
                    have fs : s.toList.isEmpty = true := by rw [empty_iff]; exact decide_eq_true h2
                    have f3 : (0 : Int) < (p.size : Int) := by omega
                    clear h1 h2
                    go_wp2_with fail
                    refine (cP.out _).mono ?_; rintro e w' ⟨rfl, rfl⟩
                    clear cP
                    go_wp2_with fail
                    refine (cO.out _).mono ?_; rintro e w' ⟨rfl, rfl⟩
                    clear cO
                    go_wp2_with fail
                    go_quiet (fail)
                    go_wp2_with fail
                    refine (cT.out _ (Q.drewN _ _)).mono ?_; rintro e w2 ⟨rfl, q⟩
                    clear cT x0 x1 x2 z0 z1 z2 a0 a1 a2 e0 e1 e2
                    have HN := Lib.hid (HN.out _ q)
                    have u1 := HB.out.1.g1.stays q
                    have u2 := HB.out.1.g2.stays q
                    have x0 := u1.frozen 0
                    have x1 := u1.frozen 1
                    have x2 := u1.frozen 2
                    have z2 := u2.frozen 2
                    have a0 := u1.c0
                    have a1 := u1.c1
                    have a2 := u1.c2
                    have e1 := u2.c1
                    have e2 := u2.c2
                    clear q HB u1 u2
                    go_wp2_with fail
                    go_roundg (wt 1000000 1000000 false ⟨#[]⟩ ⟨#[]⟩ m2 b2 R2 b2)
                    case measure => rw [← HG.out]; exact HN.out.2
                    case rel => exact ⟨_, _, _, _, _, _, _, _, rfl, rfl, HN.out.1, rfl⟩
                  · have fp : p.toList.isEmpty = false := by rw [empty_iff]; exact decide_eq_false (by omega)
                    have fs : s.toList.isEmpty = false := by rw [empty_iff]; exact decide_eq_false (by omega)
                    have f3 : (0 : Int) < (p.size : Int) := by omega
                    have f4 : (0 : Int) < (s.size : Int) := by omega
                    have f5 : ((p[0].toNat : Int) == (s[0].toNat : Int)) = false := by rw [beq_eq_false_iff_ne]; omega
                    clear he
                    go_wp2_with fail
                    refine (cP.out _).mono ?_; rintro e w' ⟨rfl, rfl⟩
                    clear cP
                    go_wp2_with fail
                    refine (cO.out _).mono ?_; rintro e w' ⟨rfl, rfl⟩
                    clear cO
                    go_wp2_with fail
                    go_quiet (fail)
                    go_wp2_with fail
                    refine (cT.out _ (Q.drewN _ _)).mono ?_; rintro e w2 ⟨rfl, q⟩
                    clear cT x0 x1 x2 z0 z1 z2 a0 a1 a2 e0 e1 e2
                    have HN := Lib.hid (HN.out _ q)
                    have u1 := HB.out.1.g1.stays q
                    have u2 := HB.out.1.g2.stays q
                    have x0 := u1.frozen 0
                    have x1 := u1.frozen 1
                    have x2 := u1.frozen 2
                    have z2 := u2.frozen 2
                    have a0 := u1.c0
                    have a1 := u1.c1
                    have a2 := u1.c2
                    have e1 := u2.c1
                    have e2 := u2.c2
                    clear q HB u1 u2
                    go_wp2_with fail
                    go_roundg (wt 1000000 1000000 false ⟨#[]⟩ ⟨#[]⟩ m2 b2 R2 b2)
                    case measure => rw [← HG.out]; exact HN.out.2
                    case rel => exact ⟨_, _, _, _, _, _, _, _, rfl, rfl, HN.out.1, rfl⟩
                · -- it can't
                  have hd0 : r2.size = 0 := by omega
                  have cT : Hid (∀ w1, Q wr w1 → Calls Try.prog 27 #[.string r2, .bool false] w1 fun e w' => e = .returned (.tuple #[.string ⟨#[]⟩, .bool false]) ∧ Q wr w') := fun w1 q => by
                    exact (takeMore_end r2 w1 hd0).mono fun e w' h => ⟨h.1, q.trans h.2⟩
                  have HN : Hid (R = false) := by
                    have h := HB.out.1.mid.no2 hk hn (.inr ((nil_iff r2).2 hd0))
                    rw [← HA.out, Bool.not_eq_true] at h
                    exact h
                  clear HA HM hn hk hd hr0 hd0
                  rcases hS with ⟨h1, h2⟩ | ⟨h1, h2⟩ | ⟨h1, h2, he⟩
                  · have fp : p.toList.isEmpty = true := by rw [empty_iff]; exact decide_eq_true h1
                    have fs : s.toList.isEmpty = false := by rw [empty_iff]; exact decide_eq_false (by omega)
                    clear h1 h2
                    go_wp2_with fail
                    refine (cP.out _).mono ?_; rintro e w' ⟨rfl, rfl⟩
                    clear cP
                    go_wp2_with fail
                    refine (cO.out _).mono ?_; rintro e w' ⟨rfl, rfl⟩
                    clear cO
                    go_wp2_with fail
                    go_quiet (fail)
                    go_wp2_with fail
                    refine (cT.out _ (Q.drewN _ _)).mono ?_; rintro e w2 ⟨rfl, q⟩
                    clear cT x0 x1 x2 z0 z1 z2 a0 a1 a2 e0 e1 e2
                    have HR := Lib.hid (And.intro HN.out (HB.out.1.hq.trans q))
                    clear q HB
                    go_wp2_with fail
                    rw [Exit.noGoto_ret]
                    go_ret
                    exact ⟨by rw [HR.out.1]; rfl, HR.out.2⟩
                  · have fp : p.toList.isEmpty = false := by rw [empty_iff]; exact decide_eq_false (by omega)
                    have fs : s.toList.isEmpty = true := by rw [empty_iff]; exact decide_eq_true h2
                    have f3 : (0 : Int) < (p.size : Int) := by omega
                    clear h1 h2
                    go_wp2_with fail
                    refine (cP.out _).mono ?_; rintro e w' ⟨rfl, rfl⟩
                    clear cP
                    go_wp2_with fail
                    refine (cO.out _).mono ?_; rintro e w' ⟨rfl, rfl⟩
                    clear cO
                    go_wp2_with fail
                    go_quiet (fail)
                    go_wp2_with fail
                    refine (cT.out _ (Q.drewN _ _)).mono ?_; rintro e w2 ⟨rfl, q⟩
                    clear cT x0 x1 x2 z0 z1 z2 a0 a1 a2 e0 e1 e2
                    have HR := Lib.hid (And.intro HN.out (HB.out.1.hq.trans q))
                    clear q HB
                    go_wp2_with fail
                    rw [Exit.noGoto_ret]
                    go_ret
                    exact ⟨by rw [HR.out.1]; rfl, HR.out.2⟩
                  · have fp : p.toList.isEmpty = false := by rw [empty_iff]; exact decide_eq_false (by omega)
                    have fs : s.toList.isEmpty = false := by rw [empty_iff]; exact decide_eq_false (by omega)
                    have f3 : (0 : Int) < (p.size : Int) := by omega
                    have f4 : (0 : Int) < (s.size : Int) := by omega
                    have f5 : ((p[0].toNat : Int) == (s[0].toNat : Int)) = false := by rw [beq_eq_false_iff_ne]; omega
                    clear he
                    go_wp2_with fail
                    refine (cP.out _).mono ?_; rintro e w' ⟨rfl, rfl⟩
                    clear cP
                    go_wp2_with fail
                    refine (cO.out _).mono ?_; rintro e w' ⟨rfl, rfl⟩
                    clear cO
                    go_wp2_with fail
                    go_quiet (fail)
                    go_wp2_with fail
                    refine (cT.out _ (Q.drewN _ _)).mono ?_; rintro e w2 ⟨rfl, q⟩
                    clear cT x0 x1 x2 z0 z1 z2 a0 a1 a2 e0 e1 e2
                    have HR := Lib.hid (And.intro HN.out (HB.out.1.hq.trans q))
                    clear q HB
                    go_wp2_with fail
                    rw [Exit.noGoto_ret]
                    go_ret
                    exact ⟨by rw [HR.out.1]; rfl, HR.out.2⟩

end Go.Proofs.Ythknlllaclgekaa.glo
