/- The reference's node and check. -/
import Derived.Test.YtjmchjphdfbhiaaGreatDoorWtx
import Derived.Test.YtjmchjphdfbhiaaGreatDoorWrk
import Derived.BigQuiet
import Derived.Deep.QuietTactic
namespace Go.Proofs.YtjmchjphdfbhiaaGreatDoor.val
open Go.RowKit
open Go.Proofs.YtjmchjphdfbhiaaGreatDoor
set_option maxRecDepth 100000 in
set_option maxHeartbeats 8000000 in
theorem node_any (v : V) (A3 : Option Addr) (k3 : Nat) (A4 : Option Addr) (k4 : Nat) (w : World) (h : Va v A3 k3 A4 k4 w) :
    Calls Tryz.prog 72 #[vv v A3 k3 A4 k4] w fun e w' => e = .returned (.int .i64 (nodeE v.kind v.num v.str v.items v.keys)) ∧ Q w w' := by
  have cS := Lib.hid (fun w' => shaped_any v (.slice A3 v.items.length k3) (.slice A4 v.keys.length k4) w' w h.1 h.2.1)
  have hkm : v.keys.length ≤ maxLen := ((Wf_iff _).1 h.2.2).2.2.2.2.1
  obtain ⟨vk, vn, vs, l, ks⟩ := v
  have hks : Ks (.slice A4 ks.length k4) ks w := h.2.1
  have cS : Hid (∀ w', Calls Tryz.prog 92 #[.agg #[.int .i64 vk, .int .i64 vn, .string vs, .slice A3 l.length k3, .slice A4 ks.length k4]] w' fun e w'' => e = .returned (.bool (shB vk vn vs l ks)) ∧ Q w' w'') := cS
  show Calls Tryz.prog 72 #[.agg #[.int .i64 vk, .int .i64 vn, .string vs, .slice A3 l.length k3, .slice A4 ks.length k4]] w fun e w' => e = .returned (.int .i64 (nodeE vk vn vs l ks)) ∧ Q w w'
  have cT := Lib.hid (fun w' => text_any vs w')
  have cR := Lib.hid (fun w' => rvalid_any vn w')
  have cX := Lib.hid (fun s w' => text_any s w')
  unfold nodeE
  obtain ⟨E, hE⟩ : ∃ E, textE vs = E := ⟨_, rfl⟩
  obtain ⟨K, hK⟩ : ∃ K, keysE none ks = K := ⟨_, rfl⟩
  obtain ⟨S, hS⟩ : ∃ S, shB vk vn vs l ks = S := ⟨_, rfl⟩
  obtain ⟨G, hG⟩ : ∃ G, decide (-9007199254740992 ≤ vn ∧ vn ≤ 9007199254740992) = G := ⟨_, rfl⟩
  rw [hE] at cT ⊢
  rw [hG] at cR
  rw [hK]
  rw [hS] at cS ⊢
  have hkm : ks.length ≤ maxLen := hkm
  obtain ⟨n4, hn4⟩ : ∃ n, ks.length = n := ⟨_, rfl⟩
  obtain ⟨n3, hn3⟩ : ∃ n, l.length = n := ⟨_, rfl⟩
  rw [hn4] at cS hks hkm ⊢
  rw [hn3] at cS ⊢
  obtain ⟨B, hB⟩ : ∃ B, w.heap.size = B := ⟨_, rfl⟩
  obtain ⟨wb, hwb⟩ : ∃ wb, w.alloc (.cells #[.int .i64 vk, .int .i64 vn, .string vs, .slice A3 n3 k3, .slice A4 n4 k4] 26) = wb := ⟨_, rfl⟩
  have q0 : Q w wb := by rw [← hwb]; exact Q.box _ _
  have bB : Bk B #[.int .i64 vk, .int .i64 vn, .string vs, .slice A3 n3 k3, .slice A4 n4 k4] 26 wb := by rw [← hwb, ← hB]; exact Bk.new _ _ _
  have H0 : Hid (keysE (if 0 = 0 then none else ks[0 - 1]?) (ks.drop 0) = K) := Lib.hid (by rw [if_pos rfl, List.drop_zero]; exact hK)
  have hnm : (n4 : Int) ≤ 9223372036854775807 := by unfold maxLen at hkm; omega
  have HKS := Lib.hid hks
  have HN4 := Lib.hid hn4
  have Q0 := Lib.hid q0
  have BB := Lib.hid bB
  have x0 := bB.at 0 _ rfl
  have x1 := bB.at 1 _ rfl
  have x2 := bB.at 2 _ rfl
  have x3 := bB.at 3 _ rfl
  have x4 := bB.at 4 _ rfl
  clear h hks hn3 hn4 hE hK hS hkm q0 bB
  cases S with
  | false =>
    rw [if_pos rfl]
    clear hG
    go_enter Tryz.func72, Tryz.ntmps72
    go_wp2_with fail
    refine (cS.out _).mono ?_
    rintro e w1 ⟨rfl, q1⟩
    clear x0 x1 x2 x3 x4
    go_wp2_with fail
    go_ret
    exact ⟨rfl, Q0.out.trans q1⟩
  | true =>
    rw [if_neg (by decide)]
    by_cases h2 : vk = 2
    · have h2' : (vk == 2) = true := by rw [h2]; rfl
      cases G with
      | false =>
        rw [if_pos ⟨h2, of_decide_eq_false hG⟩]
        clear hG h2
        go_enter Tryz.func72, Tryz.ntmps72
        go_wp2_with fail
        refine (cS.out _).mono ?_
        rintro e w1 ⟨rfl, q1⟩
        have b1 := BB.out.stays q1
        have y0 := b1.at 0 _ rfl
        have y1 := b1.at 1 _ rfl
        have y2 := b1.at 2 _ rfl
        have y3 := b1.at 3 _ rfl
        have y4 := b1.at 4 _ rfl
        have Q1 := Lib.hid (Q0.out.trans q1)
        have QB := Lib.hid q1
        clear x0 x1 x2 x3 x4 b1 q1 hwb
        go_wp2_with fail
        refine (cR.out _).mono ?_
        rintro e w2 ⟨rfl, q2⟩
        clear y0 y1 y2 y3 y4
        go_wp2_with fail
        go_ret
        exact ⟨rfl, Q1.out.trans q2⟩
      | true =>
        rw [if_neg (fun h => h.2 (of_decide_eq_true hG))]
        clear hG h2
        by_cases hE0 : E = 0
        · subst hE0
          rw [if_pos rfl]
          go_enter Tryz.func72, Tryz.ntmps72
          go_wp2_with fail
          refine (cS.out _).mono ?_
          rintro e w1 ⟨rfl, q1⟩
          have b1 := BB.out.stays q1
          have y0 := b1.at 0 _ rfl
          have y1 := b1.at 1 _ rfl
          have y2 := b1.at 2 _ rfl
          have y3 := b1.at 3 _ rfl
          have y4 := b1.at 4 _ rfl
          have Q1 := Lib.hid (Q0.out.trans q1)
          have QB := Lib.hid q1
          clear x0 x1 x2 x3 x4 b1 q1 hwb
          go_wp2_with fail
          refine (cR.out _).mono ?_
          rintro e w2 ⟨rfl, q2⟩
          have b2 := BB.out.stays (QB.out.trans q2)
          have z2 := b2.at 2 _ rfl
          have Q2 := Lib.hid (Q1.out.trans q2)
          have QB2 := Lib.hid (QB.out.trans q2)
          clear y0 y1 y2 y3 y4 b2 q2
          go_wp2_with fail
          refine (cT.out _).mono ?_
          rintro e w3 ⟨rfl, q3⟩
          have Q3 := Lib.hid (Q2.out.trans q3)
          have QB3 := Lib.hid (QB2.out.trans q3)
          clear z2 q3
          go_wp2_with fail
          go_loopw [4] (fun i wr => ∃ k : Nat, k ≤ n4 ∧ i = .int .i64 k ∧ Hid (Q wb wr) ∧ Hid (keysE (if k = 0 then none else ks[k - 1]?) (ks.drop k) = K)) (fun i _ => n4 - (intOf i).toNat)
          case atStart => exact ⟨0, Nat.zero_le _, rfl, QB3, H0⟩
          case round =>
            obtain ⟨k, hk, rfl, hq, hv⟩ := hrel
            have b1 := BB.out.stays hq.out
            have u4 := b1.at 4 _ rfl
            by_cases hlt : k < n4
            · have hltl : k < ks.length := by have := HN4.out; omega
              have hne : ks ≠ [] := by rintro rfl; simp at hltl
              obtain ⟨A', c', e, hc, g⟩ := HKS.out
              simp only [Value.slice.injEq] at e
              obtain ⟨rfl, -, rfl⟩ := e
              obtain ⟨b, o, rfl, kl⟩ := g hne
              have hql : Q w wr := Q0.out.trans hq.out
              have i0 := cell_stays hql (KL.at ks b o w kl k hltl)
              have hv2 := hv.out
              rw [List.drop_eq_getElem_cons hltl, keysE_cons] at hv2
              have cX2 := Lib.hid (cX.out ks[k] wr)
              obtain ⟨key, hkey⟩ : ∃ key, ks[k] = key := ⟨_, rfl⟩
              have hkb : (k : Int) < (n4 : Int) := by omega
              rw [hkey] at i0 hv2 cX2
              have HV : Hid (textE key = 0 → fits (if k = 0 then none else ks[k - 1]?) key = true → keysE (if k + 1 = 0 then none else ks[k + 1 - 1]?) (ks.drop (k + 1)) = K) := by
                intro h1 h2
                rw [if_pos h1, if_pos h2] at hv2
                rw [if_neg (by omega), Nat.add_sub_cancel, List.getElem?_eq_getElem hltl, hkey]
                exact hv2
              have hlt' := Lib.hid hlt
              have I0 := Lib.hid (KL.at ks b o w kl k hltl)
              rw [hkey] at I0
              obtain ⟨E, hE⟩ : ∃ E, textE key = E := ⟨_, rfl⟩
              rw [hE] at hv2 cX2 HV
              by_cases hE0 : E = 0
              · subst hE0
                rw [if_pos rfl] at hv2
                rcases Nat.eq_zero_or_pos k with hk0 | hk0
                · have HV2 := Lib.hid (HV.out rfl (by rw [if_pos hk0]; rfl))
                  have hkz : decide (0 < k) = false := decide_eq_false (by omega)
                  clear hk0 hkey hltl hlt kl hne hk hE hv2 HV hv b1 hql g hc
                  go_wp2_with fail
                  refine cX2.out.mono ?_; rintro e w4 ⟨rfl, q4⟩
                  have b4 := BB.out.stays (hq.out.trans q4)
                  have t4 := b4.at 4 _ rfl
                  have Q4 := Lib.hid (hq.out.trans q4)
                  clear i0 u4 q4 b4
                  go_wp2_with fail
                  go_quiet (fail)
                  go_wp2_with fail
                  go_round
                  case rel => exact ⟨k + 1, hlt'.out, by go_num, Lib.hid (Q4.out.trans (Q.drewN _ _)), HV2⟩
                  case measure => have := hlt'.out; simp [intOf]; omega
                · obtain ⟨m, hm⟩ : ∃ m, k = m + 1 := ⟨k - 1, by omega⟩
                  have hkm1 : (k : Int) - 1 = (m : Int) := by omega
                  have hkp : decide (0 < k) = true := decide_eq_true (by omega)
                  have hml : m < ks.length := by omega
                  have hmn : (m : Int) < (n4 : Int) := by omega
                  have hpk : ks[k - 1]? = some ks[m] := by rw [hm, Nat.add_sub_cancel, List.getElem?_eq_getElem hml]
                  have hkn : ¬ k = 0 := by omega
                  rw [if_neg hkn, hpk] at hv2 HV
                  have klm := Lib.hid (KL.at ks b o w kl m hml)
                  obtain ⟨prev, hprev⟩ : ∃ prev, ks[m] = prev := ⟨_, rfl⟩
                  rw [hprev] at klm hv2 HV
                  have hf : fits (some prev) key = Op.bytesLess prev.toList key.toList := (less_cT' prev key).symm
                  rw [hf] at hv2 HV
                  obtain ⟨R, hR⟩ : ∃ R, Op.bytesLess prev.toList key.toList = R := ⟨_, rfl⟩
                  rw [hR] at hv2 HV
                  clear hkey hltl hlt kl hne hk hE hv hf hprev hml hm hpk hk0 hkn b1 hql g hc
                  cases R with
                  | true =>
                    have HV2 := Lib.hid (HV.out rfl rfl)
                    clear HV hv2
                    go_wp2_with fail
                    refine cX2.out.mono ?_; rintro e w4 ⟨rfl, q4⟩
                    have b4 := BB.out.stays (hq.out.trans q4)
                    have t4 := b4.at 4 _ rfl
                    have Q4 := Lib.hid (hq.out.trans q4)
                    have c1 := cell_stays (Q0.out.trans Q4.out) klm.out
                    have c2 := cell_stays (Q0.out.trans Q4.out) I0.out
                    clear i0 u4 q4 b4
                    go_wp2_with fail
                    go_quiet (fail)
                    go_wp2_with fail
                    go_round
                    case rel => exact ⟨k + 1, hlt'.out, by go_num, Lib.hid (Q4.out.trans (Q.drewN _ _)), HV2⟩
                    case measure => have := hlt'.out; simp [intOf]; omega
                  | false =>
                    rw [if_neg (by decide)] at hv2
                    subst hv2
                    clear HV
                    go_wp2_with fail
                    refine cX2.out.mono ?_; rintro e w4 ⟨rfl, q4⟩
                    have b4 := BB.out.stays (hq.out.trans q4)
                    have t4 := b4.at 4 _ rfl
                    have Q4 := Lib.hid (hq.out.trans q4)
                    have c1 := cell_stays (Q0.out.trans Q4.out) klm.out
                    have c2 := cell_stays (Q0.out.trans Q4.out) I0.out
                    clear i0 u4 q4 b4
                    go_wp2_with fail
                    go_quiet (fail)
                    go_wp2_with fail
                    go_ret
                    exact ⟨rfl, Q0.out.trans (Q4.out.trans (Q.drewN _ _))⟩
              · rw [if_neg hE0] at hv2
                subst hv2
                have hE' : ((E != 0) = true) := by simpa using hE0
                clear hkey hltl hlt kl hne hk hE hE0 HV hv b1 hql g hc
                go_wp2_with fail
                refine cX2.out.mono ?_; rintro e w4 ⟨rfl, q4⟩
                have Q4 := Lib.hid (Q0.out.trans (hq.out.trans q4))
                clear i0 u4 q4
                go_wp2_with fail
                go_ret
                exact ⟨rfl, Q4.out⟩
            · obtain rfl : n4 = k := by omega
              have hv2 := hv.out
              rw [List.drop_of_length_le (by have := HN4.out; omega)] at hv2
              have : K = 0 := hv2.symm
              subst this
              clear hv2 hv hlt
              go_wp2_with fail
              go_ret
              exact ⟨rfl, Q0.out.trans hq.out⟩
        · rw [if_neg hE0]
          have hE' : ((E != 0) = true) := by simpa using hE0
          clear hE0
          go_enter Tryz.func72, Tryz.ntmps72
          go_wp2_with fail
          refine (cS.out _).mono ?_
          rintro e w1 ⟨rfl, q1⟩
          have b1 := BB.out.stays q1
          have y0 := b1.at 0 _ rfl
          have y1 := b1.at 1 _ rfl
          have y2 := b1.at 2 _ rfl
          have y3 := b1.at 3 _ rfl
          have y4 := b1.at 4 _ rfl
          have Q1 := Lib.hid (Q0.out.trans q1)
          have QB := Lib.hid q1
          clear x0 x1 x2 x3 x4 b1 q1 hwb
          go_wp2_with fail
          refine (cR.out _).mono ?_
          rintro e w2 ⟨rfl, q2⟩
          have b2 := BB.out.stays (QB.out.trans q2)
          have z2 := b2.at 2 _ rfl
          have Q2 := Lib.hid (Q1.out.trans q2)
          have QB2 := Lib.hid (QB.out.trans q2)
          clear y0 y1 y2 y3 y4 b2 q2
          go_wp2_with fail
          refine (cT.out _).mono ?_
          rintro e w3 ⟨rfl, q3⟩
          have Q3 := Lib.hid (Q2.out.trans q3)
          clear z2 q3
          go_wp2_with fail
          go_ret
          exact ⟨rfl, Q3.out⟩
    · have h2' : (vk == 2) = false := beq_eq_false_iff_ne.2 h2
      rw [if_neg (fun h => h2 h.1)]
      clear hG h2
      by_cases hE0 : E = 0
      · subst hE0
        rw [if_pos rfl]
        go_enter Tryz.func72, Tryz.ntmps72
        go_wp2_with fail
        refine (cS.out _).mono ?_
        rintro e w1 ⟨rfl, q1⟩
        have b1 := BB.out.stays q1
        have y0 := b1.at 0 _ rfl
        have y1 := b1.at 1 _ rfl
        have y2 := b1.at 2 _ rfl
        have y3 := b1.at 3 _ rfl
        have y4 := b1.at 4 _ rfl
        have Q1 := Lib.hid (Q0.out.trans q1)
        have QB := Lib.hid q1
        clear x0 x1 x2 x3 x4 b1 q1 hwb
        go_wp2_with fail
        have Q2 := Lib.hid Q1.out
        have QB2 := Lib.hid QB.out
        refine (cT.out _).mono ?_
        rintro e w3 ⟨rfl, q3⟩
        have Q3 := Lib.hid (Q2.out.trans q3)
        have QB3 := Lib.hid (QB2.out.trans q3)
        clear y0 y1 y2 y3 y4 q3
        go_wp2_with fail
        go_loopw [4] (fun i wr => ∃ k : Nat, k ≤ n4 ∧ i = .int .i64 k ∧ Hid (Q wb wr) ∧ Hid (keysE (if k = 0 then none else ks[k - 1]?) (ks.drop k) = K)) (fun i _ => n4 - (intOf i).toNat)
        case atStart => exact ⟨0, Nat.zero_le _, rfl, QB3, H0⟩
        case round =>
          obtain ⟨k, hk, rfl, hq, hv⟩ := hrel
          have b1 := BB.out.stays hq.out
          have u4 := b1.at 4 _ rfl
          by_cases hlt : k < n4
          · have hltl : k < ks.length := by have := HN4.out; omega
            have hne : ks ≠ [] := by rintro rfl; simp at hltl
            obtain ⟨A', c', e, hc, g⟩ := HKS.out
            simp only [Value.slice.injEq] at e
            obtain ⟨rfl, -, rfl⟩ := e
            obtain ⟨b, o, rfl, kl⟩ := g hne
            have hql : Q w wr := Q0.out.trans hq.out
            have i0 := cell_stays hql (KL.at ks b o w kl k hltl)
            have hv2 := hv.out
            rw [List.drop_eq_getElem_cons hltl, keysE_cons] at hv2
            have cX2 := Lib.hid (cX.out ks[k] wr)
            obtain ⟨key, hkey⟩ : ∃ key, ks[k] = key := ⟨_, rfl⟩
            have hkb : (k : Int) < (n4 : Int) := by omega
            rw [hkey] at i0 hv2 cX2
            have HV : Hid (textE key = 0 → fits (if k = 0 then none else ks[k - 1]?) key = true → keysE (if k + 1 = 0 then none else ks[k + 1 - 1]?) (ks.drop (k + 1)) = K) := by
              intro h1 h2
              rw [if_pos h1, if_pos h2] at hv2
              rw [if_neg (by omega), Nat.add_sub_cancel, List.getElem?_eq_getElem hltl, hkey]
              exact hv2
            have hlt' := Lib.hid hlt
            have I0 := Lib.hid (KL.at ks b o w kl k hltl)
            rw [hkey] at I0
            obtain ⟨E, hE⟩ : ∃ E, textE key = E := ⟨_, rfl⟩
            rw [hE] at hv2 cX2 HV
            by_cases hE0 : E = 0
            · subst hE0
              rw [if_pos rfl] at hv2
              rcases Nat.eq_zero_or_pos k with hk0 | hk0
              · have HV2 := Lib.hid (HV.out rfl (by rw [if_pos hk0]; rfl))
                have hkz : decide (0 < k) = false := decide_eq_false (by omega)
                clear hk0 hkey hltl hlt kl hne hk hE hv2 HV hv b1 hql g hc
                go_wp2_with fail
                refine cX2.out.mono ?_; rintro e w4 ⟨rfl, q4⟩
                have b4 := BB.out.stays (hq.out.trans q4)
                have t4 := b4.at 4 _ rfl
                have Q4 := Lib.hid (hq.out.trans q4)
                clear i0 u4 q4 b4
                go_wp2_with fail
                go_quiet (fail)
                go_wp2_with fail
                go_round
                case rel => exact ⟨k + 1, hlt'.out, by go_num, Lib.hid (Q4.out.trans (Q.drewN _ _)), HV2⟩
                case measure => have := hlt'.out; simp [intOf]; omega
              · obtain ⟨m, hm⟩ : ∃ m, k = m + 1 := ⟨k - 1, by omega⟩
                have hkm1 : (k : Int) - 1 = (m : Int) := by omega
                have hkp : decide (0 < k) = true := decide_eq_true (by omega)
                have hml : m < ks.length := by omega
                have hmn : (m : Int) < (n4 : Int) := by omega
                have hpk : ks[k - 1]? = some ks[m] := by rw [hm, Nat.add_sub_cancel, List.getElem?_eq_getElem hml]
                have hkn : ¬ k = 0 := by omega
                rw [if_neg hkn, hpk] at hv2 HV
                have klm := Lib.hid (KL.at ks b o w kl m hml)
                obtain ⟨prev, hprev⟩ : ∃ prev, ks[m] = prev := ⟨_, rfl⟩
                rw [hprev] at klm hv2 HV
                have hf : fits (some prev) key = Op.bytesLess prev.toList key.toList := (less_cT' prev key).symm
                rw [hf] at hv2 HV
                obtain ⟨R, hR⟩ : ∃ R, Op.bytesLess prev.toList key.toList = R := ⟨_, rfl⟩
                rw [hR] at hv2 HV
                clear hkey hltl hlt kl hne hk hE hv hf hprev hml hm hpk hk0 hkn b1 hql g hc
                cases R with
                | true =>
                  have HV2 := Lib.hid (HV.out rfl rfl)
                  clear HV hv2
                  go_wp2_with fail
                  refine cX2.out.mono ?_; rintro e w4 ⟨rfl, q4⟩
                  have b4 := BB.out.stays (hq.out.trans q4)
                  have t4 := b4.at 4 _ rfl
                  have Q4 := Lib.hid (hq.out.trans q4)
                  have c1 := cell_stays (Q0.out.trans Q4.out) klm.out
                  have c2 := cell_stays (Q0.out.trans Q4.out) I0.out
                  clear i0 u4 q4 b4
                  go_wp2_with fail
                  go_quiet (fail)
                  go_wp2_with fail
                  go_round
                  case rel => exact ⟨k + 1, hlt'.out, by go_num, Lib.hid (Q4.out.trans (Q.drewN _ _)), HV2⟩
                  case measure => have := hlt'.out; simp [intOf]; omega
                | false =>
                  rw [if_neg (by decide)] at hv2
                  subst hv2
                  clear HV
                  go_wp2_with fail
                  refine cX2.out.mono ?_; rintro e w4 ⟨rfl, q4⟩
                  have b4 := BB.out.stays (hq.out.trans q4)
                  have t4 := b4.at 4 _ rfl
                  have Q4 := Lib.hid (hq.out.trans q4)
                  have c1 := cell_stays (Q0.out.trans Q4.out) klm.out
                  have c2 := cell_stays (Q0.out.trans Q4.out) I0.out
                  clear i0 u4 q4 b4
                  go_wp2_with fail
                  go_quiet (fail)
                  go_wp2_with fail
                  go_ret
                  exact ⟨rfl, Q0.out.trans (Q4.out.trans (Q.drewN _ _))⟩
            · rw [if_neg hE0] at hv2
              subst hv2
              have hE' : ((E != 0) = true) := by simpa using hE0
              clear hkey hltl hlt kl hne hk hE hE0 HV hv b1 hql g hc
              go_wp2_with fail
              refine cX2.out.mono ?_; rintro e w4 ⟨rfl, q4⟩
              have Q4 := Lib.hid (Q0.out.trans (hq.out.trans q4))
              clear i0 u4 q4
              go_wp2_with fail
              go_ret
              exact ⟨rfl, Q4.out⟩
          · obtain rfl : n4 = k := by omega
            have hv2 := hv.out
            rw [List.drop_of_length_le (by have := HN4.out; omega)] at hv2
            have : K = 0 := hv2.symm
            subst this
            clear hv2 hv hlt
            go_wp2_with fail
            go_ret
            exact ⟨rfl, Q0.out.trans hq.out⟩
      · rw [if_neg hE0]
        have hE' : ((E != 0) = true) := by simpa using hE0
        clear hE0
        go_enter Tryz.func72, Tryz.ntmps72
        go_wp2_with fail
        refine (cS.out _).mono ?_
        rintro e w1 ⟨rfl, q1⟩
        have b1 := BB.out.stays q1
        have y0 := b1.at 0 _ rfl
        have y1 := b1.at 1 _ rfl
        have y2 := b1.at 2 _ rfl
        have y3 := b1.at 3 _ rfl
        have y4 := b1.at 4 _ rfl
        have Q1 := Lib.hid (Q0.out.trans q1)
        have QB := Lib.hid q1
        clear x0 x1 x2 x3 x4 b1 q1 hwb
        go_wp2_with fail
        have Q2 := Lib.hid Q1.out
        have QB2 := Lib.hid QB.out
        refine (cT.out _).mono ?_
        rintro e w3 ⟨rfl, q3⟩
        have Q3 := Lib.hid (Q2.out.trans q3)
        clear y0 y1 y2 y3 y4 q3
        go_wp2_with fail
        go_ret
        exact ⟨rfl, Q3.out⟩

end Go.Proofs.YtjmchjphdfbhiaaGreatDoor.val
