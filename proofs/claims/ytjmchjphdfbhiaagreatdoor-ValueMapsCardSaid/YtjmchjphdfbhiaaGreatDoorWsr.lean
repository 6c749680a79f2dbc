/- The reference's Equal and Refines. -/
import Derived.Test.YtjmchjphdfbhiaaGreatDoorWrk
import Derived.BigQuiet
import Derived.Deep.QuietTactic
import Derived.Deep.RegionHeld3
namespace Go.Proofs.YtjmchjphdfbhiaaGreatDoor.val
open Go.RowKit
open Go.Proofs.YtjmchjphdfbhiaaGreatDoor
theorem Ks.row {A : Option Addr} {n c : Nat} {l : List ByteArray} {w : World} (h : Ks (.slice A n c) l w) (hn : 0 < n) : ∃ b o, A = some ⟨b, o, none⟩ ∧ ∀ (i : Nat) (hi : i < l.length), w.cell? ⟨b, o + i, none⟩ = some (.string l[i]) := by
  obtain ⟨A', c', e, hc, g⟩ := h
  simp only [Value.slice.injEq] at e
  obtain ⟨rfl, rfl, rfl⟩ := e
  obtain ⟨b, o, e, hV⟩ := g (List.length_pos_iff.1 hn)
  exact ⟨b, o, e, KL.at _ _ _ _ hV⟩
/-- What the reference's Equal returns. -/
def EqC (a : V) : Prop := ∀ (b : V) (A3 : Option Addr) (k3 : Nat) (A4 : Option Addr) (k4 : Nat) (B3 : Option Addr) (l3 : Nat) (B4 : Option Addr) (l4 : Nat) (w : World), Va a A3 k3 A4 k4 w → Va b B3 l3 B4 l4 w →
  Calls Tryz.prog 15 #[vv a A3 k3 A4 k4, vv b B3 l3 B4 l4] w fun e w' => e = .returned (.bool (sameB false a b)) ∧ Q w w'
set_option maxRecDepth 100000 in
set_option maxHeartbeats 16000000 in
theorem requal_any : ∀ v : V, EqC v := by
  refine V.ind (fun a ih => ?_)
  obtain ⟨ak, an, at', l, ks⟩ := a
  rintro ⟨bk, bn, bt, l', ks'⟩ A3 k3 A4 k4 B3 l3 B4 l4 w ⟨hi, hk, hw⟩ ⟨hi', hk', hw'⟩
  have IH : Hid (∀ x ∈ l, EqC x) := Lib.hid ih
  have hi : Is (.slice A3 l.length k3) l w := hi
  have hk : Ks (.slice A4 ks.length k4) ks w := hk
  have hi' : Is (.slice B3 l'.length l3) l' w := hi'
  have hk' : Ks (.slice B4 ks'.length l4) ks' w := hk'
  have hwl : WfL l := hw.items
  have hwl' : WfL l' := hw'.items
  have hlm : l.length ≤ maxLen := ((Wf_iff _).1 hw).2.2.2.1
  have hkm : ks.length ≤ maxLen := ((Wf_iff _).1 hw).2.2.2.2.1
  show Calls Tryz.prog 15 #[.agg #[.int .i64 ak, .int .i64 an, .string at', .slice A3 l.length k3, .slice A4 ks.length k4], .agg #[.int .i64 bk, .int .i64 bn, .string bt, .slice B3 l'.length l3, .slice B4 ks'.length l4]] w _
  have hs := same_iff false ak an at' l ks bk bn bt l' ks'
  obtain ⟨ANS, hANS⟩ : ∃ a, sameB false ⟨ak, an, at', l, ks⟩ ⟨bk, bn, bt, l', ks'⟩ = a := ⟨_, rfl⟩
  rw [hANS] at hs ⊢
  obtain ⟨n4, hn4⟩ : ∃ n, ks.length = n := ⟨_, rfl⟩
  obtain ⟨n3, hn3⟩ : ∃ n, l.length = n := ⟨_, rfl⟩
  obtain ⟨m4, hm4⟩ : ∃ n, ks'.length = n := ⟨_, rfl⟩
  obtain ⟨m3, hm3⟩ : ∃ n, l'.length = n := ⟨_, rfl⟩
  rw [hn3] at hi hlm
  rw [hn4] at hk hkm
  rw [hm3] at hi'
  rw [hm4] at hk'
  rw [hn3, hn4, hm3, hm4]
  have hn3b : (n3 : Int) ≤ 9223372036854775807 := by unfold maxLen at hlm; omega
  have hn4b : (n4 : Int) ≤ 9223372036854775807 := by unfold maxLen at hkm; omega
  obtain ⟨B, hB⟩ : ∃ B, w.heap.size = B := ⟨_, rfl⟩
  obtain ⟨wa, hwa⟩ : ∃ wa, w.alloc (.cells #[.int .i64 ak, .int .i64 an, .string at', .slice A3 n3 k3, .slice A4 n4 k4] 26) = wa := ⟨_, rfl⟩
  obtain ⟨B', hB'⟩ : ∃ B, wa.heap.size = B := ⟨_, rfl⟩
  obtain ⟨wb, hwb⟩ : ∃ wb, wa.alloc (.cells #[.int .i64 bk, .int .i64 bn, .string bt, .slice B3 m3 l3, .slice B4 m4 l4] 26) = wb := ⟨_, rfl⟩
  have qa : Q w wa := by rw [← hwa]; exact Q.box _ _
  have qb : Q wa wb := by rw [← hwb]; exact Q.box _ _
  have bA0 : Bk B #[.int .i64 ak, .int .i64 an, .string at', .slice A3 n3 k3, .slice A4 n4 k4] 26 wa := by rw [← hwa, ← hB]; exact Bk.new _ _ _
  have bA := bA0.stays qb
  have bB : Bk B' #[.int .i64 bk, .int .i64 bn, .string bt, .slice B3 m3 l3, .slice B4 m4 l4] 26 wb := by rw [← hwb, ← hB']; exact Bk.new _ _ _
  have Q0 := Lib.hid (qa.trans qb)
  have BA := Lib.hid bA
  have BB := Lib.hid bB
  have x0 := bA.at 0 _ rfl
  have x1 := bA.at 1 _ rfl
  have x2 := bA.at 2 _ rfl
  have x3 := bA.at 3 _ rfl
  have x4 := bA.at 4 _ rfl
  have y0 := bB.at 0 _ rfl
  have y1 := bB.at 1 _ rfl
  have y2 := bB.at 2 _ rfl
  have y3 := bB.at 3 _ rfl
  have y4 := bB.at 4 _ rfl
  have HI := Lib.hid hi
  have HK := Lib.hid hk
  have HI' := Lib.hid hi'
  have HK' := Lib.hid hk'
  have HW := Lib.hid hwl
  have HW' := Lib.hid hwl'
  have HN := Lib.hid (show l.length = n3 ∧ ks.length = n4 ∧ l'.length = m3 ∧ ks'.length = m4 from ⟨hn3, hn4, hm3, hm4⟩)
  have HS := Lib.hid hs
  clear hi hk hi' hk' hw hw' hwl hwl' hlm hkm hn3 hn4 hm3 hm4 qa qb bA0 bA bB hs ih hANS
  by_cases hk : ak = bk
  rotate_left 1
  · have f1 : (ak != bk) = true := by simpa using hk
    have hA : ANS = false := by
      cases ANS with
      | false => rfl
      | true =>
        rcases HS.out.1 rfl with h | h
        · exact absurd h.1 (by decide)
        · exact (hk h.1).elim
    clear hk
    subst hA
    clear HS
    go_enter Tryz.func15, Tryz.ntmps15
    go_wp2_with fail
    go_ret
    exact ⟨rfl, Q0.out⟩
  subst hk
  by_cases hn : an = bn
  rotate_left 1
  · have f1 : (an != bn) = true := by simpa using hn
    have hA : ANS = false := by
      cases ANS with
      | false => rfl
      | true =>
        rcases HS.out.1 rfl with h | h
        · exact absurd h.1 (by decide)
        · exact (hn h.2.1).elim
    clear hn
    subst hA
    clear HS
    go_enter Tryz.func15, Tryz.ntmps15
    go_wp2_with fail
    go_ret
    exact ⟨rfl, Q0.out⟩
  subst hn
  by_cases ht : at' = bt
  rotate_left 1
  · have f1 : (at'.toList == bt.toList) = false := by rw [same_cT]; exact decide_eq_false (fun h => ht ((tot_cT.zero _ _).1 h))
    have hA : ANS = false := by
      cases ANS with
      | false => rfl
      | true =>
        rcases HS.out.1 rfl with h | h
        · exact absurd h.1 (by decide)
        · exact (ht h.2.2.1).elim
    clear ht
    subst hA
    clear HS
    go_enter Tryz.func15, Tryz.ntmps15
    go_wp2_with fail
    go_ret
    exact ⟨rfl, Q0.out⟩
  subst ht
  by_cases h3 : n3 = m3
  rotate_left 1
  · have f1 : ((n3 : Int) != (m3 : Int)) = true := by simp; omega
    have hA : ANS = false := by
      cases ANS with
      | false => rfl
      | true =>
        rcases HS.out.1 rfl with h | h
        · exact absurd h.1 (by decide)
        · exact (h3 (by have := HN.out; have h' := sameL_len _ _ _ h.2.2.2.2; omega)).elim
    clear h3
    subst hA
    clear HS
    go_enter Tryz.func15, Tryz.ntmps15
    go_wp2_with fail
    go_ret
    exact ⟨rfl, Q0.out⟩
  subst h3
  by_cases h4 : n4 = m4
  rotate_left 1
  · have f1 : ((n4 : Int) != (m4 : Int)) = true := by simp; omega
    have hA : ANS = false := by
      cases ANS with
      | false => rfl
      | true =>
        rcases HS.out.1 rfl with h | h
        · exact absurd h.1 (by decide)
        · exact (h4 (by have := HN.out; have h' := congrArg List.length h.2.2.2.1; omega)).elim
    clear h4
    subst hA
    clear HS
    go_enter Tryz.func15, Tryz.ntmps15
    go_wp2_with fail
    go_ret
    exact ⟨rfl, Q0.out⟩
  subst h4
  have HS2 : Hid ((decide (ks = ks') && sameL false l l') = ANS) := Lib.hid (by
    rw [Bool.eq_iff_iff, Bool.and_eq_true, decide_eq_true_eq, HS.out]
    constructor
    · rintro ⟨h1, h2⟩
      exact .inr ⟨rfl, rfl, rfl, h1, h2⟩
    · rintro (h | h)
      · exact absurd h.1 (by decide)
      · exact h.2.2.2)
  have H0 : Hid ((decide (ks.drop 0 = ks'.drop 0) && sameL false l l') = ANS) := Lib.hid (by rw [List.drop_zero, List.drop_zero]; exact HS2.out)
  clear HS HS2
  go_enter Tryz.func15, Tryz.ntmps15
  go_wp2_with fail
  clear x0 x1 x2 x3 x4 y0 y1 y2 y3 y4 hwa hwb
  go_loopw [5] (fun i wr => ∃ k : Nat, k ≤ n4 ∧ i = .int .i64 k ∧ Hid (Q wb wr) ∧ Hid ((decide (ks.drop k = ks'.drop k) && sameL false l l') = ANS)) (fun i _ => n4 - (intOf i).toNat)
  case atStart => exact ⟨0, Nat.zero_le _, rfl, Lib.hid (Q.refl _), H0⟩
  case round =>
    obtain ⟨k, hk, rfl, hq, hv⟩ := hrel
    have u4 := (BA.out.stays hq.out).at 4 _ rfl
    have v4 := (BB.out.stays hq.out).at 4 _ rfl
    by_cases hlt : k < n4
    · have hkz : (k : Int) < (n4 : Int) := by omega
      have h1 : k < ks.length := by have := HN.out; omega
      have h2 : k < ks'.length := by have := HN.out; omega
      obtain ⟨p, po, rfl, kl⟩ := Ks.row HK.out (by omega)
      obtain ⟨p', po', rfl, kl'⟩ := Ks.row HK'.out (by omega)
      have c1 := cell_stays (Q0.out.trans hq.out) (kl k h1)
      have c2 := cell_stays (Q0.out.trans hq.out) (kl' k h2)
      have hv2 := hv.out
      rw [List.drop_eq_getElem_cons h1, List.drop_eq_getElem_cons h2] at hv2
      obtain ⟨x, hx⟩ : ∃ x, ks[k] = x := ⟨_, rfl⟩
      obtain ⟨y, hy⟩ : ∃ x, ks'[k] = x := ⟨_, rfl⟩
      rw [hx] at c1 hv2
      rw [hy] at c2 hv2
      have hlt' := Lib.hid hlt
      by_cases hxy : x = y
      · subst hxy
        have HV : Hid ((decide (ks.drop (k + 1) = ks'.drop (k + 1)) && sameL false l l') = ANS) := Lib.hid (by rw [← hv2]; simp)
        clear hv2 hv hx hy kl kl' h1 h2 hlt hk
        go_wp2_with fail
        go_quiet (fail)
        go_wp2_with fail
        go_round
        case rel => exact ⟨k + 1, hlt'.out, by go_num, Lib.hid (hq.out.trans (Q.drewN _ _)), HV⟩
        case measure => have := hlt'.out; simp [intOf]; omega
      · have f1 : (x.toList == y.toList) = false := by rw [same_cT]; exact decide_eq_false (fun h => hxy ((tot_cT.zero _ _).1 h))
        have hA : ANS = false := by
          rw [← hv2]
          simp [hxy]
        subst hA
        clear hv2 hv hx hy kl kl' h1 h2 hlt hk hxy
        go_wp2_with fail
        go_quiet (fail)
        go_wp2_with fail
        go_ret
        exact ⟨rfl, Q0.out.trans (hq.out.trans (Q.drewN _ _))⟩
    · obtain rfl : n4 = k := by omega
      have hv2 := hv.out
      rw [List.drop_of_length_le (by have := HN.out; omega), List.drop_of_length_le (by have := HN.out; omega)] at hv2
      have H1 : Hid (sameL false (l.drop 0) (l'.drop 0) = ANS) := Lib.hid (by rw [List.drop_zero, List.drop_zero, ← hv2]; simp)
      clear hv2 hv hlt hk
      go_wp2_with fail
      clear u4 v4
      have hq1 := Lib.hid hq.out
      go_loopw [6] (fun i wr => ∃ k : Nat, k ≤ n3 ∧ i = .int .i64 k ∧ Hid (Q wb wr) ∧ Hid (sameL false (l.drop k) (l'.drop k) = ANS)) (fun i _ => n3 - (intOf i).toNat)
      case atStart => exact ⟨0, Nat.zero_le _, rfl, hq1, H1⟩
      case round =>
        obtain ⟨j, hj, rfl, hqj, hvj⟩ := hrel
        have u3 := (BA.out.stays hqj.out).at 3 _ rfl
        have v3 := (BB.out.stays hqj.out).at 3 _ rfl
        by_cases hlt : j < n3
        · have hkz : (j : Int) < (n3 : Int) := by omega
          have h1 : j < l.length := by have := HN.out; omega
          have h2 : j < l'.length := by have := HN.out; omega
          obtain ⟨p, po, rfl, hit⟩ := Is.item HI.out HW.out (by omega)
          obtain ⟨p', po', rfl, hit'⟩ := Is.item HI'.out HW'.out (by omega)
          obtain ⟨C3, c3, C4, c4, it⟩ := hit j h1
          obtain ⟨D3, d3, D4, d4, it'⟩ := hit' j h2
          have it1 := it.stays (Q0.out.trans hqj.out)
          have it2 := it'.stays (Q0.out.trans hqj.out)
          have hv2 := hvj.out
          rw [List.drop_eq_getElem_cons h1, List.drop_eq_getElem_cons h2, sameL_cons] at hv2
          have cX := Lib.hid (fun w' (q : Q wr w') => IH.out l[j] (List.getElem_mem h1) l'[j] C3 c3 C4 c4 D3 d3 D4 d4 w' (it1.va.stays q) (it2.va.stays q))
          obtain ⟨x, hx⟩ : ∃ x, l[j] = x := ⟨_, rfl⟩
          obtain ⟨y, hy⟩ : ∃ x, l'[j] = x := ⟨_, rfl⟩
          rw [hx] at it1 hv2 cX
          rw [hy] at it2 hv2 cX
          obtain ⟨xk, xn, xs, xl, xks⟩ := x
          obtain ⟨yk, yn, ys, yl, yks⟩ := y
          have cX : Hid (∀ w', Q wr w' → Calls Tryz.prog 15 #[.agg #[.int .i64 xk, .int .i64 xn, .string xs, .slice C3 xl.length c3, .slice C4 xks.length c4], .agg #[.int .i64 yk, .int .i64 yn, .string ys, .slice D3 yl.length d3, .slice D4 yks.length d4]] w' fun e w'' => e = .returned (.bool (sameB false ⟨xk, xn, xs, xl, xks⟩ ⟨yk, yn, ys, yl, yks⟩)) ∧ Q w' w'') := cX
          have IT1 := Lib.hid it1
          have IT2 := Lib.hid it2
          have sees : Hid (∀ w', Q wr w' → Hid (Q wr w') ∧ w'.cell? ⟨B, 3, none⟩ = some (.slice (some ⟨p, po, none⟩) n3 k3) ∧ w'.cell? ⟨B', 3, none⟩ = some (.slice (some ⟨p', po', none⟩) n3 l3) ∧ w'.cell? ⟨p, po + j * 5, none⟩ = some (.int .i64 xk) ∧ w'.cell? ⟨p, po + j * 5 + 1, none⟩ = some (.int .i64 xn) ∧ w'.cell? ⟨p, po + j * 5 + 2, none⟩ = some (.string xs) ∧ w'.cell? ⟨p, po + j * 5 + 3, none⟩ = some (.slice C3 xl.length c3) ∧ w'.cell? ⟨p, po + j * 5 + 4, none⟩ = some (.slice C4 xks.length c4) ∧ w'.cell? ⟨p', po' + j * 5, none⟩ = some (.int .i64 yk) ∧ w'.cell? ⟨p', po' + j * 5 + 1, none⟩ = some (.int .i64 yn) ∧ w'.cell? ⟨p', po' + j * 5 + 2, none⟩ = some (.string ys) ∧ w'.cell? ⟨p', po' + j * 5 + 3, none⟩ = some (.slice D3 yl.length d3) ∧ w'.cell? ⟨p', po' + j * 5 + 4, none⟩ = some (.slice D4 yks.length d4)) := Lib.hid (fun w' q => ⟨Lib.hid q, (BA.out.stays (hqj.out.trans q)).at 3 _ rfl, (BB.out.stays (hqj.out.trans q)).at 3 _ rfl, (IT1.out.stays q).k, (IT1.out.stays q).n, (IT1.out.stays q).s, (IT1.out.stays q).l, (IT1.out.stays q).ks, (IT2.out.stays q).k, (IT2.out.stays q).n, (IT2.out.stays q).s, (IT2.out.stays q).l, (IT2.out.stays q).ks⟩)
          have hlt' := Lib.hid hlt
          have QD : Hid (Q wr wr.drew) := Lib.hid (Q.drewN wr 1)
          obtain ⟨R, hR⟩ : ∃ a, sameB false ⟨xk, xn, xs, xl, xks⟩ ⟨yk, yn, ys, yl, yks⟩ = a := ⟨_, rfl⟩
          rw [hR] at hv2 cX
          cases R with
          | true =>
            have HV : Hid (sameL false (l.drop (j + 1)) (l'.drop (j + 1)) = ANS) := Lib.hid (by rw [← hv2]; simp)
            clear hv2 hvj it1 it2 it it' hit hit' hx hy h1 h2 hlt hj hR IT1 IT2
            go_wp2_with fail
            refine Go.wp_region_held_drew (S := (fun w' => Hid (Q wr w') ∧ w'.cell? ⟨B, 3, none⟩ = some (.slice (some ⟨p, po, none⟩) n3 k3) ∧ w'.cell? ⟨B', 3, none⟩ = some (.slice (some ⟨p', po', none⟩) n3 l3) ∧ w'.cell? ⟨p, po + j * 5, none⟩ = some (.int .i64 xk) ∧ w'.cell? ⟨p, po + j * 5 + 1, none⟩ = some (.int .i64 xn) ∧ w'.cell? ⟨p, po + j * 5 + 2, none⟩ = some (.string xs) ∧ w'.cell? ⟨p, po + j * 5 + 3, none⟩ = some (.slice C3 xl.length c3) ∧ w'.cell? ⟨p, po + j * 5 + 4, none⟩ = some (.slice C4 xks.length c4) ∧ w'.cell? ⟨p', po' + j * 5, none⟩ = some (.int .i64 yk) ∧ w'.cell? ⟨p', po' + j * 5 + 1, none⟩ = some (.int .i64 yn) ∧ w'.cell? ⟨p', po' + j * 5 + 2, none⟩ = some (.string ys) ∧ w'.cell? ⟨p', po' + j * 5 + 3, none⟩ = some (.slice D3 yl.length d3) ∧ w'.cell? ⟨p', po' + j * 5 + 4, none⟩ = some (.slice D4 yks.length d4))) (by kernel_rfl) (sees.out _ QD.out) (fun hHeld => ?_)
            refine Go.wpAnyH_take (i := 0) (oi := _) (v := ?_) rfl (by kernel_rfl) (by kernel_rfl) (by kernel_rfl) (fun _ _ _ h => h) (Or.inl ⟨by rfl, ?_⟩) (by assumption) ?_
            rotate_left 1
            · intro wx hSw
              go_simp <;> with_reducible rfl
            simp only [Act.put, List.getElem_toArray, List.getElem_cons_zero, List.setIfInBounds_toArray, List.set_cons_zero, List.set_cons_succ]
            refine Go.wpAnyH_take (i := 1) (oi := _) (v := ?_) rfl (by kernel_rfl) (by kernel_rfl) (by kernel_rfl) (fun _ _ _ h => h) (Or.inl ⟨by rfl, ?_⟩) (by assumption) ?_
            rotate_left 1
            · intro wx hSw
              go_simp <;> with_reducible rfl
            simp only [Act.put, List.getElem_toArray, List.getElem_cons_zero, List.getElem_cons_succ, List.setIfInBounds_toArray, List.set_cons_zero, List.set_cons_succ]
            refine Go.wpAnyH_take (i := 2) (oi := _) (v := ?_) rfl (by kernel_rfl) (by kernel_rfl) (by kernel_rfl) (fun _ _ _ h => h) (Or.inl ⟨by rfl, ?_⟩) (by assumption) ?_
            rotate_left 1
            · intro wx hSw
              go_simp <;> with_reducible rfl
            simp only [Act.put, List.getElem_toArray, List.getElem_cons_zero, List.getElem_cons_succ, List.setIfInBounds_toArray, List.set_cons_zero, List.set_cons_succ]
            refine Go.wpAnyH_take (i := 3) (oi := _) (v := ?_) rfl (by kernel_rfl) (by kernel_rfl) (by kernel_rfl) (fun _ _ _ h => h) (Or.inl ⟨by rfl, ?_⟩) (by assumption) ?_
            rotate_left 1
            · intro wx hSw
              go_simp <;> with_reducible rfl
            simp only [Act.put, List.getElem_toArray, List.getElem_cons_zero, List.getElem_cons_succ, List.setIfInBounds_toArray, List.set_cons_zero, List.set_cons_succ]
            refine Go.wpAnyH_take (i := 4) (oi := _) (v := ?_) rfl (by kernel_rfl) (by kernel_rfl) (by kernel_rfl) (fun _ _ _ h => h) (Or.inl ⟨by rfl, ?_⟩) (by assumption) ?_
            rotate_left 1
            · intro wx hSw
              go_simp <;> with_reducible rfl
            simp only [Act.put, List.getElem_toArray, List.getElem_cons_zero, List.getElem_cons_succ, List.setIfInBounds_toArray, List.set_cons_zero, List.set_cons_succ]
            refine Go.wpAnyH_take (i := 5) (oi := _) (v := ?_) rfl (by kernel_rfl) (by kernel_rfl) (by kernel_rfl) (fun _ _ _ h => h) (Or.inl ⟨by rfl, ?_⟩) (by assumption) ?_
            rotate_left 1
            · intro wx hSw
              go_simp <;> with_reducible rfl
            simp only [Act.put, List.getElem_toArray, List.getElem_cons_zero, List.getElem_cons_succ, List.setIfInBounds_toArray, List.set_cons_zero, List.set_cons_succ]
            refine Go.wpAnyH_take (i := 6) (oi := _) (v := ?_) rfl (by kernel_rfl) (by kernel_rfl) (by kernel_rfl) (fun _ _ _ h => h) (Or.inl ⟨by rfl, ?_⟩) (by assumption) ?_
            rotate_left 1
            · intro wx hSw
              go_simp <;> with_reducible rfl
            simp only [Act.put, List.getElem_toArray, List.getElem_cons_zero, List.getElem_cons_succ, List.setIfInBounds_toArray, List.set_cons_zero, List.set_cons_succ]
            refine Go.wpAnyH_take (i := 7) (oi := _) (v := ?_) rfl (by kernel_rfl) (by kernel_rfl) (by kernel_rfl) (fun _ _ _ h => h) (Or.inl ⟨by rfl, ?_⟩) (by assumption) ?_
            rotate_left 1
            · intro wx hSw
              go_simp <;> with_reducible rfl
            simp only [Act.put, List.getElem_toArray, List.getElem_cons_zero, List.getElem_cons_succ, List.setIfInBounds_toArray, List.set_cons_zero, List.set_cons_succ]
            refine Go.wpAnyH_take (i := 8) (oi := _) (v := ?_) rfl (by kernel_rfl) (by kernel_rfl) (by kernel_rfl) (fun _ _ _ h => h) (Or.inl ⟨by rfl, ?_⟩) (by assumption) ?_
            rotate_left 1
            · intro wx hSw
              go_simp <;> with_reducible rfl
            simp only [Act.put, List.getElem_toArray, List.getElem_cons_zero, List.getElem_cons_succ, List.setIfInBounds_toArray, List.set_cons_zero, List.set_cons_succ]
            refine Go.wpAnyH_take (i := 9) (oi := _) (v := ?_) rfl (by kernel_rfl) (by kernel_rfl) (by kernel_rfl) (fun _ _ _ h => h) (Or.inl ⟨by rfl, ?_⟩) (by assumption) ?_
            rotate_left 1
            · intro wx hSw
              go_simp <;> with_reducible rfl
            simp only [Act.put, List.getElem_toArray, List.getElem_cons_zero, List.getElem_cons_succ, List.setIfInBounds_toArray, List.set_cons_zero, List.set_cons_succ]
            refine Go.wpAnyH_ready (rs := [10]) (by kernel_rfl) (by simp) ?_
            refine Go.AllReadyH.cons rfl (fun K hK => ?_) Go.AllReadyH.nil
            rw [if_pos (by rfl)]
            go_simp
            refine (cX.out _ hHeld.1.out).mono ?_
            rintro e v10 ⟨rfl, q10⟩
            refine hK.out _ _ (sees.out _ (hHeld.1.out.trans q10)) (fun hHeld => ?_)
            clear hK K
            refine Go.wpAnyH_take (i := 11) (oi := _) (v := ?_) rfl (by kernel_rfl) (by kernel_rfl) (by kernel_rfl) (fun _ _ _ h => h) (Or.inl ⟨by rfl, ?_⟩) (by assumption) ?_
            rotate_left 1
            · intro wx hSw
              go_simp <;> with_reducible rfl
            simp only [Act.put, List.getElem_toArray, List.getElem_cons_zero, List.getElem_cons_succ, List.setIfInBounds_toArray, List.set_cons_zero, List.set_cons_succ]
            refine Go.wpAnyH_done (by kernel_rfl) ?_ _
            have Q10 := Lib.hid (hqj.out.trans hHeld.1.out)
            clear hHeld u3 v3
            go_wp2_with fail
            go_round
            case rel => exact ⟨j + 1, hlt'.out, by go_num, Q10, HV⟩
            case measure => have := hlt'.out; simp [intOf]; omega
          | false =>
            have hA : ANS = false := by rw [← hv2]; simp
            subst hA
            clear hv2 hvj it1 it2 it it' hit hit' hx hy h1 h2 hlt hj hR IT1 IT2
            go_wp2_with fail
            refine Go.wp_region_held_drew (S := (fun w' => Hid (Q wr w') ∧ w'.cell? ⟨B, 3, none⟩ = some (.slice (some ⟨p, po, none⟩) n3 k3) ∧ w'.cell? ⟨B', 3, none⟩ = some (.slice (some ⟨p', po', none⟩) n3 l3) ∧ w'.cell? ⟨p, po + j * 5, none⟩ = some (.int .i64 xk) ∧ w'.cell? ⟨p, po + j * 5 + 1, none⟩ = some (.int .i64 xn) ∧ w'.cell? ⟨p, po + j * 5 + 2, none⟩ = some (.string xs) ∧ w'.cell? ⟨p, po + j * 5 + 3, none⟩ = some (.slice C3 xl.length c3) ∧ w'.cell? ⟨p, po + j * 5 + 4, none⟩ = some (.slice C4 xks.length c4) ∧ w'.cell? ⟨p', po' + j * 5, none⟩ = some (.int .i64 yk) ∧ w'.cell? ⟨p', po' + j * 5 + 1, none⟩ = some (.int .i64 yn) ∧ w'.cell? ⟨p', po' + j * 5 + 2, none⟩ = some (.string ys) ∧ w'.cell? ⟨p', po' + j * 5 + 3, none⟩ = some (.slice D3 yl.length d3) ∧ w'.cell? ⟨p', po' + j * 5 + 4, none⟩ = some (.slice D4 yks.length d4))) (by kernel_rfl) (sees.out _ QD.out) (fun hHeld => ?_)
            refine Go.wpAnyH_take (i := 0) (oi := _) (v := ?_) rfl (by kernel_rfl) (by kernel_rfl) (by kernel_rfl) (fun _ _ _ h => h) (Or.inl ⟨by rfl, ?_⟩) (by assumption) ?_
            rotate_left 1
            · intro wx hSw
              go_simp <;> with_reducible rfl
            simp only [Act.put, List.getElem_toArray, List.getElem_cons_zero, List.setIfInBounds_toArray, List.set_cons_zero, List.set_cons_succ]
            refine Go.wpAnyH_take (i := 1) (oi := _) (v := ?_) rfl (by kernel_rfl) (by kernel_rfl) (by kernel_rfl) (fun _ _ _ h => h) (Or.inl ⟨by rfl, ?_⟩) (by assumption) ?_
            rotate_left 1
            · intro wx hSw
              go_simp <;> with_reducible rfl
            simp only [Act.put, List.getElem_toArray, List.getElem_cons_zero, List.getElem_cons_succ, List.setIfInBounds_toArray, List.set_cons_zero, List.set_cons_succ]
            refine Go.wpAnyH_take (i := 2) (oi := _) (v := ?_) rfl (by kernel_rfl) (by kernel_rfl) (by kernel_rfl) (fun _ _ _ h => h) (Or.inl ⟨by rfl, ?_⟩) (by assumption) ?_
            rotate_left 1
            · intro wx hSw
              go_simp <;> with_reducible rfl
            simp only [Act.put, List.getElem_toArray, List.getElem_cons_zero, List.getElem_cons_succ, List.setIfInBounds_toArray, List.set_cons_zero, List.set_cons_succ]
            refine Go.wpAnyH_take (i := 3) (oi := _) (v := ?_) rfl (by kernel_rfl) (by kernel_rfl) (by kernel_rfl) (fun _ _ _ h => h) (Or.inl ⟨by rfl, ?_⟩) (by assumption) ?_
            rotate_left 1
            · intro wx hSw
              go_simp <;> with_reducible rfl
            simp only [Act.put, List.getElem_toArray, List.getElem_cons_zero, List.getElem_cons_succ, List.setIfInBounds_toArray, List.set_cons_zero, List.set_cons_succ]
            refine Go.wpAnyH_take (i := 4) (oi := _) (v := ?_) rfl (by kernel_rfl) (by kernel_rfl) (by kernel_rfl) (fun _ _ _ h => h) (Or.inl ⟨by rfl, ?_⟩) (by assumption) ?_
            rotate_left 1
            · intro wx hSw
              go_simp <;> with_reducible rfl
            simp only [Act.put, List.getElem_toArray, List.getElem_cons_zero, List.getElem_cons_succ, List.setIfInBounds_toArray, List.set_cons_zero, List.set_cons_succ]
            refine Go.wpAnyH_take (i := 5) (oi := _) (v := ?_) rfl (by kernel_rfl) (by kernel_rfl) (by kernel_rfl) (fun _ _ _ h => h) (Or.inl ⟨by rfl, ?_⟩) (by assumption) ?_
            rotate_left 1
            · intro wx hSw
              go_simp <;> with_reducible rfl
            simp only [Act.put, List.getElem_toArray, List.getElem_cons_zero, List.getElem_cons_succ, List.setIfInBounds_toArray, List.set_cons_zero, List.set_cons_succ]
            refine Go.wpAnyH_take (i := 6) (oi := _) (v := ?_) rfl (by kernel_rfl) (by kernel_rfl) (by kernel_rfl) (fun _ _ _ h => h) (Or.inl ⟨by rfl, ?_⟩) (by assumption) ?_
            rotate_left 1
            · intro wx hSw
              go_simp <;> with_reducible rfl
            simp only [Act.put, List.getElem_toArray, List.getElem_cons_zero, List.getElem_cons_succ, List.setIfInBounds_toArray, List.set_cons_zero, List.set_cons_succ]
            refine Go.wpAnyH_take (i := 7) (oi := _) (v := ?_) rfl (by kernel_rfl) (by kernel_rfl) (by kernel_rfl) (fun _ _ _ h => h) (Or.inl ⟨by rfl, ?_⟩) (by assumption) ?_
            rotate_left 1
            · intro wx hSw
              go_simp <;> with_reducible rfl
            simp only [Act.put, List.getElem_toArray, List.getElem_cons_zero, List.getElem_cons_succ, List.setIfInBounds_toArray, List.set_cons_zero, List.set_cons_succ]
            refine Go.wpAnyH_take (i := 8) (oi := _) (v := ?_) rfl (by kernel_rfl) (by kernel_rfl) (by kernel_rfl) (fun _ _ _ h => h) (Or.inl ⟨by rfl, ?_⟩) (by assumption) ?_
            rotate_left 1
            · intro wx hSw
              go_simp <;> with_reducible rfl
            simp only [Act.put, List.getElem_toArray, List.getElem_cons_zero, List.getElem_cons_succ, List.setIfInBounds_toArray, List.set_cons_zero, List.set_cons_succ]
            refine Go.wpAnyH_take (i := 9) (oi := _) (v := ?_) rfl (by kernel_rfl) (by kernel_rfl) (by kernel_rfl) (fun _ _ _ h => h) (Or.inl ⟨by rfl, ?_⟩) (by assumption) ?_
            rotate_left 1
            · intro wx hSw
              go_simp <;> with_reducible rfl
            simp only [Act.put, List.getElem_toArray, List.getElem_cons_zero, List.getElem_cons_succ, List.setIfInBounds_toArray, List.set_cons_zero, List.set_cons_succ]
            refine Go.wpAnyH_ready (rs := [10]) (by kernel_rfl) (by simp) ?_
            refine Go.AllReadyH.cons rfl (fun K hK => ?_) Go.AllReadyH.nil
            rw [if_pos (by rfl)]
            go_simp
            refine (cX.out _ hHeld.1.out).mono ?_
            rintro e v10 ⟨rfl, q10⟩
            refine hK.out _ _ (sees.out _ (hHeld.1.out.trans q10)) (fun hHeld => ?_)
            clear hK K
            refine Go.wpAnyH_take (i := 11) (oi := _) (v := ?_) rfl (by kernel_rfl) (by kernel_rfl) (by kernel_rfl) (fun _ _ _ h => h) (Or.inl ⟨by rfl, ?_⟩) (by assumption) ?_
            rotate_left 1
            · intro wx hSw
              go_simp <;> with_reducible rfl
            simp only [Act.put, List.getElem_toArray, List.getElem_cons_zero, List.getElem_cons_succ, List.setIfInBounds_toArray, List.set_cons_zero, List.set_cons_succ]
            refine Go.wpAnyH_done (by kernel_rfl) ?_ _
            have Q10 := Lib.hid (hqj.out.trans hHeld.1.out)
            clear hHeld u3 v3
            go_wp2_with fail
            go_ret
            exact ⟨rfl, Q0.out.trans Q10.out⟩
        · obtain rfl : n3 = j := by omega
          have hA : ANS = true := by
            have hv2 := hvj.out
            rw [List.drop_of_length_le (by have := HN.out; omega), List.drop_of_length_le (by have := HN.out; omega), sameL_nil] at hv2
            exact hv2.symm
          subst hA
          clear hvj hlt hj
          go_wp2_with fail
          go_ret
          exact ⟨rfl, Q0.out.trans hqj.out⟩
/-- What the reference's Refines returns. -/
def RfC (a : V) : Prop := ∀ (b : V) (A3 : Option Addr) (k3 : Nat) (A4 : Option Addr) (k4 : Nat) (B3 : Option Addr) (l3 : Nat) (B4 : Option Addr) (l4 : Nat) (w : World), Va a A3 k3 A4 k4 w → Va b B3 l3 B4 l4 w →
  Calls Tryz.prog 40 #[vv a A3 k3 A4 k4, vv b B3 l3 B4 l4] w fun e w' => e = .returned (.bool (sameB true a b)) ∧ Q w w'
set_option maxRecDepth 100000 in
set_option maxHeartbeats 16000000 in
theorem rrefines_any : ∀ v : V, RfC v := by
  refine V.ind (fun a ih => ?_)
  obtain ⟨ak, an, at', l, ks⟩ := a
  rintro ⟨bk, bn, bt, l', ks'⟩ A3 k3 A4 k4 B3 l3 B4 l4 w ⟨hi, hk, hw⟩ ⟨hi', hk', hw'⟩
  have IH : Hid (∀ x ∈ l, RfC x) := Lib.hid ih
  have hi : Is (.slice A3 l.length k3) l w := hi
  have hk : Ks (.slice A4 ks.length k4) ks w := hk
  have hi' : Is (.slice B3 l'.length l3) l' w := hi'
  have hk' : Ks (.slice B4 ks'.length l4) ks' w := hk'
  have hwl : WfL l := hw.items
  have hwl' : WfL l' := hw'.items
  have hlm : l.length ≤ maxLen := ((Wf_iff _).1 hw).2.2.2.1
  have hkm : ks.length ≤ maxLen := ((Wf_iff _).1 hw).2.2.2.2.1
  show Calls Tryz.prog 40 #[.agg #[.int .i64 ak, .int .i64 an, .string at', .slice A3 l.length k3, .slice A4 ks.length k4], .agg #[.int .i64 bk, .int .i64 bn, .string bt, .slice B3 l'.length l3, .slice B4 ks'.length l4]] w _
  have hs := same_iff true ak an at' l ks bk bn bt l' ks'
  obtain ⟨ANS, hANS⟩ : ∃ a, sameB true ⟨ak, an, at', l, ks⟩ ⟨bk, bn, bt, l', ks'⟩ = a := ⟨_, rfl⟩
  rw [hANS] at hs ⊢
  obtain ⟨n4, hn4⟩ : ∃ n, ks.length = n := ⟨_, rfl⟩
  obtain ⟨n3, hn3⟩ : ∃ n, l.length = n := ⟨_, rfl⟩
  obtain ⟨m4, hm4⟩ : ∃ n, ks'.length = n := ⟨_, rfl⟩
  obtain ⟨m3, hm3⟩ : ∃ n, l'.length = n := ⟨_, rfl⟩
  rw [hn3] at hi hlm
  rw [hn4] at hk hkm
  rw [hm3] at hi'
  rw [hm4] at hk'
  rw [hn3, hn4, hm3, hm4]
  have hn3b : (n3 : Int) ≤ 9223372036854775807 := by unfold maxLen at hlm; omega
  have hn4b : (n4 : Int) ≤ 9223372036854775807 := by unfold maxLen at hkm; omega
  obtain ⟨B, hB⟩ : ∃ B, w.heap.size = B := ⟨_, rfl⟩
  obtain ⟨wa, hwa⟩ : ∃ wa, w.alloc (.cells #[.int .i64 ak, .int .i64 an, .string at', .slice A3 n3 k3, .slice A4 n4 k4] 26) = wa := ⟨_, rfl⟩
  obtain ⟨B', hB'⟩ : ∃ B, wa.heap.size = B := ⟨_, rfl⟩
  obtain ⟨wb, hwb⟩ : ∃ wb, wa.alloc (.cells #[.int .i64 bk, .int .i64 bn, .string bt, .slice B3 m3 l3, .slice B4 m4 l4] 26) = wb := ⟨_, rfl⟩
  have qa : Q w wa := by rw [← hwa]; exact Q.box _ _
  have qb : Q wa wb := by rw [← hwb]; exact Q.box _ _
  have bA0 : Bk B #[.int .i64 ak, .int .i64 an, .string at', .slice A3 n3 k3, .slice A4 n4 k4] 26 wa := by rw [← hwa, ← hB]; exact Bk.new _ _ _
  have bA := bA0.stays qb
  have bB : Bk B' #[.int .i64 bk, .int .i64 bn, .string bt, .slice B3 m3 l3, .slice B4 m4 l4] 26 wb := by rw [← hwb, ← hB']; exact Bk.new _ _ _
  have Q0 := Lib.hid (qa.trans qb)
  have BA := Lib.hid bA
  have BB := Lib.hid bB
  have x0 := bA.at 0 _ rfl
  have x1 := bA.at 1 _ rfl
  have x2 := bA.at 2 _ rfl
  have x3 := bA.at 3 _ rfl
  have x4 := bA.at 4 _ rfl
  have y0 := bB.at 0 _ rfl
  have y1 := bB.at 1 _ rfl
  have y2 := bB.at 2 _ rfl
  have y3 := bB.at 3 _ rfl
  have y4 := bB.at 4 _ rfl
  have HI := Lib.hid hi
  have HK := Lib.hid hk
  have HI' := Lib.hid hi'
  have HK' := Lib.hid hk'
  have HW := Lib.hid hwl
  have HW' := Lib.hid hwl'
  have HN := Lib.hid (show l.length = n3 ∧ ks.length = n4 ∧ l'.length = m3 ∧ ks'.length = m4 from ⟨hn3, hn4, hm3, hm4⟩)
  have HS := Lib.hid hs
  clear hi hk hi' hk' hw hw' hwl hwl' hlm hkm hn3 hn4 hm3 hm4 qa qb bA0 bA bB hs ih hANS
  by_cases h6 : bk = 6
  · have h6' : (bk == 6) = true := by rw [h6]; rfl
    have hA : ANS = true := HS.out.2 (.inl ⟨rfl, h6⟩)
    clear h6
    subst hA
    clear HS
    go_enter Tryz.func40, Tryz.ntmps40
    go_wp2_with fail
    go_ret
    exact ⟨rfl, Q0.out⟩
  have h6' : (bk == 6) = false := beq_eq_false_iff_ne.2 h6
  by_cases hk : ak = bk
  rotate_left 1
  · have f1 : (ak != bk) = true := by simpa using hk
    have hA : ANS = false := by
      cases ANS with
      | false => rfl
      | true =>
        rcases HS.out.1 rfl with h | h
        · exact (h6 h.2).elim
        · exact (hk h.1).elim
    clear hk h6
    subst hA
    clear HS
    go_enter Tryz.func40, Tryz.ntmps40
    go_wp2_with fail
    go_ret
    exact ⟨rfl, Q0.out⟩
  subst hk
  by_cases hn : an = bn
  rotate_left 1
  · have f1 : (an != bn) = true := by simpa using hn
    have hA : ANS = false := by
      cases ANS with
      | false => rfl
      | true =>
        rcases HS.out.1 rfl with h | h
        · exact (h6 h.2).elim
        · exact (hn h.2.1).elim
    clear hn h6
    subst hA
    clear HS
    go_enter Tryz.func40, Tryz.ntmps40
    go_wp2_with fail
    go_ret
    exact ⟨rfl, Q0.out⟩
  subst hn
  by_cases ht : at' = bt
  rotate_left 1
  · have f1 : (at'.toList == bt.toList) = false := by rw [same_cT]; exact decide_eq_false (fun h => ht ((tot_cT.zero _ _).1 h))
    have hA : ANS = false := by
      cases ANS with
      | false => rfl
      | true =>
        rcases HS.out.1 rfl with h | h
        · exact (h6 h.2).elim
        · exact (ht h.2.2.1).elim
    clear ht h6
    subst hA
    clear HS
    go_enter Tryz.func40, Tryz.ntmps40
    go_wp2_with fail
    go_ret
    exact ⟨rfl, Q0.out⟩
  subst ht
  by_cases h3 : n3 = m3
  rotate_left 1
  · have f1 : ((n3 : Int) != (m3 : Int)) = true := by simp; omega
    have hA : ANS = false := by
      cases ANS with
      | false => rfl
      | true =>
        rcases HS.out.1 rfl with h | h
        · exact (h6 h.2).elim
        · exact (h3 (by have := HN.out; have h' := sameL_len _ _ _ h.2.2.2.2; omega)).elim
    clear h3 h6
    subst hA
    clear HS
    go_enter Tryz.func40, Tryz.ntmps40
    go_wp2_with fail
    go_ret
    exact ⟨rfl, Q0.out⟩
  subst h3
  by_cases h4 : n4 = m4
  rotate_left 1
  · have f1 : ((n4 : Int) != (m4 : Int)) = true := by simp; omega
    have hA : ANS = false := by
      cases ANS with
      | false => rfl
      | true =>
        rcases HS.out.1 rfl with h | h
        · exact (h6 h.2).elim
        · exact (h4 (by have := HN.out; have h' := congrArg List.length h.2.2.2.1; omega)).elim
    clear h4 h6
    subst hA
    clear HS
    go_enter Tryz.func40, Tryz.ntmps40
    go_wp2_with fail
    go_ret
    exact ⟨rfl, Q0.out⟩
  subst h4
  have HS2 : Hid ((decide (ks = ks') && sameL true l l') = ANS) := Lib.hid (by
    rw [Bool.eq_iff_iff, Bool.and_eq_true, decide_eq_true_eq, HS.out]
    constructor
    · rintro ⟨h1, h2⟩
      exact .inr ⟨rfl, rfl, rfl, h1, h2⟩
    · rintro (h | h)
      · exact absurd h.2 h6
      · exact h.2.2.2)
  have H0 : Hid ((decide (ks.drop 0 = ks'.drop 0) && sameL true l l') = ANS) := Lib.hid (by rw [List.drop_zero, List.drop_zero]; exact HS2.out)
  clear HS HS2 h6
  go_enter Tryz.func40, Tryz.ntmps40
  go_wp2_with fail
  clear x0 x1 x2 x3 x4 y0 y1 y2 y3 y4 hwa hwb
  go_loopw [5] (fun i wr => ∃ k : Nat, k ≤ n4 ∧ i = .int .i64 k ∧ Hid (Q wb wr) ∧ Hid ((decide (ks.drop k = ks'.drop k) && sameL true l l') = ANS)) (fun i _ => n4 - (intOf i).toNat)
  case atStart => exact ⟨0, Nat.zero_le _, rfl, Lib.hid (Q.refl _), H0⟩
  case round =>
    obtain ⟨k, hk, rfl, hq, hv⟩ := hrel
    have u4 := (BA.out.stays hq.out).at 4 _ rfl
    have v4 := (BB.out.stays hq.out).at 4 _ rfl
    by_cases hlt : k < n4
    · have hkz : (k : Int) < (n4 : Int) := by omega
      have h1 : k < ks.length := by have := HN.out; omega
      have h2 : k < ks'.length := by have := HN.out; omega
      obtain ⟨p, po, rfl, kl⟩ := Ks.row HK.out (by omega)
      obtain ⟨p', po', rfl, kl'⟩ := Ks.row HK'.out (by omega)
      have c1 := cell_stays (Q0.out.trans hq.out) (kl k h1)
      have c2 := cell_stays (Q0.out.trans hq.out) (kl' k h2)
      have hv2 := hv.out
      rw [List.drop_eq_getElem_cons h1, List.drop_eq_getElem_cons h2] at hv2
      obtain ⟨x, hx⟩ : ∃ x, ks[k] = x := ⟨_, rfl⟩
      obtain ⟨y, hy⟩ : ∃ x, ks'[k] = x := ⟨_, rfl⟩
      rw [hx] at c1 hv2
      rw [hy] at c2 hv2
      have hlt' := Lib.hid hlt
      by_cases hxy : x = y
      · subst hxy
        have HV : Hid ((decide (ks.drop (k + 1) = ks'.drop (k + 1)) && sameL true l l') = ANS) := Lib.hid (by rw [← hv2]; simp)
        clear hv2 hv hx hy kl kl' h1 h2 hlt hk
        go_wp2_with fail
        go_quiet (fail)
        go_wp2_with fail
        go_round
        case rel => exact ⟨k + 1, hlt'.out, by go_num, Lib.hid (hq.out.trans (Q.drewN _ _)), HV⟩
        case measure => have := hlt'.out; simp [intOf]; omega
      · have f1 : (x.toList == y.toList) = false := by rw [same_cT]; exact decide_eq_false (fun h => hxy ((tot_cT.zero _ _).1 h))
        have hA : ANS = false := by
          rw [← hv2]
          simp [hxy]
        subst hA
        clear hv2 hv hx hy kl kl' h1 h2 hlt hk hxy
        go_wp2_with fail
        go_quiet (fail)
        go_wp2_with fail
        go_ret
        exact ⟨rfl, Q0.out.trans (hq.out.trans (Q.drewN _ _))⟩
    · obtain rfl : n4 = k := by omega
      have hv2 := hv.out
      rw [List.drop_of_length_le (by have := HN.out; omega), List.drop_of_length_le (by have := HN.out; omega)] at hv2
      have H1 : Hid (sameL true (l.drop 0) (l'.drop 0) = ANS) := Lib.hid (by rw [List.drop_zero, List.drop_zero, ← hv2]; simp)
      clear hv2 hv hlt hk
      go_wp2_with fail
      clear u4 v4
      have hq1 := Lib.hid hq.out
      go_loopw [6] (fun i wr => ∃ k : Nat, k ≤ n3 ∧ i = .int .i64 k ∧ Hid (Q wb wr) ∧ Hid (sameL true (l.drop k) (l'.drop k) = ANS)) (fun i _ => n3 - (intOf i).toNat)
      case atStart => exact ⟨0, Nat.zero_le _, rfl, hq1, H1⟩
      case round =>
        obtain ⟨j, hj, rfl, hqj, hvj⟩ := hrel
        have u3 := (BA.out.stays hqj.out).at 3 _ rfl
        have v3 := (BB.out.stays hqj.out).at 3 _ rfl
        by_cases hlt : j < n3
        · have hkz : (j : Int) < (n3 : Int) := by omega
          have h1 : j < l.length := by have := HN.out; omega
          have h2 : j < l'.length := by have := HN.out; omega
          obtain ⟨p, po, rfl, hit⟩ := Is.item HI.out HW.out (by omega)
          obtain ⟨p', po', rfl, hit'⟩ := Is.item HI'.out HW'.out (by omega)
          obtain ⟨C3, c3, C4, c4, it⟩ := hit j h1
          obtain ⟨D3, d3, D4, d4, it'⟩ := hit' j h2
          have it1 := it.stays (Q0.out.trans hqj.out)
          have it2 := it'.stays (Q0.out.trans hqj.out)
          have hv2 := hvj.out
          rw [List.drop_eq_getElem_cons h1, List.drop_eq_getElem_cons h2, sameL_cons] at hv2
          have cX := Lib.hid (fun w' (q : Q wr w') => IH.out l[j] (List.getElem_mem h1) l'[j] C3 c3 C4 c4 D3 d3 D4 d4 w' (it1.va.stays q) (it2.va.stays q))
          obtain ⟨x, hx⟩ : ∃ x, l[j] = x := ⟨_, rfl⟩
          obtain ⟨y, hy⟩ : ∃ x, l'[j] = x := ⟨_, rfl⟩
          rw [hx] at it1 hv2 cX
          rw [hy] at it2 hv2 cX
          obtain ⟨xk, xn, xs, xl, xks⟩ := x
          obtain ⟨yk, yn, ys, yl, yks⟩ := y
          have cX : Hid (∀ w', Q wr w' → Calls Tryz.prog 40 #[.agg #[.int .i64 xk, .int .i64 xn, .string xs, .slice C3 xl.length c3, .slice C4 xks.length c4], .agg #[.int .i64 yk, .int .i64 yn, .string ys, .slice D3 yl.length d3, .slice D4 yks.length d4]] w' fun e w'' => e = .returned (.bool (sameB true ⟨xk, xn, xs, xl, xks⟩ ⟨yk, yn, ys, yl, yks⟩)) ∧ Q w' w'') := cX
          have IT1 := Lib.hid it1
          have IT2 := Lib.hid it2
          have sees : Hid (∀ w', Q wr w' → Hid (Q wr w') ∧ w'.cell? ⟨B, 3, none⟩ = some (.slice (some ⟨p, po, none⟩) n3 k3) ∧ w'.cell? ⟨B', 3, none⟩ = some (.slice (some ⟨p', po', none⟩) n3 l3) ∧ w'.cell? ⟨p, po + j * 5, none⟩ = some (.int .i64 xk) ∧ w'.cell? ⟨p, po + j * 5 + 1, none⟩ = some (.int .i64 xn) ∧ w'.cell? ⟨p, po + j * 5 + 2, none⟩ = some (.string xs) ∧ w'.cell? ⟨p, po + j * 5 + 3, none⟩ = some (.slice C3 xl.length c3) ∧ w'.cell? ⟨p, po + j * 5 + 4, none⟩ = some (.slice C4 xks.length c4) ∧ w'.cell? ⟨p', po' + j * 5, none⟩ = some (.int .i64 yk) ∧ w'.cell? ⟨p', po' + j * 5 + 1, none⟩ = some (.int .i64 yn) ∧ w'.cell? ⟨p', po' + j * 5 + 2, none⟩ = some (.string ys) ∧ w'.cell? ⟨p', po' + j * 5 + 3, none⟩ = some (.slice D3 yl.length d3) ∧ w'.cell? ⟨p', po' + j * 5 + 4, none⟩ = some (.slice D4 yks.length d4)) := Lib.hid (fun w' q => ⟨Lib.hid q, (BA.out.stays (hqj.out.trans q)).at 3 _ rfl, (BB.out.stays (hqj.out.trans q)).at 3 _ rfl, (IT1.out.stays q).k, (IT1.out.stays q).n, (IT1.out.stays q).s, (IT1.out.stays q).l, (IT1.out.stays q).ks, (IT2.out.stays q).k, (IT2.out.stays q).n, (IT2.out.stays q).s, (IT2.out.stays q).l, (IT2.out.stays q).ks⟩)
          have hlt' := Lib.hid hlt
          have QD : Hid (Q wr wr.drew) := Lib.hid (Q.drewN wr 1)
          obtain ⟨R, hR⟩ : ∃ a, sameB true ⟨xk, xn, xs, xl, xks⟩ ⟨yk, yn, ys, yl, yks⟩ = a := ⟨_, rfl⟩
          rw [hR] at hv2 cX
          cases R with
          | true =>
            have HV : Hid (sameL true (l.drop (j + 1)) (l'.drop (j + 1)) = ANS) := Lib.hid (by rw [← hv2]; simp)
            clear hv2 hvj it1 it2 it it' hit hit' hx hy h1 h2 hlt hj hR IT1 IT2
            go_wp2_with fail
            refine Go.wp_region_held_drew (S := (fun w' => Hid (Q wr w') ∧ w'.cell? ⟨B, 3, none⟩ = some (.slice (some ⟨p, po, none⟩) n3 k3) ∧ w'.cell? ⟨B', 3, none⟩ = some (.slice (some ⟨p', po', none⟩) n3 l3) ∧ w'.cell? ⟨p, po + j * 5, none⟩ = some (.int .i64 xk) ∧ w'.cell? ⟨p, po + j * 5 + 1, none⟩ = some (.int .i64 xn) ∧ w'.cell? ⟨p, po + j * 5 + 2, none⟩ = some (.string xs) ∧ w'.cell? ⟨p, po + j * 5 + 3, none⟩ = some (.slice C3 xl.length c3) ∧ w'.cell? ⟨p, po + j * 5 + 4, none⟩ = some (.slice C4 xks.length c4) ∧ w'.cell? ⟨p', po' + j * 5, none⟩ = some (.int .i64 yk) ∧ w'.cell? ⟨p', po' + j * 5 + 1, none⟩ = some (.int .i64 yn) ∧ w'.cell? ⟨p', po' + j * 5 + 2, none⟩ = some (.string ys) ∧ w'.cell? ⟨p', po' + j * 5 + 3, none⟩ = some (.slice D3 yl.length d3) ∧ w'.cell? ⟨p', po' + j * 5 + 4, none⟩ = some (.slice D4 yks.length d4))) (by kernel_rfl) (sees.out _ QD.out) (fun hHeld => ?_)
            refine Go.wpAnyH_take (i := 0) (oi := _) (v := ?_) rfl (by kernel_rfl) (by kernel_rfl) (by kernel_rfl) (fun _ _ _ h => h) (Or.inl ⟨by rfl, ?_⟩) (by assumption) ?_
            rotate_left 1
            · intro wx hSw
              go_simp <;> with_reducible rfl
            simp only [Act.put, List.getElem_toArray, List.getElem_cons_zero, List.setIfInBounds_toArray, List.set_cons_zero, List.set_cons_succ]
            refine Go.wpAnyH_take (i := 1) (oi := _) (v := ?_) rfl (by kernel_rfl) (by kernel_rfl) (by kernel_rfl) (fun _ _ _ h => h) (Or.inl ⟨by rfl, ?_⟩) (by assumption) ?_
            rotate_left 1
            · intro wx hSw
              go_simp <;> with_reducible rfl
            simp only [Act.put, List.getElem_toArray, List.getElem_cons_zero, List.getElem_cons_succ, List.setIfInBounds_toArray, List.set_cons_zero, List.set_cons_succ]
            refine Go.wpAnyH_take (i := 2) (oi := _) (v := ?_) rfl (by kernel_rfl) (by kernel_rfl) (by kernel_rfl) (fun _ _ _ h => h) (Or.inl ⟨by rfl, ?_⟩) (by assumption) ?_
            rotate_left 1
            · intro wx hSw
              go_simp <;> with_reducible rfl
            simp only [Act.put, List.getElem_toArray, List.getElem_cons_zero, List.getElem_cons_succ, List.setIfInBounds_toArray, List.set_cons_zero, List.set_cons_succ]
            refine Go.wpAnyH_take (i := 3) (oi := _) (v := ?_) rfl (by kernel_rfl) (by kernel_rfl) (by kernel_rfl) (fun _ _ _ h => h) (Or.inl ⟨by rfl, ?_⟩) (by assumption) ?_
            rotate_left 1
            · intro wx hSw
              go_simp <;> with_reducible rfl
            simp only [Act.put, List.getElem_toArray, List.getElem_cons_zero, List.getElem_cons_succ, List.setIfInBounds_toArray, List.set_cons_zero, List.set_cons_succ]
            refine Go.wpAnyH_take (i := 4) (oi := _) (v := ?_) rfl (by kernel_rfl) (by kernel_rfl) (by kernel_rfl) (fun _ _ _ h => h) (Or.inl ⟨by rfl, ?_⟩) (by assumption) ?_
            rotate_left 1
            · intro wx hSw
              go_simp <;> with_reducible rfl
            simp only [Act.put, List.getElem_toArray, List.getElem_cons_zero, List.getElem_cons_succ, List.setIfInBounds_toArray, List.set_cons_zero, List.set_cons_succ]
            refine Go.wpAnyH_take (i := 5) (oi := _) (v := ?_) rfl (by kernel_rfl) (by kernel_rfl) (by kernel_rfl) (fun _ _ _ h => h) (Or.inl ⟨by rfl, ?_⟩) (by assumption) ?_
            rotate_left 1
            · intro wx hSw
              go_simp <;> with_reducible rfl
            simp only [Act.put, List.getElem_toArray, List.getElem_cons_zero, List.getElem_cons_succ, List.setIfInBounds_toArray, List.set_cons_zero, List.set_cons_succ]
            refine Go.wpAnyH_take (i := 6) (oi := _) (v := ?_) rfl (by kernel_rfl) (by kernel_rfl) (by kernel_rfl) (fun _ _ _ h => h) (Or.inl ⟨by rfl, ?_⟩) (by assumption) ?_
            rotate_left 1
            · intro wx hSw
              go_simp <;> with_reducible rfl
            simp only [Act.put, List.getElem_toArray, List.getElem_cons_zero, List.getElem_cons_succ, List.setIfInBounds_toArray, List.set_cons_zero, List.set_cons_succ]
            refine Go.wpAnyH_take (i := 7) (oi := _) (v := ?_) rfl (by kernel_rfl) (by kernel_rfl) (by kernel_rfl) (fun _ _ _ h => h) (Or.inl ⟨by rfl, ?_⟩) (by assumption) ?_
            rotate_left 1
            · intro wx hSw
              go_simp <;> with_reducible rfl
            simp only [Act.put, List.getElem_toArray, List.getElem_cons_zero, List.getElem_cons_succ, List.setIfInBounds_toArray, List.set_cons_zero, List.set_cons_succ]
            refine Go.wpAnyH_take (i := 8) (oi := _) (v := ?_) rfl (by kernel_rfl) (by kernel_rfl) (by kernel_rfl) (fun _ _ _ h => h) (Or.inl ⟨by rfl, ?_⟩) (by assumption) ?_
            rotate_left 1
            · intro wx hSw
              go_simp <;> with_reducible rfl
            simp only [Act.put, List.getElem_toArray, List.getElem_cons_zero, List.getElem_cons_succ, List.setIfInBounds_toArray, List.set_cons_zero, List.set_cons_succ]
            refine Go.wpAnyH_take (i := 9) (oi := _) (v := ?_) rfl (by kernel_rfl) (by kernel_rfl) (by kernel_rfl) (fun _ _ _ h => h) (Or.inl ⟨by rfl, ?_⟩) (by assumption) ?_
            rotate_left 1
            · intro wx hSw
              go_simp <;> with_reducible rfl
            simp only [Act.put, List.getElem_toArray, List.getElem_cons_zero, List.getElem_cons_succ, List.setIfInBounds_toArray, List.set_cons_zero, List.set_cons_succ]
            refine Go.wpAnyH_ready (rs := [10]) (by kernel_rfl) (by simp) ?_
            refine Go.AllReadyH.cons rfl (fun K hK => ?_) Go.AllReadyH.nil
            rw [if_pos (by rfl)]
            go_simp
            refine (cX.out _ hHeld.1.out).mono ?_
            rintro e v10 ⟨rfl, q10⟩
            refine hK.out _ _ (sees.out _ (hHeld.1.out.trans q10)) (fun hHeld => ?_)
            clear hK K
            refine Go.wpAnyH_take (i := 11) (oi := _) (v := ?_) rfl (by kernel_rfl) (by kernel_rfl) (by kernel_rfl) (fun _ _ _ h => h) (Or.inl ⟨by rfl, ?_⟩) (by assumption) ?_
            rotate_left 1
            · intro wx hSw
              go_simp <;> with_reducible rfl
            simp only [Act.put, List.getElem_toArray, List.getElem_cons_zero, List.getElem_cons_succ, List.setIfInBounds_toArray, List.set_cons_zero, List.set_cons_succ]
            refine Go.wpAnyH_done (by kernel_rfl) ?_ _
            have Q10 := Lib.hid (hqj.out.trans hHeld.1.out)
            clear hHeld u3 v3
            go_wp2_with fail
            go_round
            case rel => exact ⟨j + 1, hlt'.out, by go_num, Q10, HV⟩
            case measure => have := hlt'.out; simp [intOf]; omega
          | false =>
            have hA : ANS = false := by rw [← hv2]; simp
            subst hA
            clear hv2 hvj it1 it2 it it' hit hit' hx hy h1 h2 hlt hj hR IT1 IT2
            go_wp2_with fail
            refine Go.wp_region_held_drew (S := (fun w' => Hid (Q wr w') ∧ w'.cell? ⟨B, 3, none⟩ = some (.slice (some ⟨p, po, none⟩) n3 k3) ∧ w'.cell? ⟨B', 3, none⟩ = some (.slice (some ⟨p', po', none⟩) n3 l3) ∧ w'.cell? ⟨p, po + j * 5, none⟩ = some (.int .i64 xk) ∧ w'.cell? ⟨p, po + j * 5 + 1, none⟩ = some (.int .i64 xn) ∧ w'.cell? ⟨p, po + j * 5 + 2, none⟩ = some (.string xs) ∧ w'.cell? ⟨p, po + j * 5 + 3, none⟩ = some (.slice C3 xl.length c3) ∧ w'.cell? ⟨p, po + j * 5 + 4, none⟩ = some (.slice C4 xks.length c4) ∧ w'.cell? ⟨p', po' + j * 5, none⟩ = some (.int .i64 yk) ∧ w'.cell? ⟨p', po' + j * 5 + 1, none⟩ = some (.int .i64 yn) ∧ w'.cell? ⟨p', po' + j * 5 + 2, none⟩ = some (.string ys) ∧ w'.cell? ⟨p', po' + j * 5 + 3, none⟩ = some (.slice D3 yl.length d3) ∧ w'.cell? ⟨p', po' + j * 5 + 4, none⟩ = some (.slice D4 yks.length d4))) (by kernel_rfl) (sees.out _ QD.out) (fun hHeld => ?_)
            refine Go.wpAnyH_take (i := 0) (oi := _) (v := ?_) rfl (by kernel_rfl) (by kernel_rfl) (by kernel_rfl) (fun _ _ _ h => h) (Or.inl ⟨by rfl, ?_⟩) (by assumption) ?_
            rotate_left 1
            · intro wx hSw
              go_simp <;> with_reducible rfl
            simp only [Act.put, List.getElem_toArray, List.getElem_cons_zero, List.setIfInBounds_toArray, List.set_cons_zero, List.set_cons_succ]
            refine Go.wpAnyH_take (i := 1) (oi := _) (v := ?_) rfl (by kernel_rfl) (by kernel_rfl) (by kernel_rfl) (fun _ _ _ h => h) (Or.inl ⟨by rfl, ?_⟩) (by assumption) ?_
            rotate_left 1
            · intro wx hSw
              go_simp <;> with_reducible rfl
            simp only [Act.put, List.getElem_toArray, List.getElem_cons_zero, List.getElem_cons_succ, List.setIfInBounds_toArray, List.set_cons_zero, List.set_cons_succ]
            refine Go.wpAnyH_take (i := 2) (oi := _) (v := ?_) rfl (by kernel_rfl) (by kernel_rfl) (by kernel_rfl) (fun _ _ _ h => h) (Or.inl ⟨by rfl, ?_⟩) (by assumption) ?_
            rotate_left 1
            · intro wx hSw
              go_simp <;> with_reducible rfl
            simp only [Act.put, List.getElem_toArray, List.getElem_cons_zero, List.getElem_cons_succ, List.setIfInBounds_toArray, List.set_cons_zero, List.set_cons_succ]
            refine Go.wpAnyH_take (i := 3) (oi := _) (v := ?_) rfl (by kernel_rfl) (by kernel_rfl) (by kernel_rfl) (fun _ _ _ h => h) (Or.inl ⟨by rfl, ?_⟩) (by assumption) ?_
            rotate_left 1
            · intro wx hSw
              go_simp <;> with_reducible rfl
            simp only [Act.put, List.getElem_toArray, List.getElem_cons_zero, List.getElem_cons_succ, List.setIfInBounds_toArray, List.set_cons_zero, List.set_cons_succ]
            refine Go.wpAnyH_take (i := 4) (oi := _) (v := ?_) rfl (by kernel_rfl) (by kernel_rfl) (by kernel_rfl) (fun _ _ _ h => h) (Or.inl ⟨by rfl, ?_⟩) (by assumption) ?_
            rotate_left 1
            · intro wx hSw
              go_simp <;> with_reducible rfl
            simp only [Act.put, List.getElem_toArray, List.getElem_cons_zero, List.getElem_cons_succ, List.setIfInBounds_toArray, List.set_cons_zero, List.set_cons_succ]
            refine Go.wpAnyH_take (i := 5) (oi := _) (v := ?_) rfl (by kernel_rfl) (by kernel_rfl) (by kernel_rfl) (fun _ _ _ h => h) (Or.inl ⟨by rfl, ?_⟩) (by assumption) ?_
            rotate_left 1
            · intro wx hSw
              go_simp <;> with_reducible rfl
            simp only [Act.put, List.getElem_toArray, List.getElem_cons_zero, List.getElem_cons_succ, List.setIfInBounds_toArray, List.set_cons_zero, List.set_cons_succ]
            refine Go.wpAnyH_take (i := 6) (oi := _) (v := ?_) rfl (by kernel_rfl) (by kernel_rfl) (by kernel_rfl) (fun _ _ _ h => h) (Or.inl ⟨by rfl, ?_⟩) (by assumption) ?_
            rotate_left 1
            · intro wx hSw
              go_simp <;> with_reducible rfl
            simp only [Act.put, List.getElem_toArray, List.getElem_cons_zero, List.getElem_cons_succ, List.setIfInBounds_toArray, List.set_cons_zero, List.set_cons_succ]
            refine Go.wpAnyH_take (i := 7) (oi := _) (v := ?_) rfl (by kernel_rfl) (by kernel_rfl) (by kernel_rfl) (fun _ _ _ h => h) (Or.inl ⟨by rfl, ?_⟩) (by assumption) ?_
            rotate_left 1
            · intro wx hSw
              go_simp <;> with_reducible rfl
            simp only [Act.put, List.getElem_toArray, List.getElem_cons_zero, List.getElem_cons_succ, List.setIfInBounds_toArray, List.set_cons_zero, List.set_cons_succ]
            refine Go.wpAnyH_take (i := 8) (oi := _) (v := ?_) rfl (by kernel_rfl) (by kernel_rfl) (by kernel_rfl) (fun _ _ _ h => h) (Or.inl ⟨by rfl, ?_⟩) (by assumption) ?_
            rotate_left 1
            · intro wx hSw
              go_simp <;> with_reducible rfl
            simp only [Act.put, List.getElem_toArray, List.getElem_cons_zero, List.getElem_cons_succ, List.setIfInBounds_toArray, List.set_cons_zero, List.set_cons_succ]
            refine Go.wpAnyH_take (i := 9) (oi := _) (v := ?_) rfl (by kernel_rfl) (by kernel_rfl) (by kernel_rfl) (fun _ _ _ h => h) (Or.inl ⟨by rfl, ?_⟩) (by assumption) ?_
            rotate_left 1
            · intro wx hSw
              go_simp <;> with_reducible rfl
            simp only [Act.put, List.getElem_toArray, List.getElem_cons_zero, List.getElem_cons_succ, List.setIfInBounds_toArray, List.set_cons_zero, List.set_cons_succ]
            refine Go.wpAnyH_ready (rs := [10]) (by kernel_rfl) (by simp) ?_
            refine Go.AllReadyH.cons rfl (fun K hK => ?_) Go.AllReadyH.nil
            rw [if_pos (by rfl)]
            go_simp
            refine (cX.out _ hHeld.1.out).mono ?_
            rintro e v10 ⟨rfl, q10⟩
            refine hK.out _ _ (sees.out _ (hHeld.1.out.trans q10)) (fun hHeld => ?_)
            clear hK K
            refine Go.wpAnyH_take (i := 11) (oi := _) (v := ?_) rfl (by kernel_rfl) (by kernel_rfl) (by kernel_rfl) (fun _ _ _ h => h) (Or.inl ⟨by rfl, ?_⟩) (by assumption) ?_
            rotate_left 1
            · intro wx hSw
              go_simp <;> with_reducible rfl
            simp only [Act.put, List.getElem_toArray, List.getElem_cons_zero, List.getElem_cons_succ, List.setIfInBounds_toArray, List.set_cons_zero, List.set_cons_succ]
            refine Go.wpAnyH_done (by kernel_rfl) ?_ _
            have Q10 := Lib.hid (hqj.out.trans hHeld.1.out)
            clear hHeld u3 v3
            go_wp2_with fail
            go_ret
            exact ⟨rfl, Q0.out.trans Q10.out⟩
        · obtain rfl : n3 = j := by omega
          have hA : ANS = true := by
            have hv2 := hvj.out
            rw [List.drop_of_length_le (by have := HN.out; omega), List.drop_of_length_le (by have := HN.out; omega), sameL_nil] at hv2
            exact hv2.symm
          subst hA
          clear hvj hlt hj
          go_wp2_with fail
          go_ret
          exact ⟨rfl, Q0.out.trans hqj.out⟩

end Go.Proofs.YtjmchjphdfbhiaaGreatDoor.val
