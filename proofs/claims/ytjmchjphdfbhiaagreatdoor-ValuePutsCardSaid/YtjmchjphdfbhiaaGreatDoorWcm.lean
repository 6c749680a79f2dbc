/- The reference's Compare. -/
import Derived.Test.YtjmchjphdfbhiaaGreatDoorWsr
namespace Go.Proofs.YtjmchjphdfbhiaaGreatDoor.val
open Go.RowKit
open Go.Proofs.YtjmchjphdfbhiaaGreatDoor
theorem rnumber_any (a b : Int) (w : World) : Calls Tryz.prog 61 #[.int .i64 a, .int .i64 b] w fun e w' => e = .returned (.int .i64 (cI a b)) ∧ Q w w' := by
  unfold cI
  by_cases h1 : a < b
  · rw [if_pos h1]
    have f1 : decide (a < b) = true := decide_eq_true h1
    clear h1
    go_enter Tryz.func61, Tryz.ntmps61
    go_wp2_with fail
    go_ret
    exact ⟨rfl, Q.refl _⟩
  · rw [if_neg h1]
    have f1 : decide (a < b) = false := decide_eq_false h1
    by_cases h2 : b < a
    · rw [if_pos h2]
      have f2 : decide (b < a) = true := decide_eq_true h2
      clear h1 h2
      go_enter Tryz.func61, Tryz.ntmps61
      go_wp2_with fail
      go_ret
      exact ⟨rfl, Q.refl _⟩
    · rw [if_neg h2]
      have f2 : decide (b < a) = false := decide_eq_false h2
      clear h1 h2
      go_enter Tryz.func61, Tryz.ntmps61
      go_wp2_with fail
      go_ret
      exact ⟨rfl, Q.refl _⟩
theorem cT_up (a b : ByteArray) : cT a b ≤ 1 := by
  have h1 := tot_cT.low b a
  have h2 := tot_cT.anti a b
  omega
theorem rbytes_any (a b : ByteArray) (w : World) : Calls Tryz.prog 62 #[.string a, .string b] w fun e w' => e = .returned (.int .i64 (cT a b)) ∧ Q w w' := by
  have l1 := tot_cT.low a b
  have l2 := tot_cT.anti a b
  have g1 := less_cT' a b
  have g2 := less_cT' b a
  obtain ⟨r, hr⟩ : ∃ r, cT a b = r := ⟨_, rfl⟩
  rw [l2] at g2
  rw [hr] at l1 g1 g2 ⊢
  by_cases h1 : r < 0
  · obtain rfl : r = -1 := by omega
    have f1 : Op.bytesLess a.toList b.toList = true := g1
    clear g1 g2 l1 l2 hr h1
    go_enter Tryz.func62, Tryz.ntmps62
    go_wp2_with fail
    go_ret
    exact ⟨rfl, Q.refl _⟩
  · have f1 : Op.bytesLess a.toList b.toList = false := by rw [g1]; exact decide_eq_false h1
    by_cases h2 : 0 < r
    · have hu := (cT_up a b)
      obtain rfl : r = 1 := by omega
      have f2 : (a.toList == b.toList) = false := by rw [same_cT, hr]; rfl
      clear g1 g2 l1 l2 hr h1 h2 hu
      go_enter Tryz.func62, Tryz.ntmps62
      go_wp2_with fail
      go_ret
      exact ⟨rfl, Q.refl _⟩
    · obtain rfl : r = 0 := by omega
      have f2 : (a.toList == b.toList) = true := by rw [same_cT, hr]; rfl
      clear g1 g2 l1 l2 hr h1 h2
      go_enter Tryz.func62, Tryz.ntmps62
      go_wp2_with fail
      go_ret
      exact ⟨rfl, Q.refl _⟩
/-- What the reference's Compare returns. -/
def CpC (a : V) : Prop := ∀ (b : V) (A3 : Option Addr) (k3 : Nat) (A4 : Option Addr) (k4 : Nat) (B3 : Option Addr) (l3 : Nat) (B4 : Option Addr) (l4 : Nat) (w : World), Va a A3 k3 A4 k4 w → Va b B3 l3 B4 l4 w →
  Calls Tryz.prog 36 #[vv a A3 k3 A4 k4, vv b B3 l3 B4 l4] w fun e w' => e = .returned (.int .i64 (cV a b)) ∧ Q w w'
set_option maxRecDepth 100000 in
set_option maxHeartbeats 16000000 in
theorem rcompare_any : ∀ v : V, CpC v := by
  refine V.ind (fun a ih => ?_)
  obtain ⟨ak, an, at', l, ks⟩ := a
  rintro ⟨bk, bn, bt, l', ks'⟩ A3 k3 A4 k4 B3 l3 B4 l4 w ⟨hi, hk, hw⟩ ⟨hi', hk', hw'⟩
  have IH : Hid (∀ x ∈ l, CpC x) := Lib.hid ih
  have hi : Is (.slice A3 l.length k3) l w := hi
  have hk : Ks (.slice A4 ks.length k4) ks w := hk
  have hi' : Is (.slice B3 l'.length l3) l' w := hi'
  have hk' : Ks (.slice B4 ks'.length l4) ks' w := hk'
  have hwl : WfL l := hw.items
  have hwl' : WfL l' := hw'.items
  have hlm : l.length ≤ maxLen := ((Wf_iff _).1 hw).2.2.2.1
  have hkm : ks.length ≤ maxLen := ((Wf_iff _).1 hw).2.2.2.2.1
  have hkm' : ks'.length ≤ maxLen := ((Wf_iff _).1 hw').2.2.2.2.1
  show Calls Tryz.prog 36 #[.agg #[.int .i64 ak, .int .i64 an, .string at', .slice A3 l.length k3, .slice A4 ks.length k4], .agg #[.int .i64 bk, .int .i64 bn, .string bt, .slice B3 l'.length l3, .slice B4 ks'.length l4]] w _
  have hs := cV_eq ak an at' l ks bk bn bt l' ks'
  obtain ⟨ANS, hANS⟩ : ∃ a, cV ⟨ak, an, at', l, ks⟩ ⟨bk, bn, bt, l', ks'⟩ = a := ⟨_, rfl⟩
  rw [hANS] at hs ⊢
  obtain ⟨n4, hn4⟩ : ∃ n, ks.length = n := ⟨_, rfl⟩
  obtain ⟨n3, hn3⟩ : ∃ n, l.length = n := ⟨_, rfl⟩
  obtain ⟨m4, hm4⟩ : ∃ n, ks'.length = n := ⟨_, rfl⟩
  obtain ⟨m3, hm3⟩ : ∃ n, l'.length = n := ⟨_, rfl⟩
  rw [hn3] at hi hlm
  rw [hn4] at hk hkm
  rw [hm3] at hi'
  rw [hm4] at hk' hkm'
  rw [hn3, hn4, hm3, hm4]
  have hn3b : (n3 : Int) ≤ 9223372036854775807 := by unfold maxLen at hlm; omega
  have hn4b : (n4 : Int) ≤ 9223372036854775807 := by unfold maxLen at hkm; omega
  have hm4b : (m4 : Int) ≤ 9223372036854775807 := by unfold maxLen at hkm'; omega
  obtain ⟨B, hB⟩ : ∃ B, w.heap.size = B := ⟨_, rfl⟩
  obtain ⟨wa, hwa⟩ : ∃ wa, w.alloc (.cells #[.int .i64 ak, .int .i64 an, .string at', .slice A3 n3 k3, .slice A4 n4 k4] 26) = wa := ⟨_, rfl⟩
  obtain ⟨B', hB'⟩ : ∃ B, wa.heap.size = B := ⟨_, rfl⟩
  obtain ⟨wb, hwb⟩ : ∃ wb, wa.alloc (.cells #[.int .i64 bk, .int .i64 bn, .string bt, .slice B3 m3 l3, .slice B4 m4 l4] 26) = wb := ⟨_, rfl⟩
  have qa : Q w wa := by rw [← hwa]; exact Q.box _ _
  have qb : Q wa wb := by rw [← hwb]; exact Q.box _ _
  have bA0 : Bk B #[.int .i64 ak, .int .i64 an, .string at', .slice A3 n3 k3, .slice A4 n4 k4] 26 wa := by rw [← hwa, ← hB]; exact Bk.new _ _ _
  have bA := bA0.stays qb
  have bB : Bk B' #[.int .i64 bk, .int .i64 bn, .string bt, .slice B3 m3 l3, .slice B4 m4 l4] 26 wb := by rw [← hwb, ← hB']; exact Bk.new _ _ _
  have Q0 := Lib.hid (qa.trans qb)
  have BA := Lib.hid bA
  have BB := Lib.hid bB
  have x0 := bA.at 0 _ rfl
  have x1 := bA.at 1 _ rfl
  have x2 := bA.at 2 _ rfl
  have x3 := bA.at 3 _ rfl
  have x4 := bA.at 4 _ rfl
  have y0 := bB.at 0 _ rfl
  have y1 := bB.at 1 _ rfl
  have y2 := bB.at 2 _ rfl
  have y3 := bB.at 3 _ rfl
  have y4 := bB.at 4 _ rfl
  have HI := Lib.hid hi
  have HK := Lib.hid hk
  have HI' := Lib.hid hi'
  have HK' := Lib.hid hk'
  have HW := Lib.hid hwl
  have HW' := Lib.hid hwl'
  have HN := Lib.hid (show l.length = n3 ∧ ks.length = n4 ∧ l'.length = m3 ∧ ks'.length = m4 from ⟨hn3, hn4, hm3, hm4⟩)
  have HS := Lib.hid hs
  clear hi hk hi' hk' hw hw' hwl hwl' hlm hkm hkm' hn3 hn4 hm3 hm4 qa qb bA0 bA bB hs ih hANS
  have cN := Lib.hid (fun x y w' => rnumber_any x y w')
  have cB := Lib.hid (fun x y w' => rbytes_any x y w')
  by_cases hk : ak = bk
  rotate_left 1
  · have f1 : (ak != bk) = true := by simpa using hk
    have hA : ANS = cI ak bk := by
      rw [HS.out]
      rw [if_neg (fun h0 => hk ((tot_cI.zero _ _).1 h0))]
    subst hA
    clear HS hk
    go_enter Tryz.func36, Tryz.ntmps36
    go_wp2_with fail
    refine (cN.out ak bk _).mono ?_
    rintro e w1 ⟨rfl, q1⟩
    go_wp2_with fail
    go_ret
    exact ⟨rfl, Q0.out.trans q1⟩
  subst hk
  have HS := Lib.hid (HS.out.trans (if_pos ((tot_cI.zero ak ak).2 rfl)))
  by_cases hn : an = bn
  rotate_left 1
  · have f1 : (an != bn) = true := by simpa using hn
    have hA : ANS = cI an bn := by
      rw [HS.out]
      rw [if_neg (fun h0 => hn ((tot_cI.zero _ _).1 h0))]
    subst hA
    clear HS hn
    go_enter Tryz.func36, Tryz.ntmps36
    go_wp2_with fail
    refine (cN.out an bn _).mono ?_
    rintro e w1 ⟨rfl, q1⟩
    go_wp2_with fail
    go_ret
    exact ⟨rfl, Q0.out.trans q1⟩
  subst hn
  have HS := Lib.hid (HS.out.trans (if_pos ((tot_cI.zero an an).2 rfl)))
  by_cases ht : at' = bt
  rotate_left 1
  · have f1 : (at'.toList == bt.toList) = false := by rw [same_cT]; exact decide_eq_false (fun h => ht ((tot_cT.zero _ _).1 h))
    have hA : ANS = cT at' bt := by
      rw [HS.out]
      rw [if_neg (fun h0 => ht ((tot_cT.zero _ _).1 h0))]
    subst hA
    clear HS ht
    go_enter Tryz.func36, Tryz.ntmps36
    go_wp2_with fail
    refine (cB.out at' bt _).mono ?_
    rintro e w1 ⟨rfl, q1⟩
    go_wp2_with fail
    go_ret
    exact ⟨rfl, Q0.out.trans q1⟩
  subst ht
  have HS := Lib.hid (HS.out.trans (if_pos ((tot_cT.zero at' at').2 rfl)))
  have H0 : Hid (cE (ks.drop 0) (ks'.drop 0) (l.drop 0) (l'.drop 0) = ANS) := Lib.hid (by rw [List.drop_zero, List.drop_zero, List.drop_zero, List.drop_zero]; exact HS.out.symm)
  clear HS
  go_enter Tryz.func36, Tryz.ntmps36
  go_wp2_with fail
  clear x0 x1 x2 x3 x4 y0 y1 y2 y3 y4 hwa hwb
  go_loopw [5] (fun i wr => ∃ k : Nat, k ≤ n3 ∧ k ≤ m3 ∧ i = .int .i64 k ∧ Hid (Q wb wr) ∧ Hid (cE (ks.drop k) (ks'.drop k) (l.drop k) (l'.drop k) = ANS)) (fun i _ => n3 - (intOf i).toNat)
  case atStart => exact ⟨0, Nat.zero_le _, Nat.zero_le _, rfl, Lib.hid (Q.refl _), H0⟩
  case round =>
    obtain ⟨j, hj, hj', rfl, hqj, hvj⟩ := hrel
    have u3 := (BA.out.stays hqj.out).at 3 _ rfl
    have v3 := (BB.out.stays hqj.out).at 3 _ rfl
    have u4 := (BA.out.stays hqj.out).at 4 _ rfl
    have v4 := (BB.out.stays hqj.out).at 4 _ rfl
    by_cases hlt : j < n3
    rotate_left 1
    · obtain rfl : n3 = j := by omega
      have hA : ANS = cI n3 m3 := by
        have h := hvj.out
        rw [show l.drop n3 = [] from List.drop_of_length_le (by have := HN.out; omega)] at h
        by_cases hm : n3 < m3
        · obtain ⟨y, t, e⟩ : ∃ y t, l'.drop n3 = y :: t := ⟨_, _, List.drop_eq_getElem_cons (by have := HN.out; omega)⟩
          rw [e, cE_less] at h
          rw [← h]
          unfold cI
          rw [if_pos (by omega)]
        · rw [show l'.drop n3 = [] from List.drop_of_length_le (by have := HN.out; omega), cE_nil] at h
          rw [← h]
          unfold cI
          rw [if_neg (by omega), if_neg (by omega)]
      subst hA
      clear hvj hlt hj hj'
      go_wp2_with fail
      refine (cN.out _ _ _).mono ?_
      rintro e w1 ⟨rfl, q1⟩
      go_wp2_with fail
      go_ret
      exact ⟨rfl, Q0.out.trans (hqj.out.trans q1)⟩
    have hkz : (j : Int) < (n3 : Int) := by omega
    by_cases hlt2 : j < m3
    rotate_left 1
    · obtain rfl : m3 = j := by omega
      have hA : ANS = cI n3 m3 := by
        have h := hvj.out
        rw [show l'.drop m3 = [] from List.drop_of_length_le (by have := HN.out; omega)] at h
        obtain ⟨y, t, e⟩ : ∃ y t, l.drop m3 = y :: t := ⟨_, _, List.drop_eq_getElem_cons (by have := HN.out; omega)⟩
        rw [e, cE_more] at h
        rw [← h]
        unfold cI
        rw [if_neg (by omega), if_pos (by omega)]
      subst hA
      clear hvj hlt hlt2 hj hj'
      go_wp2_with fail
      refine (cN.out _ _ _).mono ?_
      rintro e w1 ⟨rfl, q1⟩
      go_wp2_with fail
      go_ret
      exact ⟨rfl, Q0.out.trans (hqj.out.trans q1)⟩
    have hkz2 : (j : Int) < (m3 : Int) := by omega
    have h1 : j < l.length := by have := HN.out; omega
    have h2 : j < l'.length := by have := HN.out; omega
    obtain ⟨p, po, rfl, hit⟩ := Is.item HI.out HW.out (by omega)
    obtain ⟨p', po', rfl, hit'⟩ := Is.item HI'.out HW'.out (by omega)
    obtain ⟨C3, c3, C4, c4, it⟩ := hit j h1
    obtain ⟨D3, d3, D4, d4, it'⟩ := hit' j h2
    have it1 := it.stays (Q0.out.trans hqj.out)
    have it2 := it'.stays (Q0.out.trans hqj.out)
    have hv2 := hvj.out
    rw [List.drop_eq_getElem_cons h1, List.drop_eq_getElem_cons h2, cE_cons, List.tail_drop, List.tail_drop] at hv2
    have IT1 := Lib.hid it1
    have IT2 := Lib.hid it2
    have cX := Lib.hid (fun wr w' (q0 : Q wb wr) (q : Q wr w') => IH.out l[j] (List.getElem_mem h1) l'[j] C3 c3 C4 c4 D3 d3 D4 d4 w' (it.va.stays (Q0.out.trans (q0.trans q))) (it'.va.stays (Q0.out.trans (q0.trans q))))
    have cI2 := Lib.hid (fun wr (q0 : Q wb wr) => (⟨it.stays (Q0.out.trans q0), it'.stays (Q0.out.trans q0)⟩ : It l[j] p (po + j * 5) C3 c3 C4 c4 wr ∧ It l'[j] p' (po' + j * 5) D3 d3 D4 d4 wr))
    obtain ⟨x, hx⟩ : ∃ x, l[j] = x := ⟨_, rfl⟩
    obtain ⟨y, hy⟩ : ∃ x, l'[j] = x := ⟨_, rfl⟩
    rw [hx, hy] at hv2 cX cI2
    obtain ⟨xk, xn, xs, xl, xks⟩ := x
    obtain ⟨yk, yn, ys, yl, yks⟩ := y
    have cX : Hid (∀ wr w', Q wb wr → Q wr w' → Calls Tryz.prog 36 #[.agg #[.int .i64 xk, .int .i64 xn, .string xs, .slice C3 xl.length c3, .slice C4 xks.length c4], .agg #[.int .i64 yk, .int .i64 yn, .string ys, .slice D3 yl.length d3, .slice D4 yks.length d4]] w' fun e w'' => e = .returned (.int .i64 (cV ⟨xk, xn, xs, xl, xks⟩ ⟨yk, yn, ys, yl, yks⟩)) ∧ Q w' w'') := cX
    have hlt' := Lib.hid (show j < n3 ∧ j < m3 from ⟨hlt, hlt2⟩)
    obtain ⟨R, hR⟩ : ∃ a, cV ⟨xk, xn, xs, xl, xks⟩ ⟨yk, yn, ys, yl, yks⟩ = a := ⟨_, rfl⟩
    rw [hR] at hv2 cX
    clear it1 it2 IT1 IT2 it it' hit hit' hx hy h1 h2 hlt hlt2 hj hj' hR hvj
    have sees : Hid (∀ w', Q wb w' → Hid (Q wb w') ∧ w'.cell? ⟨B, 3, none⟩ = some (.slice (some ⟨p, po, none⟩) n3 k3) ∧ w'.cell? ⟨B', 3, none⟩ = some (.slice (some ⟨p', po', none⟩) m3 l3) ∧ w'.cell? ⟨p, po + j * 5, none⟩ = some (.int .i64 xk) ∧ w'.cell? ⟨p, po + j * 5 + 1, none⟩ = some (.int .i64 xn) ∧ w'.cell? ⟨p, po + j * 5 + 2, none⟩ = some (.string xs) ∧ w'.cell? ⟨p, po + j * 5 + 3, none⟩ = some (.slice C3 xl.length c3) ∧ w'.cell? ⟨p, po + j * 5 + 4, none⟩ = some (.slice C4 xks.length c4) ∧ w'.cell? ⟨p', po' + j * 5, none⟩ = some (.int .i64 yk) ∧ w'.cell? ⟨p', po' + j * 5 + 1, none⟩ = some (.int .i64 yn) ∧ w'.cell? ⟨p', po' + j * 5 + 2, none⟩ = some (.string ys) ∧ w'.cell? ⟨p', po' + j * 5 + 3, none⟩ = some (.slice D3 yl.length d3) ∧ w'.cell? ⟨p', po' + j * 5 + 4, none⟩ = some (.slice D4 yks.length d4)) := Lib.hid (fun w' q => ⟨Lib.hid q, (BA.out.stays q).at 3 _ rfl, (BB.out.stays q).at 3 _ rfl, (cI2.out _ q).1.k, (cI2.out _ q).1.n, (cI2.out _ q).1.s, (cI2.out _ q).1.l, (cI2.out _ q).1.ks, (cI2.out _ q).2.k, (cI2.out _ q).2.n, (cI2.out _ q).2.s, (cI2.out _ q).2.l, (cI2.out _ q).2.ks⟩)
    clear u3 v3
    have u3 := (BA.out.stays hqj.out).at 3 _ rfl
    have v3 := (BB.out.stays hqj.out).at 3 _ rfl
    by_cases hk4 : j < n4
    rotate_left 1
    · have f1 : decide (j < n4) = false := decide_eq_false hk4
      have f2 : decide ((j : Int) < (n4 : Int)) = false := decide_eq_false (by omega)
      rw [show ks.drop j = [] from List.drop_of_length_le (by have := HN.out; omega), show cH [] (ks'.drop j) = 0 from rfl, if_pos rfl] at hv2
      clear hk4
      by_cases hR0 : R = 0
      · obtain rfl : R = 0 := hR0
        have HV : Hid (cE (ks.drop (j + 1)) (ks'.drop (j + 1)) (l.drop (j + 1)) (l'.drop (j + 1)) = ANS) := Lib.hid (by rw [← hv2, if_pos rfl])
        clear hv2
        go_wp2_with fail
        go_quiet (fail)
        have QX : Hid (Q wb (wr.drewN nq)) := Lib.hid (hqj.out.trans (Q.drewN _ _))
        generalize wr.drewN nq = W2 at *
        clear u3 v3 u4 v4
        go_wp2_with fail
        have QW : Hid (Q wb W2) := Lib.hid (QX.out)
        have QD : Hid (Q wb W2.drew) := Lib.hid (QW.out.trans (Q.drewN W2 1))
        refine Go.wp_region_held_drew (S := (fun w' => Hid (Q wb w') ∧ w'.cell? ⟨B, 3, none⟩ = some (.slice (some ⟨p, po, none⟩) n3 k3) ∧ w'.cell? ⟨B', 3, none⟩ = some (.slice (some ⟨p', po', none⟩) m3 l3) ∧ w'.cell? ⟨p, po + j * 5, none⟩ = some (.int .i64 xk) ∧ w'.cell? ⟨p, po + j * 5 + 1, none⟩ = some (.int .i64 xn) ∧ w'.cell? ⟨p, po + j * 5 + 2, none⟩ = some (.string xs) ∧ w'.cell? ⟨p, po + j * 5 + 3, none⟩ = some (.slice C3 xl.length c3) ∧ w'.cell? ⟨p, po + j * 5 + 4, none⟩ = some (.slice C4 xks.length c4) ∧ w'.cell? ⟨p', po' + j * 5, none⟩ = some (.int .i64 yk) ∧ w'.cell? ⟨p', po' + j * 5 + 1, none⟩ = some (.int .i64 yn) ∧ w'.cell? ⟨p', po' + j * 5 + 2, none⟩ = some (.string ys) ∧ w'.cell? ⟨p', po' + j * 5 + 3, none⟩ = some (.slice D3 yl.length d3) ∧ w'.cell? ⟨p', po' + j * 5 + 4, none⟩ = some (.slice D4 yks.length d4))) (by kernel_rfl) (sees.out _ QD.out) (fun hHeld => ?_)
        refine Go.wpAnyH_take (i := 0) (oi := _) (v := ?_) rfl (by kernel_rfl) (by kernel_rfl) (by kernel_rfl) (fun _ _ _ h => h) (Or.inl ⟨by rfl, ?_⟩) (by assumption) ?_
        rotate_left 1
        · intro wx hSw
          go_simp <;> with_reducible rfl
        simp only [Act.put, List.getElem_toArray, List.getElem_cons_zero, List.setIfInBounds_toArray, List.set_cons_zero, List.set_cons_succ]
        refine Go.wpAnyH_take (i := 1) (oi := _) (v := ?_) rfl (by kernel_rfl) (by kernel_rfl) (by kernel_rfl) (fun _ _ _ h => h) (Or.inl ⟨by rfl, ?_⟩) (by assumption) ?_
        rotate_left 1
        · intro wx hSw
          go_simp <;> with_reducible rfl
        simp only [Act.put, List.getElem_toArray, List.getElem_cons_zero, List.getElem_cons_succ, List.setIfInBounds_toArray, List.set_cons_zero, List.set_cons_succ]
        refine Go.wpAnyH_take (i := 2) (oi := _) (v := ?_) rfl (by kernel_rfl) (by kernel_rfl) (by kernel_rfl) (fun _ _ _ h => h) (Or.inl ⟨by rfl, ?_⟩) (by assumption) ?_
        rotate_left 1
        · intro wx hSw
          go_simp <;> with_reducible rfl
        simp only [Act.put, List.getElem_toArray, List.getElem_cons_zero, List.getElem_cons_succ, List.setIfInBounds_toArray, List.set_cons_zero, List.set_cons_succ]
        refine Go.wpAnyH_take (i := 3) (oi := _) (v := ?_) rfl (by kernel_rfl) (by kernel_rfl) (by kernel_rfl) (fun _ _ _ h => h) (Or.inl ⟨by rfl, ?_⟩) (by assumption) ?_
        rotate_left 1
        · intro wx hSw
          go_simp <;> with_reducible rfl
        simp only [Act.put, List.getElem_toArray, List.getElem_cons_zero, List.getElem_cons_succ, List.setIfInBounds_toArray, List.set_cons_zero, List.set_cons_succ]
        refine Go.wpAnyH_take (i := 4) (oi := _) (v := ?_) rfl (by kernel_rfl) (by kernel_rfl) (by kernel_rfl) (fun _ _ _ h => h) (Or.inl ⟨by rfl, ?_⟩) (by assumption) ?_
        rotate_left 1
        · intro wx hSw
          go_simp <;> with_reducible rfl
        simp only [Act.put, List.getElem_toArray, List.getElem_cons_zero, List.getElem_cons_succ, List.setIfInBounds_toArray, List.set_cons_zero, List.set_cons_succ]
        refine Go.wpAnyH_take (i := 5) (oi := _) (v := ?_) rfl (by kernel_rfl) (by kernel_rfl) (by kernel_rfl) (fun _ _ _ h => h) (Or.inl ⟨by rfl, ?_⟩) (by assumption) ?_
        rotate_left 1
        · intro wx hSw
          go_simp <;> with_reducible rfl
        simp only [Act.put, List.getElem_toArray, List.getElem_cons_zero, List.getElem_cons_succ, List.setIfInBounds_toArray, List.set_cons_zero, List.set_cons_succ]
        refine Go.wpAnyH_take (i := 6) (oi := _) (v := ?_) rfl (by kernel_rfl) (by kernel_rfl) (by kernel_rfl) (fun _ _ _ h => h) (Or.inl ⟨by rfl, ?_⟩) (by assumption) ?_
        rotate_left 1
        · intro wx hSw
          go_simp <;> with_reducible rfl
        simp only [Act.put, List.getElem_toArray, List.getElem_cons_zero, List.getElem_cons_succ, List.setIfInBounds_toArray, List.set_cons_zero, List.set_cons_succ]
        refine Go.wpAnyH_take (i := 7) (oi := _) (v := ?_) rfl (by kernel_rfl) (by kernel_rfl) (by kernel_rfl) (fun _ _ _ h => h) (Or.inl ⟨by rfl, ?_⟩) (by assumption) ?_
        rotate_left 1
        · intro wx hSw
          go_simp <;> with_reducible rfl
        simp only [Act.put, List.getElem_toArray, List.getElem_cons_zero, List.getElem_cons_succ, List.setIfInBounds_toArray, List.set_cons_zero, List.set_cons_succ]
        refine Go.wpAnyH_take (i := 8) (oi := _) (v := ?_) rfl (by kernel_rfl) (by kernel_rfl) (by kernel_rfl) (fun _ _ _ h => h) (Or.inl ⟨by rfl, ?_⟩) (by assumption) ?_
        rotate_left 1
        · intro wx hSw
          go_simp <;> with_reducible rfl
        simp only [Act.put, List.getElem_toArray, List.getElem_cons_zero, List.getElem_cons_succ, List.setIfInBounds_toArray, List.set_cons_zero, List.set_cons_succ]
        refine Go.wpAnyH_take (i := 9) (oi := _) (v := ?_) rfl (by kernel_rfl) (by kernel_rfl) (by kernel_rfl) (fun _ _ _ h => h) (Or.inl ⟨by rfl, ?_⟩) (by assumption) ?_
        rotate_left 1
        · intro wx hSw
          go_simp <;> with_reducible rfl
        simp only [Act.put, List.getElem_toArray, List.getElem_cons_zero, List.getElem_cons_succ, List.setIfInBounds_toArray, List.set_cons_zero, List.set_cons_succ]
        refine Go.wpAnyH_ready (rs := [10]) (by kernel_rfl) (by simp) ?_
        refine Go.AllReadyH.cons rfl (fun K hK => ?_) Go.AllReadyH.nil
        rw [if_pos (by rfl)]
        go_simp
        refine (cX.out _ _ hHeld.1.out (Q.refl _)).mono ?_
        rintro e v10 ⟨rfl, q10⟩
        refine hK.out _ _ (sees.out _ (hHeld.1.out.trans q10)) (fun hHeld => ?_)
        clear hK K
        refine Go.wpAnyH_take (i := 11) (oi := _) (v := ?_) rfl (by kernel_rfl) (by kernel_rfl) (by kernel_rfl) (fun _ _ _ h => h) (Or.inl ⟨by rfl, ?_⟩) (by assumption) ?_
        rotate_left 1
        · intro wx hSw
          go_simp <;> with_reducible rfl
        simp only [Act.put, List.getElem_toArray, List.getElem_cons_zero, List.getElem_cons_succ, List.setIfInBounds_toArray, List.set_cons_zero, List.set_cons_succ]
        refine Go.wpAnyH_done (by kernel_rfl) ?_ _
        have Q10 := Lib.hid hHeld.1.out
        clear hHeld
        go_wp2_with fail
        go_round
        case rel => exact ⟨j + 1, hlt'.out.1, hlt'.out.2, by go_num, Q10, HV⟩
        case measure => have := hlt'.out.1; simp [intOf]; omega
      · have hR1 : (R != 0) = true := by simpa using hR0
        have hA : R = ANS := by rw [← hv2, if_neg hR0]
        subst hA
        clear hv2 hR0
        go_wp2_with fail
        go_quiet (fail)
        have QX : Hid (Q wb (wr.drewN nq)) := Lib.hid (hqj.out.trans (Q.drewN _ _))
        generalize wr.drewN nq = W2 at *
        clear u3 v3 u4 v4
        go_wp2_with fail
        have QW : Hid (Q wb W2) := Lib.hid (QX.out)
        have QD : Hid (Q wb W2.drew) := Lib.hid (QW.out.trans (Q.drewN W2 1))
        refine Go.wp_region_held_drew (S := (fun w' => Hid (Q wb w') ∧ w'.cell? ⟨B, 3, none⟩ = some (.slice (some ⟨p, po, none⟩) n3 k3) ∧ w'.cell? ⟨B', 3, none⟩ = some (.slice (some ⟨p', po', none⟩) m3 l3) ∧ w'.cell? ⟨p, po + j * 5, none⟩ = some (.int .i64 xk) ∧ w'.cell? ⟨p, po + j * 5 + 1, none⟩ = some (.int .i64 xn) ∧ w'.cell? ⟨p, po + j * 5 + 2, none⟩ = some (.string xs) ∧ w'.cell? ⟨p, po + j * 5 + 3, none⟩ = some (.slice C3 xl.length c3) ∧ w'.cell? ⟨p, po + j * 5 + 4, none⟩ = some (.slice C4 xks.length c4) ∧ w'.cell? ⟨p', po' + j * 5, none⟩ = some (.int .i64 yk) ∧ w'.cell? ⟨p', po' + j * 5 + 1, none⟩ = some (.int .i64 yn) ∧ w'.cell? ⟨p', po' + j * 5 + 2, none⟩ = some (.string ys) ∧ w'.cell? ⟨p', po' + j * 5 + 3, none⟩ = some (.slice D3 yl.length d3) ∧ w'.cell? ⟨p', po' + j * 5 + 4, none⟩ = some (.slice D4 yks.length d4))) (by kernel_rfl) (sees.out _ QD.out) (fun hHeld => ?_)
        refine Go.wpAnyH_take (i := 0) (oi := _) (v := ?_) rfl (by kernel_rfl) (by kernel_rfl) (by kernel_rfl) (fun _ _ _ h => h) (Or.inl ⟨by rfl, ?_⟩) (by assumption) ?_
        rotate_left 1
        · intro wx hSw
          go_simp <;> with_reducible rfl
        simp only [Act.put, List.getElem_toArray, List.getElem_cons_zero, List.setIfInBounds_toArray, List.set_cons_zero, List.set_cons_succ]
        refine Go.wpAnyH_take (i := 1) (oi := _) (v := ?_) rfl (by kernel_rfl) (by kernel_rfl) (by kernel_rfl) (fun _ _ _ h => h) (Or.inl ⟨by rfl, ?_⟩) (by assumption) ?_
        rotate_left 1
        · intro wx hSw
          go_simp <;> with_reducible rfl
        simp only [Act.put, List.getElem_toArray, List.getElem_cons_zero, List.getElem_cons_succ, List.setIfInBounds_toArray, List.set_cons_zero, List.set_cons_succ]
        refine Go.wpAnyH_take (i := 2) (oi := _) (v := ?_) rfl (by kernel_rfl) (by kernel_rfl) (by kernel_rfl) (fun _ _ _ h => h) (Or.inl ⟨by rfl, ?_⟩) (by assumption) ?_
        rotate_left 1
        · intro wx hSw
          go_simp <;> with_reducible rfl
        simp only [Act.put, List.getElem_toArray, List.getElem_cons_zero, List.getElem_cons_succ, List.setIfInBounds_toArray, List.set_cons_zero, List.set_cons_succ]
        refine Go.wpAnyH_take (i := 3) (oi := _) (v := ?_) rfl (by kernel_rfl) (by kernel_rfl) (by kernel_rfl) (fun _ _ _ h => h) (Or.inl ⟨by rfl, ?_⟩) (by assumption) ?_
        rotate_left 1
        · intro wx hSw
          go_simp <;> with_reducible rfl
        simp only [Act.put, List.getElem_toArray, List.getElem_cons_zero, List.getElem_cons_succ, List.setIfInBounds_toArray, List.set_cons_zero, List.set_cons_succ]
        refine Go.wpAnyH_take (i := 4) (oi := _) (v := ?_) rfl (by kernel_rfl) (by kernel_rfl) (by kernel_rfl) (fun _ _ _ h => h) (Or.inl ⟨by rfl, ?_⟩) (by assumption) ?_
        rotate_left 1
        · intro wx hSw
          go_simp <;> with_reducible rfl
        simp only [Act.put, List.getElem_toArray, List.getElem_cons_zero, List.getElem_cons_succ, List.setIfInBounds_toArray, List.set_cons_zero, List.set_cons_succ]
        refine Go.wpAnyH_take (i := 5) (oi := _) (v := ?_) rfl (by kernel_rfl) (by kernel_rfl) (by kernel_rfl) (fun _ _ _ h => h) (Or.inl ⟨by rfl, ?_⟩) (by assumption) ?_
        rotate_left 1
        · intro wx hSw
          go_simp <;> with_reducible rfl
        simp only [Act.put, List.getElem_toArray, List.getElem_cons_zero, List.getElem_cons_succ, List.setIfInBounds_toArray, List.set_cons_zero, List.set_cons_succ]
        refine Go.wpAnyH_take (i := 6) (oi := _) (v := ?_) rfl (by kernel_rfl) (by kernel_rfl) (by kernel_rfl) (fun _ _ _ h => h) (Or.inl ⟨by rfl, ?_⟩) (by assumption) ?_
        rotate_left 1
        · intro wx hSw
          go_simp <;> with_reducible rfl
        simp only [Act.put, List.getElem_toArray, List.getElem_cons_zero, List.getElem_cons_succ, List.setIfInBounds_toArray, List.set_cons_zero, List.set_cons_succ]
        refine Go.wpAnyH_take (i := 7) (oi := _) (v := ?_) rfl (by kernel_rfl) (by kernel_rfl) (by kernel_rfl) (fun _ _ _ h => h) (Or.inl ⟨by rfl, ?_⟩) (by assumption) ?_
        rotate_left 1
        · intro wx hSw
          go_simp <;> with_reducible rfl
        simp only [Act.put, List.getElem_toArray, List.getElem_cons_zero, List.getElem_cons_succ, List.setIfInBounds_toArray, List.set_cons_zero, List.set_cons_succ]
        refine Go.wpAnyH_take (i := 8) (oi := _) (v := ?_) rfl (by kernel_rfl) (by kernel_rfl) (by kernel_rfl) (fun _ _ _ h => h) (Or.inl ⟨by rfl, ?_⟩) (by assumption) ?_
        rotate_left 1
        · intro wx hSw
          go_simp <;> with_reducible rfl
        simp only [Act.put, List.getElem_toArray, List.getElem_cons_zero, List.getElem_cons_succ, List.setIfInBounds_toArray, List.set_cons_zero, List.set_cons_succ]
        refine Go.wpAnyH_take (i := 9) (oi := _) (v := ?_) rfl (by kernel_rfl) (by kernel_rfl) (by kernel_rfl) (fun _ _ _ h => h) (Or.inl ⟨by rfl, ?_⟩) (by assumption) ?_
        rotate_left 1
        · intro wx hSw
          go_simp <;> with_reducible rfl
        simp only [Act.put, List.getElem_toArray, List.getElem_cons_zero, List.getElem_cons_succ, List.setIfInBounds_toArray, List.set_cons_zero, List.set_cons_succ]
        refine Go.wpAnyH_ready (rs := [10]) (by kernel_rfl) (by simp) ?_
        refine Go.AllReadyH.cons rfl (fun K hK => ?_) Go.AllReadyH.nil
        rw [if_pos (by rfl)]
        go_simp
        refine (cX.out _ _ hHeld.1.out (Q.refl _)).mono ?_
        rintro e v10 ⟨rfl, q10⟩
        refine hK.out _ _ (sees.out _ (hHeld.1.out.trans q10)) (fun hHeld => ?_)
        clear hK K
        refine Go.wpAnyH_take (i := 11) (oi := _) (v := ?_) rfl (by kernel_rfl) (by kernel_rfl) (by kernel_rfl) (fun _ _ _ h => h) (Or.inl ⟨by rfl, ?_⟩) (by assumption) ?_
        rotate_left 1
        · intro wx hSw
          go_simp <;> with_reducible rfl
        simp only [Act.put, List.getElem_toArray, List.getElem_cons_zero, List.getElem_cons_succ, List.setIfInBounds_toArray, List.set_cons_zero, List.set_cons_succ]
        refine Go.wpAnyH_done (by kernel_rfl) ?_ _
        have Q10 := Lib.hid hHeld.1.out
        clear hHeld
        go_wp2_with fail
        go_ret
        exact ⟨rfl, Q0.out.trans Q10.out⟩
    have hb4 : (j : Int) < (n4 : Int) := by omega
    have f1 : decide (j < n4) = true := decide_eq_true hk4
    by_cases hm4 : j < m4
    rotate_left 1
    · have f2 : decide (j < m4) = false := decide_eq_false hm4
      have f3 : decide ((j : Int) < (m4 : Int)) = false := decide_eq_false (by omega)
      rw [show ks'.drop j = [] from List.drop_of_length_le (by have := HN.out; omega), show cH (ks.drop j) [] = 0 from (by cases ks.drop j <;> rfl), if_pos rfl] at hv2
      clear hk4 hm4
      by_cases hR0 : R = 0
      · obtain rfl : R = 0 := hR0
        have HV : Hid (cE (ks.drop (j + 1)) (ks'.drop (j + 1)) (l.drop (j + 1)) (l'.drop (j + 1)) = ANS) := Lib.hid (by rw [← hv2, if_pos rfl])
        clear hv2
        go_wp2_with fail
        go_quiet (fail)
        have QX : Hid (Q wb (wr.drewN nq)) := Lib.hid (hqj.out.trans (Q.drewN _ _))
        generalize wr.drewN nq = W2 at *
        clear u3 v3 u4 v4
        go_wp2_with fail
        have QW : Hid (Q wb W2) := Lib.hid (QX.out)
        have QD : Hid (Q wb W2.drew) := Lib.hid (QW.out.trans (Q.drewN W2 1))
        refine Go.wp_region_held_drew (S := (fun w' => Hid (Q wb w') ∧ w'.cell? ⟨B, 3, none⟩ = some (.slice (some ⟨p, po, none⟩) n3 k3) ∧ w'.cell? ⟨B', 3, none⟩ = some (.slice (some ⟨p', po', none⟩) m3 l3) ∧ w'.cell? ⟨p, po + j * 5, none⟩ = some (.int .i64 xk) ∧ w'.cell? ⟨p, po + j * 5 + 1, none⟩ = some (.int .i64 xn) ∧ w'.cell? ⟨p, po + j * 5 + 2, none⟩ = some (.string xs) ∧ w'.cell? ⟨p, po + j * 5 + 3, none⟩ = some (.slice C3 xl.length c3) ∧ w'.cell? ⟨p, po + j * 5 + 4, none⟩ = some (.slice C4 xks.length c4) ∧ w'.cell? ⟨p', po' + j * 5, none⟩ = some (.int .i64 yk) ∧ w'.cell? ⟨p', po' + j * 5 + 1, none⟩ = some (.int .i64 yn) ∧ w'.cell? ⟨p', po' + j * 5 + 2, none⟩ = some (.string ys) ∧ w'.cell? ⟨p', po' + j * 5 + 3, none⟩ = some (.slice D3 yl.length d3) ∧ w'.cell? ⟨p', po' + j * 5 + 4, none⟩ = some (.slice D4 yks.length d4))) (by kernel_rfl) (sees.out _ QD.out) (fun hHeld => ?_)
        refine Go.wpAnyH_take (i := 0) (oi := _) (v := ?_) rfl (by kernel_rfl) (by kernel_rfl) (by kernel_rfl) (fun _ _ _ h => h) (Or.inl ⟨by rfl, ?_⟩) (by assumption) ?_
        rotate_left 1
        · intro wx hSw
          go_simp <;> with_reducible rfl
        simp only [Act.put, List.getElem_toArray, List.getElem_cons_zero, List.setIfInBounds_toArray, List.set_cons_zero, List.set_cons_succ]
        refine Go.wpAnyH_take (i := 1) (oi := _) (v := ?_) rfl (by kernel_rfl) (by kernel_rfl) (by kernel_rfl) (fun _ _ _ h => h) (Or.inl ⟨by rfl, ?_⟩) (by assumption) ?_
        rotate_left 1
        · intro wx hSw
          go_simp <;> with_reducible rfl
        simp only [Act.put, List.getElem_toArray, List.getElem_cons_zero, List.getElem_cons_succ, List.setIfInBounds_toArray, List.set_cons_zero, List.set_cons_succ]
        refine Go.wpAnyH_take (i := 2) (oi := _) (v := ?_) rfl (by kernel_rfl) (by kernel_rfl) (by kernel_rfl) (fun _ _ _ h => h) (Or.inl ⟨by rfl, ?_⟩) (by assumption) ?_
        rotate_left 1
        · intro wx hSw
          go_simp <;> with_reducible rfl
        simp only [Act.put, List.getElem_toArray, List.getElem_cons_zero, List.getElem_cons_succ, List.setIfInBounds_toArray, List.set_cons_zero, List.set_cons_succ]
        refine Go.wpAnyH_take (i := 3) (oi := _) (v := ?_) rfl (by kernel_rfl) (by kernel_rfl) (by kernel_rfl) (fun _ _ _ h => h) (Or.inl ⟨by rfl, ?_⟩) (by assumption) ?_
        rotate_left 1
        · intro wx hSw
          go_simp <;> with_reducible rfl
        simp only [Act.put, List.getElem_toArray, List.getElem_cons_zero, List.getElem_cons_succ, List.setIfInBounds_toArray, List.set_cons_zero, List.set_cons_succ]
        refine Go.wpAnyH_take (i := 4) (oi := _) (v := ?_) rfl (by kernel_rfl) (by kernel_rfl) (by kernel_rfl) (fun _ _ _ h => h) (Or.inl ⟨by rfl, ?_⟩) (by assumption) ?_
        rotate_left 1
        · intro wx hSw
          go_simp <;> with_reducible rfl
        simp only [Act.put, List.getElem_toArray, List.getElem_cons_zero, List.getElem_cons_succ, List.setIfInBounds_toArray, List.set_cons_zero, List.set_cons_succ]
        refine Go.wpAnyH_take (i := 5) (oi := _) (v := ?_) rfl (by kernel_rfl) (by kernel_rfl) (by kernel_rfl) (fun _ _ _ h => h) (Or.inl ⟨by rfl, ?_⟩) (by assumption) ?_
        rotate_left 1
        · intro wx hSw
          go_simp <;> with_reducible rfl
        simp only [Act.put, List.getElem_toArray, List.getElem_cons_zero, List.getElem_cons_succ, List.setIfInBounds_toArray, List.set_cons_zero, List.set_cons_succ]
        refine Go.wpAnyH_take (i := 6) (oi := _) (v := ?_) rfl (by kernel_rfl) (by kernel_rfl) (by kernel_rfl) (fun _ _ _ h => h) (Or.inl ⟨by rfl, ?_⟩) (by assumption) ?_
        rotate_left 1
        · intro wx hSw
          go_simp <;> with_reducible rfl
        simp only [Act.put, List.getElem_toArray, List.getElem_cons_zero, List.getElem_cons_succ, List.setIfInBounds_toArray, List.set_cons_zero, List.set_cons_succ]
        refine Go.wpAnyH_take (i := 7) (oi := _) (v := ?_) rfl (by kernel_rfl) (by kernel_rfl) (by kernel_rfl) (fun _ _ _ h => h) (Or.inl ⟨by rfl, ?_⟩) (by assumption) ?_
        rotate_left 1
        · intro wx hSw
          go_simp <;> with_reducible rfl
        simp only [Act.put, List.getElem_toArray, List.getElem_cons_zero, List.getElem_cons_succ, List.setIfInBounds_toArray, List.set_cons_zero, List.set_cons_succ]
        refine Go.wpAnyH_take (i := 8) (oi := _) (v := ?_) rfl (by kernel_rfl) (by kernel_rfl) (by kernel_rfl) (fun _ _ _ h => h) (Or.inl ⟨by rfl, ?_⟩) (by assumption) ?_
        rotate_left 1
        · intro wx hSw
          go_simp <;> with_reducible rfl
        simp only [Act.put, List.getElem_toArray, List.getElem_cons_zero, List.getElem_cons_succ, List.setIfInBounds_toArray, List.set_cons_zero, List.set_cons_succ]
        refine Go.wpAnyH_take (i := 9) (oi := _) (v := ?_) rfl (by kernel_rfl) (by kernel_rfl) (by kernel_rfl) (fun _ _ _ h => h) (Or.inl ⟨by rfl, ?_⟩) (by assumption) ?_
        rotate_left 1
        · intro wx hSw
          go_simp <;> with_reducible rfl
        simp only [Act.put, List.getElem_toArray, List.getElem_cons_zero, List.getElem_cons_succ, List.setIfInBounds_toArray, List.set_cons_zero, List.set_cons_succ]
        refine Go.wpAnyH_ready (rs := [10]) (by kernel_rfl) (by simp) ?_
        refine Go.AllReadyH.cons rfl (fun K hK => ?_) Go.AllReadyH.nil
        rw [if_pos (by rfl)]
        go_simp
        refine (cX.out _ _ hHeld.1.out (Q.refl _)).mono ?_
        rintro e v10 ⟨rfl, q10⟩
        refine hK.out _ _ (sees.out _ (hHeld.1.out.trans q10)) (fun hHeld => ?_)
        clear hK K
        refine Go.wpAnyH_take (i := 11) (oi := _) (v := ?_) rfl (by kernel_rfl) (by kernel_rfl) (by kernel_rfl) (fun _ _ _ h => h) (Or.inl ⟨by rfl, ?_⟩) (by assumption) ?_
        rotate_left 1
        · intro wx hSw
          go_simp <;> with_reducible rfl
        simp only [Act.put, List.getElem_toArray, List.getElem_cons_zero, List.getElem_cons_succ, List.setIfInBounds_toArray, List.set_cons_zero, List.set_cons_succ]
        refine Go.wpAnyH_done (by kernel_rfl) ?_ _
        have Q10 := Lib.hid hHeld.1.out
        clear hHeld
        go_wp2_with fail
        go_round
        case rel => exact ⟨j + 1, hlt'.out.1, hlt'.out.2, by go_num, Q10, HV⟩
        case measure => have := hlt'.out.1; simp [intOf]; omega
      · have hR1 : (R != 0) = true := by simpa using hR0
        have hA : R = ANS := by rw [← hv2, if_neg hR0]
        subst hA
        clear hv2 hR0
        go_wp2_with fail
        go_quiet (fail)
        have QX : Hid (Q wb (wr.drewN nq)) := Lib.hid (hqj.out.trans (Q.drewN _ _))
        generalize wr.drewN nq = W2 at *
        clear u3 v3 u4 v4
        go_wp2_with fail
        have QW : Hid (Q wb W2) := Lib.hid (QX.out)
        have QD : Hid (Q wb W2.drew) := Lib.hid (QW.out.trans (Q.drewN W2 1))
        refine Go.wp_region_held_drew (S := (fun w' => Hid (Q wb w') ∧ w'.cell? ⟨B, 3, none⟩ = some (.slice (some ⟨p, po, none⟩) n3 k3) ∧ w'.cell? ⟨B', 3, none⟩ = some (.slice (some ⟨p', po', none⟩) m3 l3) ∧ w'.cell? ⟨p, po + j * 5, none⟩ = some (.int .i64 xk) ∧ w'.cell? ⟨p, po + j * 5 + 1, none⟩ = some (.int .i64 xn) ∧ w'.cell? ⟨p, po + j * 5 + 2, none⟩ = some (.string xs) ∧ w'.cell? ⟨p, po + j * 5 + 3, none⟩ = some (.slice C3 xl.length c3) ∧ w'.cell? ⟨p, po + j * 5 + 4, none⟩ = some (.slice C4 xks.length c4) ∧ w'.cell? ⟨p', po' + j * 5, none⟩ = some (.int .i64 yk) ∧ w'.cell? ⟨p', po' + j * 5 + 1, none⟩ = some (.int .i64 yn) ∧ w'.cell? ⟨p', po' + j * 5 + 2, none⟩ = some (.string ys) ∧ w'.cell? ⟨p', po' + j * 5 + 3, none⟩ = some (.slice D3 yl.length d3) ∧ w'.cell? ⟨p', po' + j * 5 + 4, none⟩ = some (.slice D4 yks.length d4))) (by kernel_rfl) (sees.out _ QD.out) (fun hHeld => ?_)
        refine Go.wpAnyH_take (i := 0) (oi := _) (v := ?_) rfl (by kernel_rfl) (by kernel_rfl) (by kernel_rfl) (fun _ _ _ h => h) (Or.inl ⟨by rfl, ?_⟩) (by assumption) ?_
        rotate_left 1
        · intro wx hSw
          go_simp <;> with_reducible rfl
        simp only [Act.put, List.getElem_toArray, List.getElem_cons_zero, List.setIfInBounds_toArray, List.set_cons_zero, List.set_cons_succ]
        refine Go.wpAnyH_take (i := 1) (oi := _) (v := ?_) rfl (by kernel_rfl) (by kernel_rfl) (by kernel_rfl) (fun _ _ _ h => h) (Or.inl ⟨by rfl, ?_⟩) (by assumption) ?_
        rotate_left 1
        · intro wx hSw
          go_simp <;> with_reducible rfl
        simp only [Act.put, List.getElem_toArray, List.getElem_cons_zero, List.getElem_cons_succ, List.setIfInBounds_toArray, List.set_cons_zero, List.set_cons_succ]
        refine Go.wpAnyH_take (i := 2) (oi := _) (v := ?_) rfl (by kernel_rfl) (by kernel_rfl) (by kernel_rfl) (fun _ _ _ h => h) (Or.inl ⟨by rfl, ?_⟩) (by assumption) ?_
        rotate_left 1
        · intro wx hSw
          go_simp <;> with_reducible rfl
        simp only [Act.put, List.getElem_toArray, List.getElem_cons_zero, List.getElem_cons_succ, List.setIfInBounds_toArray, List.set_cons_zero, List.set_cons_succ]
        refine Go.wpAnyH_take (i := 3) (oi := _) (v := ?_) rfl (by kernel_rfl) (by kernel_rfl) (by kernel_rfl) (fun _ _ _ h => h) (Or.inl ⟨by rfl, ?_⟩) (by assumption) ?_
        rotate_left 1
        · intro wx hSw
          go_simp <;> with_reducible rfl
        simp only [Act.put, List.getElem_toArray, List.getElem_cons_zero, List.getElem_cons_succ, List.setIfInBounds_toArray, List.set_cons_zero, List.set_cons_succ]
        refine Go.wpAnyH_take (i := 4) (oi := _) (v := ?_) rfl (by kernel_rfl) (by kernel_rfl) (by kernel_rfl) (fun _ _ _ h => h) (Or.inl ⟨by rfl, ?_⟩) (by assumption) ?_
        rotate_left 1
        · intro wx hSw
          go_simp <;> with_reducible rfl
        simp only [Act.put, List.getElem_toArray, List.getElem_cons_zero, List.getElem_cons_succ, List.setIfInBounds_toArray, List.set_cons_zero, List.set_cons_succ]
        refine Go.wpAnyH_take (i := 5) (oi := _) (v := ?_) rfl (by kernel_rfl) (by kernel_rfl) (by kernel_rfl) (fun _ _ _ h => h) (Or.inl ⟨by rfl, ?_⟩) (by assumption) ?_
        rotate_left 1
        · intro wx hSw
          go_simp <;> with_reducible rfl
        simp only [Act.put, List.getElem_toArray, List.getElem_cons_zero, List.getElem_cons_succ, List.setIfInBounds_toArray, List.set_cons_zero, List.set_cons_succ]
        refine Go.wpAnyH_take (i := 6) (oi := _) (v := ?_) rfl (by kernel_rfl) (by kernel_rfl) (by kernel_rfl) (fun _ _ _ h => h) (Or.inl ⟨by rfl, ?_⟩) (by assumption) ?_
        rotate_left 1
        · intro wx hSw
          go_simp <;> with_reducible rfl
        simp only [Act.put, List.getElem_toArray, List.getElem_cons_zero, List.getElem_cons_succ, List.setIfInBounds_toArray, List.set_cons_zero, List.set_cons_succ]
        refine Go.wpAnyH_take (i := 7) (oi := _) (v := ?_) rfl (by kernel_rfl) (by kernel_rfl) (by kernel_rfl) (fun _ _ _ h => h) (Or.inl ⟨by rfl, ?_⟩) (by assumption) ?_
        rotate_left 1
        · intro wx hSw
          go_simp <;> with_reducible rfl
        simp only [Act.put, List.getElem_toArray, List.getElem_cons_zero, List.getElem_cons_succ, List.setIfInBounds_toArray, List.set_cons_zero, List.set_cons_succ]
        refine Go.wpAnyH_take (i := 8) (oi := _) (v := ?_) rfl (by kernel_rfl) (by kernel_rfl) (by kernel_rfl) (fun _ _ _ h => h) (Or.inl ⟨by rfl, ?_⟩) (by assumption) ?_
        rotate_left 1
        · intro wx hSw
          go_simp <;> with_reducible rfl
        simp only [Act.put, List.getElem_toArray, List.getElem_cons_zero, List.getElem_cons_succ, List.setIfInBounds_toArray, List.set_cons_zero, List.set_cons_succ]
        refine Go.wpAnyH_take (i := 9) (oi := _) (v := ?_) rfl (by kernel_rfl) (by kernel_rfl) (by kernel_rfl) (fun _ _ _ h => h) (Or.inl ⟨by rfl, ?_⟩) (by assumption) ?_
        rotate_left 1
        · intro wx hSw
          go_simp <;> with_reducible rfl
        simp only [Act.put, List.getElem_toArray, List.getElem_cons_zero, List.getElem_cons_succ, List.setIfInBounds_toArray, List.set_cons_zero, List.set_cons_succ]
        refine Go.wpAnyH_ready (rs := [10]) (by kernel_rfl) (by simp) ?_
        refine Go.AllReadyH.cons rfl (fun K hK => ?_) Go.AllReadyH.nil
        rw [if_pos (by rfl)]
        go_simp
        refine (cX.out _ _ hHeld.1.out (Q.refl _)).mono ?_
        rintro e v10 ⟨rfl, q10⟩
        refine hK.out _ _ (sees.out _ (hHeld.1.out.trans q10)) (fun hHeld => ?_)
        clear hK K
        refine Go.wpAnyH_take (i := 11) (oi := _) (v := ?_) rfl (by kernel_rfl) (by kernel_rfl) (by kernel_rfl) (fun _ _ _ h => h) (Or.inl ⟨by rfl, ?_⟩) (by assumption) ?_
        rotate_left 1
        · intro wx hSw
          go_simp <;> with_reducible rfl
        simp only [Act.put, List.getElem_toArray, List.getElem_cons_zero, List.getElem_cons_succ, List.setIfInBounds_toArray, List.set_cons_zero, List.set_cons_succ]
        refine Go.wpAnyH_done (by kernel_rfl) ?_ _
        have Q10 := Lib.hid hHeld.1.out
        clear hHeld
        go_wp2_with fail
        go_ret
        exact ⟨rfl, Q0.out.trans Q10.out⟩
    have hb5 : (j : Int) < (m4 : Int) := by omega
    have f2 : decide (j < m4) = true := decide_eq_true hm4
    have g1 : j < ks.length := by have := HN.out; omega
    have g2 : j < ks'.length := by have := HN.out; omega
    obtain ⟨q, qo, rfl, kl⟩ := Ks.row HK.out (by omega)
    obtain ⟨q', qo', rfl, kl'⟩ := Ks.row HK'.out (by omega)
    have d1 := cell_stays (Q0.out.trans hqj.out) (kl j g1)
    have d2 := cell_stays (Q0.out.trans hqj.out) (kl' j g2)
    rw [List.drop_eq_getElem_cons g1, List.drop_eq_getElem_cons g2] at hv2
    have KL1 := Lib.hid (kl j g1)
    have KL2 := Lib.hid (kl' j g2)
    obtain ⟨x, hx⟩ : ∃ x, ks[j] = x := ⟨_, rfl⟩
    obtain ⟨y, hy⟩ : ∃ x, ks'[j] = x := ⟨_, rfl⟩
    rw [hx] at d1 hv2 KL1
    rw [hy] at d2 hv2 KL2
    have hv2 : (if cT x y = 0 then if R = 0 then cE (ks.drop (j + 1)) (ks'.drop (j + 1)) (l.drop (j + 1)) (l'.drop (j + 1)) else R else cT x y) = ANS := hv2
    clear hx hy kl kl' g1 g2 hk4 hm4
    by_cases hxy : x = y
    · subst hxy
      rw [if_pos ((tot_cT.zero x x).2 rfl)] at hv2
      by_cases hR0 : R = 0
      · obtain rfl : R = 0 := hR0
        have HV : Hid (cE (ks.drop (j + 1)) (ks'.drop (j + 1)) (l.drop (j + 1)) (l'.drop (j + 1)) = ANS) := Lib.hid (by rw [← hv2, if_pos rfl])
        clear hv2
        go_wp2_with fail
        go_quiet (fail)
        have QX : Hid (Q wb (wr.drewN nq)) := Lib.hid (hqj.out.trans (Q.drewN _ _))
        generalize wr.drewN nq = W2 at *
        clear u3 v3 u4 v4 d1 d2
        go_wp2_with fail
        have QW : Hid (Q wb W2) := Lib.hid (QX.out)
        have QD : Hid (Q wb W2.drew) := Lib.hid (QW.out.trans (Q.drewN W2 1))
        refine Go.wp_region_held_drew (S := (fun w' => Hid (Q wb w') ∧ w'.cell? ⟨B, 3, none⟩ = some (.slice (some ⟨p, po, none⟩) n3 k3) ∧ w'.cell? ⟨B', 3, none⟩ = some (.slice (some ⟨p', po', none⟩) m3 l3) ∧ w'.cell? ⟨p, po + j * 5, none⟩ = some (.int .i64 xk) ∧ w'.cell? ⟨p, po + j * 5 + 1, none⟩ = some (.int .i64 xn) ∧ w'.cell? ⟨p, po + j * 5 + 2, none⟩ = some (.string xs) ∧ w'.cell? ⟨p, po + j * 5 + 3, none⟩ = some (.slice C3 xl.length c3) ∧ w'.cell? ⟨p, po + j * 5 + 4, none⟩ = some (.slice C4 xks.length c4) ∧ w'.cell? ⟨p', po' + j * 5, none⟩ = some (.int .i64 yk) ∧ w'.cell? ⟨p', po' + j * 5 + 1, none⟩ = some (.int .i64 yn) ∧ w'.cell? ⟨p', po' + j * 5 + 2, none⟩ = some (.string ys) ∧ w'.cell? ⟨p', po' + j * 5 + 3, none⟩ = some (.slice D3 yl.length d3) ∧ w'.cell? ⟨p', po' + j * 5 + 4, none⟩ = some (.slice D4 yks.length d4))) (by kernel_rfl) (sees.out _ QD.out) (fun hHeld => ?_)
        refine Go.wpAnyH_take (i := 0) (oi := _) (v := ?_) rfl (by kernel_rfl) (by kernel_rfl) (by kernel_rfl) (fun _ _ _ h => h) (Or.inl ⟨by rfl, ?_⟩) (by assumption) ?_
        rotate_left 1
        · intro wx hSw
          go_simp <;> with_reducible rfl
        simp only [Act.put, List.getElem_toArray, List.getElem_cons_zero, List.setIfInBounds_toArray, List.set_cons_zero, List.set_cons_succ]
        refine Go.wpAnyH_take (i := 1) (oi := _) (v := ?_) rfl (by kernel_rfl) (by kernel_rfl) (by kernel_rfl) (fun _ _ _ h => h) (Or.inl ⟨by rfl, ?_⟩) (by assumption) ?_
        rotate_left 1
        · intro wx hSw
          go_simp <;> with_reducible rfl
        simp only [Act.put, List.getElem_toArray, List.getElem_cons_zero, List.getElem_cons_succ, List.setIfInBounds_toArray, List.set_cons_zero, List.set_cons_succ]
        refine Go.wpAnyH_take (i := 2) (oi := _) (v := ?_) rfl (by kernel_rfl) (by kernel_rfl) (by kernel_rfl) (fun _ _ _ h => h) (Or.inl ⟨by rfl, ?_⟩) (by assumption) ?_
        rotate_left 1
        · intro wx hSw
          go_simp <;> with_reducible rfl
        simp only [Act.put, List.getElem_toArray, List.getElem_cons_zero, List.getElem_cons_succ, List.setIfInBounds_toArray, List.set_cons_zero, List.set_cons_succ]
        refine Go.wpAnyH_take (i := 3) (oi := _) (v := ?_) rfl (by kernel_rfl) (by kernel_rfl) (by kernel_rfl) (fun _ _ _ h => h) (Or.inl ⟨by rfl, ?_⟩) (by assumption) ?_
        rotate_left 1
        · intro wx hSw
          go_simp <;> with_reducible rfl
        simp only [Act.put, List.getElem_toArray, List.getElem_cons_zero, List.getElem_cons_succ, List.setIfInBounds_toArray, List.set_cons_zero, List.set_cons_succ]
        refine Go.wpAnyH_take (i := 4) (oi := _) (v := ?_) rfl (by kernel_rfl) (by kernel_rfl) (by kernel_rfl) (fun _ _ _ h => h) (Or.inl ⟨by rfl, ?_⟩) (by assumption) ?_
        rotate_left 1
        · intro wx hSw
          go_simp <;> with_reducible rfl
        simp only [Act.put, List.getElem_toArray, List.getElem_cons_zero, List.getElem_cons_succ, List.setIfInBounds_toArray, List.set_cons_zero, List.set_cons_succ]
        refine Go.wpAnyH_take (i := 5) (oi := _) (v := ?_) rfl (by kernel_rfl) (by kernel_rfl) (by kernel_rfl) (fun _ _ _ h => h) (Or.inl ⟨by rfl, ?_⟩) (by assumption) ?_
        rotate_left 1
        · intro wx hSw
          go_simp <;> with_reducible rfl
        simp only [Act.put, List.getElem_toArray, List.getElem_cons_zero, List.getElem_cons_succ, List.setIfInBounds_toArray, List.set_cons_zero, List.set_cons_succ]
        refine Go.wpAnyH_take (i := 6) (oi := _) (v := ?_) rfl (by kernel_rfl) (by kernel_rfl) (by kernel_rfl) (fun _ _ _ h => h) (Or.inl ⟨by rfl, ?_⟩) (by assumption) ?_
        rotate_left 1
        · intro wx hSw
          go_simp <;> with_reducible rfl
        simp only [Act.put, List.getElem_toArray, List.getElem_cons_zero, List.getElem_cons_succ, List.setIfInBounds_toArray, List.set_cons_zero, List.set_cons_succ]
        refine Go.wpAnyH_take (i := 7) (oi := _) (v := ?_) rfl (by kernel_rfl) (by kernel_rfl) (by kernel_rfl) (fun _ _ _ h => h) (Or.inl ⟨by rfl, ?_⟩) (by assumption) ?_
        rotate_left 1
        · intro wx hSw
          go_simp <;> with_reducible rfl
        simp only [Act.put, List.getElem_toArray, List.getElem_cons_zero, List.getElem_cons_succ, List.setIfInBounds_toArray, List.set_cons_zero, List.set_cons_succ]
        refine Go.wpAnyH_take (i := 8) (oi := _) (v := ?_) rfl (by kernel_rfl) (by kernel_rfl) (by kernel_rfl) (fun _ _ _ h => h) (Or.inl ⟨by rfl, ?_⟩) (by assumption) ?_
        rotate_left 1
        · intro wx hSw
          go_simp <;> with_reducible rfl
        simp only [Act.put, List.getElem_toArray, List.getElem_cons_zero, List.getElem_cons_succ, List.setIfInBounds_toArray, List.set_cons_zero, List.set_cons_succ]
        refine Go.wpAnyH_take (i := 9) (oi := _) (v := ?_) rfl (by kernel_rfl) (by kernel_rfl) (by kernel_rfl) (fun _ _ _ h => h) (Or.inl ⟨by rfl, ?_⟩) (by assumption) ?_
        rotate_left 1
        · intro wx hSw
          go_simp <;> with_reducible rfl
        simp only [Act.put, List.getElem_toArray, List.getElem_cons_zero, List.getElem_cons_succ, List.setIfInBounds_toArray, List.set_cons_zero, List.set_cons_succ]
        refine Go.wpAnyH_ready (rs := [10]) (by kernel_rfl) (by simp) ?_
        refine Go.AllReadyH.cons rfl (fun K hK => ?_) Go.AllReadyH.nil
        rw [if_pos (by rfl)]
        go_simp
        refine (cX.out _ _ hHeld.1.out (Q.refl _)).mono ?_
        rintro e v10 ⟨rfl, q10⟩
        refine hK.out _ _ (sees.out _ (hHeld.1.out.trans q10)) (fun hHeld => ?_)
        clear hK K
        refine Go.wpAnyH_take (i := 11) (oi := _) (v := ?_) rfl (by kernel_rfl) (by kernel_rfl) (by kernel_rfl) (fun _ _ _ h => h) (Or.inl ⟨by rfl, ?_⟩) (by assumption) ?_
        rotate_left 1
        · intro wx hSw
          go_simp <;> with_reducible rfl
        simp only [Act.put, List.getElem_toArray, List.getElem_cons_zero, List.getElem_cons_succ, List.setIfInBounds_toArray, List.set_cons_zero, List.set_cons_succ]
        refine Go.wpAnyH_done (by kernel_rfl) ?_ _
        have Q10 := Lib.hid hHeld.1.out
        clear hHeld
        go_wp2_with fail
        go_round
        case rel => exact ⟨j + 1, hlt'.out.1, hlt'.out.2, by go_num, Q10, HV⟩
        case measure => have := hlt'.out.1; simp [intOf]; omega
      · have hR1 : (R != 0) = true := by simpa using hR0
        have hA : R = ANS := by rw [← hv2, if_neg hR0]
        subst hA
        clear hv2 hR0
        go_wp2_with fail
        go_quiet (fail)
        have QX : Hid (Q wb (wr.drewN nq)) := Lib.hid (hqj.out.trans (Q.drewN _ _))
        generalize wr.drewN nq = W2 at *
        clear u3 v3 u4 v4 d1 d2
        go_wp2_with fail
        have QW : Hid (Q wb W2) := Lib.hid (QX.out)
        have QD : Hid (Q wb W2.drew) := Lib.hid (QW.out.trans (Q.drewN W2 1))
        refine Go.wp_region_held_drew (S := (fun w' => Hid (Q wb w') ∧ w'.cell? ⟨B, 3, none⟩ = some (.slice (some ⟨p, po, none⟩) n3 k3) ∧ w'.cell? ⟨B', 3, none⟩ = some (.slice (some ⟨p', po', none⟩) m3 l3) ∧ w'.cell? ⟨p, po + j * 5, none⟩ = some (.int .i64 xk) ∧ w'.cell? ⟨p, po + j * 5 + 1, none⟩ = some (.int .i64 xn) ∧ w'.cell? ⟨p, po + j * 5 + 2, none⟩ = some (.string xs) ∧ w'.cell? ⟨p, po + j * 5 + 3, none⟩ = some (.slice C3 xl.length c3) ∧ w'.cell? ⟨p, po + j * 5 + 4, none⟩ = some (.slice C4 xks.length c4) ∧ w'.cell? ⟨p', po' + j * 5, none⟩ = some (.int .i64 yk) ∧ w'.cell? ⟨p', po' + j * 5 + 1, none⟩ = some (.int .i64 yn) ∧ w'.cell? ⟨p', po' + j * 5 + 2, none⟩ = some (.string ys) ∧ w'.cell? ⟨p', po' + j * 5 + 3, none⟩ = some (.slice D3 yl.length d3) ∧ w'.cell? ⟨p', po' + j * 5 + 4, none⟩ = some (.slice D4 yks.length d4))) (by kernel_rfl) (sees.out _ QD.out) (fun hHeld => ?_)
        refine Go.wpAnyH_take (i := 0) (oi := _) (v := ?_) rfl (by kernel_rfl) (by kernel_rfl) (by kernel_rfl) (fun _ _ _ h => h) (Or.inl ⟨by rfl, ?_⟩) (by assumption) ?_
        rotate_left 1
        · intro wx hSw
          go_simp <;> with_reducible rfl
        simp only [Act.put, List.getElem_toArray, List.getElem_cons_zero, List.setIfInBounds_toArray, List.set_cons_zero, List.set_cons_succ]
        refine Go.wpAnyH_take (i := 1) (oi := _) (v := ?_) rfl (by kernel_rfl) (by kernel_rfl) (by kernel_rfl) (fun _ _ _ h => h) (Or.inl ⟨by rfl, ?_⟩) (by assumption) ?_
        rotate_left 1
        · intro wx hSw
          go_simp <;> with_reducible rfl
        simp only [Act.put, List.getElem_toArray, List.getElem_cons_zero, List.getElem_cons_succ, List.setIfInBounds_toArray, List.set_cons_zero, List.set_cons_succ]
        refine Go.wpAnyH_take (i := 2) (oi := _) (v := ?_) rfl (by kernel_rfl) (by kernel_rfl) (by kernel_rfl) (fun _ _ _ h => h) (Or.inl ⟨by rfl, ?_⟩) (by assumption) ?_
        rotate_left 1
        · intro wx hSw
          go_simp <;> with_reducible rfl
        simp only [Act.put, List.getElem_toArray, List.getElem_cons_zero, List.getElem_cons_succ, List.setIfInBounds_toArray, List.set_cons_zero, List.set_cons_succ]
        refine Go.wpAnyH_take (i := 3) (oi := _) (v := ?_) rfl (by kernel_rfl) (by kernel_rfl) (by kernel_rfl) (fun _ _ _ h => h) (Or.inl ⟨by rfl, ?_⟩) (by assumption) ?_
        rotate_left 1
        · intro wx hSw
          go_simp <;> with_reducible rfl
        simp only [Act.put, List.getElem_toArray, List.getElem_cons_zero, List.getElem_cons_succ, List.setIfInBounds_toArray, List.set_cons_zero, List.set_cons_succ]
        refine Go.wpAnyH_take (i := 4) (oi := _) (v := ?_) rfl (by kernel_rfl) (by kernel_rfl) (by kernel_rfl) (fun _ _ _ h => h) (Or.inl ⟨by rfl, ?_⟩) (by assumption) ?_
        rotate_left 1
        · intro wx hSw
          go_simp <;> with_reducible rfl
        simp only [Act.put, List.getElem_toArray, List.getElem_cons_zero, List.getElem_cons_succ, List.setIfInBounds_toArray, List.set_cons_zero, List.set_cons_succ]
        refine Go.wpAnyH_take (i := 5) (oi := _) (v := ?_) rfl (by kernel_rfl) (by kernel_rfl) (by kernel_rfl) (fun _ _ _ h => h) (Or.inl ⟨by rfl, ?_⟩) (by assumption) ?_
        rotate_left 1
        · intro wx hSw
          go_simp <;> with_reducible rfl
        simp only [Act.put, List.getElem_toArray, List.getElem_cons_zero, List.getElem_cons_succ, List.setIfInBounds_toArray, List.set_cons_zero, List.set_cons_succ]
        refine Go.wpAnyH_take (i := 6) (oi := _) (v := ?_) rfl (by kernel_rfl) (by kernel_rfl) (by kernel_rfl) (fun _ _ _ h => h) (Or.inl ⟨by rfl, ?_⟩) (by assumption) ?_
        rotate_left 1
        · intro wx hSw
          go_simp <;> with_reducible rfl
        simp only [Act.put, List.getElem_toArray, List.getElem_cons_zero, List.getElem_cons_succ, List.setIfInBounds_toArray, List.set_cons_zero, List.set_cons_succ]
        refine Go.wpAnyH_take (i := 7) (oi := _) (v := ?_) rfl (by kernel_rfl) (by kernel_rfl) (by kernel_rfl) (fun _ _ _ h => h) (Or.inl ⟨by rfl, ?_⟩) (by assumption) ?_
        rotate_left 1
        · intro wx hSw
          go_simp <;> with_reducible rfl
        simp only [Act.put, List.getElem_toArray, List.getElem_cons_zero, List.getElem_cons_succ, List.setIfInBounds_toArray, List.set_cons_zero, List.set_cons_succ]
        refine Go.wpAnyH_take (i := 8) (oi := _) (v := ?_) rfl (by kernel_rfl) (by kernel_rfl) (by kernel_rfl) (fun _ _ _ h => h) (Or.inl ⟨by rfl, ?_⟩) (by assumption) ?_
        rotate_left 1
        · intro wx hSw
          go_simp <;> with_reducible rfl
        simp only [Act.put, List.getElem_toArray, List.getElem_cons_zero, List.getElem_cons_succ, List.setIfInBounds_toArray, List.set_cons_zero, List.set_cons_succ]
        refine Go.wpAnyH_take (i := 9) (oi := _) (v := ?_) rfl (by kernel_rfl) (by kernel_rfl) (by kernel_rfl) (fun _ _ _ h => h) (Or.inl ⟨by rfl, ?_⟩) (by assumption) ?_
        rotate_left 1
        · intro wx hSw
          go_simp <;> with_reducible rfl
        simp only [Act.put, List.getElem_toArray, List.getElem_cons_zero, List.getElem_cons_succ, List.setIfInBounds_toArray, List.set_cons_zero, List.set_cons_succ]
        refine Go.wpAnyH_ready (rs := [10]) (by kernel_rfl) (by simp) ?_
        refine Go.AllReadyH.cons rfl (fun K hK => ?_) Go.AllReadyH.nil
        rw [if_pos (by rfl)]
        go_simp
        refine (cX.out _ _ hHeld.1.out (Q.refl _)).mono ?_
        rintro e v10 ⟨rfl, q10⟩
        refine hK.out _ _ (sees.out _ (hHeld.1.out.trans q10)) (fun hHeld => ?_)
        clear hK K
        refine Go.wpAnyH_take (i := 11) (oi := _) (v := ?_) rfl (by kernel_rfl) (by kernel_rfl) (by kernel_rfl) (fun _ _ _ h => h) (Or.inl ⟨by rfl, ?_⟩) (by assumption) ?_
        rotate_left 1
        · intro wx hSw
          go_simp <;> with_reducible rfl
        simp only [Act.put, List.getElem_toArray, List.getElem_cons_zero, List.getElem_cons_succ, List.setIfInBounds_toArray, List.set_cons_zero, List.set_cons_succ]
        refine Go.wpAnyH_done (by kernel_rfl) ?_ _
        have Q10 := Lib.hid hHeld.1.out
        clear hHeld
        go_wp2_with fail
        go_ret
        exact ⟨rfl, Q0.out.trans Q10.out⟩
    · have f4 : (x.toList == y.toList) = false := by rw [same_cT]; exact decide_eq_false (fun h => hxy ((tot_cT.zero _ _).1 h))
      rw [if_neg (fun h => hxy ((tot_cT.zero _ _).1 h))] at hv2
      subst hv2
      have sees2 : Hid (∀ w', Q wb w' → Hid (Q wb w') ∧ w'.cell? ⟨B, 4, none⟩ = some (.slice (some ⟨q, qo, none⟩) n4 k4) ∧ w'.cell? ⟨B', 4, none⟩ = some (.slice (some ⟨q', qo', none⟩) m4 l4) ∧ w'.cell? ⟨q, qo + j, none⟩ = some (.string x) ∧ w'.cell? ⟨q', qo' + j, none⟩ = some (.string y)) := Lib.hid (fun w' p => ⟨Lib.hid p, (BA.out.stays p).at 4 _ rfl, (BB.out.stays p).at 4 _ rfl, cell_stays (Q0.out.trans p) KL1.out, cell_stays (Q0.out.trans p) KL2.out⟩)
      clear hxy
      go_wp2_with fail
      go_quiet (fail)
      have QX : Hid (Q wb (wr.drewN nq)) := Lib.hid (hqj.out.trans (Q.drewN _ _))
      generalize wr.drewN nq = W2 at *
      clear u3 v3 u4 v4 d1 d2
      go_wp2_with fail
      have QD : Hid (Q wb W2.drew) := Lib.hid (QX.out.trans (Q.drewN W2 1))
      refine Go.wp_region_held_drew (S := (fun w' => Hid (Q wb w') ∧ w'.cell? ⟨B, 4, none⟩ = some (.slice (some ⟨q, qo, none⟩) n4 k4) ∧ w'.cell? ⟨B', 4, none⟩ = some (.slice (some ⟨q', qo', none⟩) m4 l4) ∧ w'.cell? ⟨q, qo + j, none⟩ = some (.string x) ∧ w'.cell? ⟨q', qo' + j, none⟩ = some (.string y))) (by kernel_rfl) (sees2.out _ QD.out) (fun hHeld => ?_)
      refine Go.wpAnyH_take (i := 0) (oi := _) (v := ?_) rfl (by kernel_rfl) (by kernel_rfl) (by kernel_rfl) (fun _ _ _ h => h) (Or.inl ⟨by rfl, ?_⟩) (by assumption) ?_
      rotate_left 1
      · intro wx hSw
        go_simp <;> with_reducible rfl
      simp only [Act.put, List.getElem_toArray, List.getElem_cons_zero, List.setIfInBounds_toArray, List.set_cons_zero, List.set_cons_succ]
      refine Go.wpAnyH_take (i := 1) (oi := _) (v := ?_) rfl (by kernel_rfl) (by kernel_rfl) (by kernel_rfl) (fun _ _ _ h => h) (Or.inl ⟨by rfl, ?_⟩) (by assumption) ?_
      rotate_left 1
      · intro wx hSw
        go_simp <;> with_reducible rfl
      simp only [Act.put, List.getElem_toArray, List.getElem_cons_zero, List.getElem_cons_succ, List.setIfInBounds_toArray, List.set_cons_zero, List.set_cons_succ]
      refine Go.wpAnyH_take (i := 2) (oi := _) (v := ?_) rfl (by kernel_rfl) (by kernel_rfl) (by kernel_rfl) (fun _ _ _ h => h) (Or.inl ⟨by rfl, ?_⟩) (by assumption) ?_
      rotate_left 1
      · intro wx hSw
        go_simp <;> with_reducible rfl
      simp only [Act.put, List.getElem_toArray, List.getElem_cons_zero, List.getElem_cons_succ, List.setIfInBounds_toArray, List.set_cons_zero, List.set_cons_succ]
      refine Go.wpAnyH_take (i := 3) (oi := _) (v := ?_) rfl (by kernel_rfl) (by kernel_rfl) (by kernel_rfl) (fun _ _ _ h => h) (Or.inl ⟨by rfl, ?_⟩) (by assumption) ?_
      rotate_left 1
      · intro wx hSw
        go_simp <;> with_reducible rfl
      simp only [Act.put, List.getElem_toArray, List.getElem_cons_zero, List.getElem_cons_succ, List.setIfInBounds_toArray, List.set_cons_zero, List.set_cons_succ]
      refine Go.wpAnyH_take (i := 4) (oi := _) (v := ?_) rfl (by kernel_rfl) (by kernel_rfl) (by kernel_rfl) (fun _ _ _ h => h) (Or.inl ⟨by rfl, ?_⟩) (by assumption) ?_
      rotate_left 1
      · intro wx hSw
        go_simp <;> with_reducible rfl
      simp only [Act.put, List.getElem_toArray, List.getElem_cons_zero, List.getElem_cons_succ, List.setIfInBounds_toArray, List.set_cons_zero, List.set_cons_succ]
      refine Go.wpAnyH_take (i := 5) (oi := _) (v := ?_) rfl (by kernel_rfl) (by kernel_rfl) (by kernel_rfl) (fun _ _ _ h => h) (Or.inl ⟨by rfl, ?_⟩) (by assumption) ?_
      rotate_left 1
      · intro wx hSw
        go_simp <;> with_reducible rfl
      simp only [Act.put, List.getElem_toArray, List.getElem_cons_zero, List.getElem_cons_succ, List.setIfInBounds_toArray, List.set_cons_zero, List.set_cons_succ]
      refine Go.wpAnyH_take (i := 6) (oi := _) (v := ?_) rfl (by kernel_rfl) (by kernel_rfl) (by kernel_rfl) (fun _ _ _ h => h) (Or.inl ⟨by rfl, ?_⟩) (by assumption) ?_
      rotate_left 1
      · intro wx hSw
        go_simp <;> with_reducible rfl
      simp only [Act.put, List.getElem_toArray, List.getElem_cons_zero, List.getElem_cons_succ, List.setIfInBounds_toArray, List.set_cons_zero, List.set_cons_succ]
      refine Go.wpAnyH_take (i := 7) (oi := _) (v := ?_) rfl (by kernel_rfl) (by kernel_rfl) (by kernel_rfl) (fun _ _ _ h => h) (Or.inl ⟨by rfl, ?_⟩) (by assumption) ?_
      rotate_left 1
      · intro wx hSw
        go_simp <;> with_reducible rfl
      simp only [Act.put, List.getElem_toArray, List.getElem_cons_zero, List.getElem_cons_succ, List.setIfInBounds_toArray, List.set_cons_zero, List.set_cons_succ]
      refine Go.wpAnyH_take (i := 8) (oi := _) (v := ?_) rfl (by kernel_rfl) (by kernel_rfl) (by kernel_rfl) (fun _ _ _ h => h) (Or.inl ⟨by rfl, ?_⟩) (by assumption) ?_
      rotate_left 1
      · intro wx hSw
        go_simp <;> with_reducible rfl
      simp only [Act.put, List.getElem_toArray, List.getElem_cons_zero, List.getElem_cons_succ, List.setIfInBounds_toArray, List.set_cons_zero, List.set_cons_succ]
      refine Go.wpAnyH_take (i := 9) (oi := _) (v := ?_) rfl (by kernel_rfl) (by kernel_rfl) (by kernel_rfl) (fun _ _ _ h => h) (Or.inl ⟨by rfl, ?_⟩) (by assumption) ?_
      rotate_left 1
      · intro wx hSw
        go_simp <;> with_reducible rfl
      simp only [Act.put, List.getElem_toArray, List.getElem_cons_zero, List.getElem_cons_succ, List.setIfInBounds_toArray, List.set_cons_zero, List.set_cons_succ]
      refine Go.wpAnyH_ready (rs := [10]) (by kernel_rfl) (by simp) ?_
      refine Go.AllReadyH.cons rfl (fun K hK => ?_) Go.AllReadyH.nil
      rw [if_pos (by rfl)]
      go_simp
      refine (cB.out _ _ _).mono ?_
      rintro e v10 ⟨rfl, q10⟩
      refine hK.out _ _ (sees2.out _ (hHeld.1.out.trans q10)) (fun hHeld => ?_)
      clear hK K
      refine Go.wpAnyH_take (i := 11) (oi := _) (v := ?_) rfl (by kernel_rfl) (by kernel_rfl) (by kernel_rfl) (fun _ _ _ h => h) (Or.inl ⟨by rfl, ?_⟩) (by assumption) ?_
      rotate_left 1
      · intro wx hSw
        go_simp <;> with_reducible rfl
      simp only [Act.put, List.getElem_toArray, List.getElem_cons_zero, List.getElem_cons_succ, List.setIfInBounds_toArray, List.set_cons_zero, List.set_cons_succ]
      refine Go.wpAnyH_done (by kernel_rfl) ?_ _
      have Q10 := Lib.hid hHeld.1.out
      clear hHeld
      go_wp2_with fail
      go_ret
      exact ⟨rfl, Q0.out.trans Q10.out⟩


end Go.Proofs.YtjmchjphdfbhiaaGreatDoor.val
