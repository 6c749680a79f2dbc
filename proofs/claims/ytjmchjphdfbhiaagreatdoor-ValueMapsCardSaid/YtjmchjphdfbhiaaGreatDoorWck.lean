/- The reference's check and Check. -/
import Derived.Test.YtjmchjphdfbhiaaGreatDoorWnd
namespace Go.Proofs.YtjmchjphdfbhiaaGreatDoor.val
open Go.RowKit
open Go.Proofs.YtjmchjphdfbhiaaGreatDoor
/-- What the reference's check returns. -/
def CkC (v : V) : Prop := ∀ (A3 : Option Addr) (k3 : Nat) (A4 : Option Addr) (k4 : Nat) (lv bf : Nat) (w : World), Va v A3 k3 A4 k4 w → lv ≤ 1000 → bf ≤ 4096 →
  Calls Tryz.prog 48 #[vv v A3 k3 A4 k4, .int .i64 lv, .int .i64 bf] w fun e w' => e = .returned (.tuple #[.int .i64 (chkV v lv bf).1, .int .i64 ((chkV v lv bf).2 : Nat)]) ∧ Q w w'
set_option maxRecDepth 100000 in
set_option maxHeartbeats 4000000 in
theorem rcheck_any : ∀ v : V, CkC v := by
  refine V.ind (fun v ih => ?_)
  intro A3 k3 A4 k4 lv bf w hV hlv hbf
  have IH : Hid (∀ x ∈ v.items, CkC x) := Lib.hid ih
  have cN := Lib.hid (fun w' (q : Q w w') => node_any v A3 k3 A4 k4 w' (hV.stays q))
  obtain ⟨hi, hk, hw⟩ := hV
  have hwl : WfL v.items := hw.items
  have hlm : v.items.length ≤ maxLen := ((Wf_iff _).1 hw).2.2.2.1
  obtain ⟨vk, vn, vs, l, ks⟩ := v
  have hi : Is (.slice A3 l.length k3) l w := hi
  have IH : Hid (∀ x ∈ l, CkC x) := IH
  have hwl : WfL l := hwl
  have hlm : l.length ≤ maxLen := hlm
  have cN : Hid (∀ w', Q w w' → Calls Tryz.prog 72 #[.agg #[.int .i64 vk, .int .i64 vn, .string vs, .slice A3 l.length k3, .slice A4 ks.length k4]] w' fun e w'' => e = .returned (.int .i64 (nodeE vk vn vs l ks)) ∧ Q w' w'') := cN
  rw [chkV_eq]
  show Calls Tryz.prog 48 #[.agg #[.int .i64 vk, .int .i64 vn, .string vs, .slice A3 l.length k3, .slice A4 ks.length k4], .int .i64 lv, .int .i64 bf] w _
  obtain ⟨E, hE⟩ : ∃ E, nodeE vk vn vs l ks = E := ⟨_, rfl⟩
  rw [hE] at cN ⊢
  obtain ⟨n4, hn4⟩ : ∃ n, ks.length = n := ⟨_, rfl⟩
  obtain ⟨n3, hn3⟩ : ∃ n, l.length = n := ⟨_, rfl⟩
  rw [hn3] at hi hlm cN
  rw [hn4] at cN
  rw [hn3, hn4]
  obtain ⟨B, hB⟩ : ∃ B, w.heap.size = B := ⟨_, rfl⟩
  obtain ⟨wb, hwb⟩ : ∃ wb, w.alloc (.cells #[.int .i64 vk, .int .i64 vn, .string vs, .slice A3 n3 k3, .slice A4 n4 k4] 26) = wb := ⟨_, rfl⟩
  have q0 : Q w wb := by rw [← hwb]; exact Q.box _ _
  have bB : Bk B #[.int .i64 vk, .int .i64 vn, .string vs, .slice A3 n3 k3, .slice A4 n4 k4] 26 wb := by rw [← hwb, ← hB]; exact Bk.new _ _ _
  have x0 := bB.at 0 _ rfl
  have x1 := bB.at 1 _ rfl
  have x2 := bB.at 2 _ rfl
  have x3 := bB.at 3 _ rfl
  have x4 := bB.at 4 _ rfl
  have HI := Lib.hid hi
  have HW := Lib.hid hwl
  have HN := Lib.hid hn3
  have Q0 := Lib.hid q0
  have BB := Lib.hid bB
  have hn3b : (n3 : Int) ≤ 9223372036854775807 := by unfold maxLen at hlm; omega
  clear hi hk hw hwl hlm hn4 hn3 q0 bB ih hE
  by_cases h1 : 32 < lv
  · rw [if_pos h1]
    have h1' : decide ((32 : Int) < (lv : Int)) = true := decide_eq_true (by omega)
    clear h1
    go_enter Tryz.func48, Tryz.ntmps48
    go_wp2_with fail
    go_ret2
    exact ⟨rfl, Q0.out⟩
  rw [if_neg h1]
  have h1' : decide ((32 : Int) < (lv : Int)) = false := decide_eq_false (by omega)
  by_cases h2 : 4096 ≤ bf
  · rw [if_pos h2]
    have h2' : decide ((4096 : Int) ≤ (bf : Int)) = true := decide_eq_true (by omega)
    clear h1 h2
    go_enter Tryz.func48, Tryz.ntmps48
    go_wp2_with fail
    go_ret2
    exact ⟨rfl, Q0.out⟩
  rw [if_neg h2]
  have h2' : decide ((4096 : Int) ≤ (bf : Int)) = false := decide_eq_false (by omega)
  by_cases hE0 : E = 0
  · subst hE0
    rw [if_pos rfl]
    obtain ⟨ANS, hANS⟩ : ∃ a, chkL l (lv + 1) (bf + 1) = a := ⟨_, rfl⟩
    rw [hANS]
    obtain ⟨a1, a2⟩ := ANS
    have H0 : Hid (chkL (l.drop 0) (lv + 1) (bf + 1) = (a1, a2) ∧ bf + 1 ≤ 4096) := Lib.hid ⟨by rw [List.drop_zero]; exact hANS, by omega⟩
    have hlz : Hid (lv + 1 ≤ 1000) := Lib.hid (by omega)
    clear h1 h2 hANS
    go_enter Tryz.func48, Tryz.ntmps48
    go_wp2_with fail
    refine (cN.out _ Q0.out).mono ?_
    rintro e w1 ⟨rfl, q1⟩
    have Q1 := Lib.hid q1
    clear x0 x1 x2 x3 x4 q1 hwb
    go_wp2_with fail
    go_loopw [9, 10] (fun n i wr => ∃ (k z : Nat), k ≤ n3 ∧ n = .int .i64 z ∧ i = .int .i64 k ∧ Hid (Q wb wr) ∧ Hid (chkL (l.drop k) (lv + 1) z = (a1, a2) ∧ z ≤ 4096)) (fun _ i _ => n3 - (intOf i).toNat)
    case atStart => exact ⟨0, bf + 1, Nat.zero_le _, by go_num, rfl, Q1, H0⟩
    case round =>
      obtain ⟨k, z, hk, rfl, rfl, hq, hv⟩ := hrel
      have b1 := BB.out.stays hq.out
      have u3 := b1.at 3 _ rfl
      by_cases hlt : k < n3
      · have hkz : (k : Int) < (n3 : Int) := by omega
        have hltl : k < l.length := by have := HN.out; omega
        obtain ⟨b, o, rfl, hit⟩ := Is.item HI.out HW.out (by omega)
        obtain ⟨B3, d3, B4, d4, it⟩ := hit k hltl
        have it1 := it.stays (Q0.out.trans hq.out)
        have hv2 := hv.out.1
        rw [List.drop_eq_getElem_cons hltl, chkL_cons] at hv2
        have cX := Lib.hid (IH.out l[k] (List.getElem_mem hltl) B3 d3 B4 d4 (lv + 1) z wr it1.va hlz.out hv.out.2)
        have hle := (check_both.1 l[k] (lv + 1) z hv.out.2).1
        obtain ⟨x, hx⟩ : ∃ x, l[k] = x := ⟨_, rfl⟩
        rw [hx] at it1 hv2 cX hle
        obtain ⟨xk, xn, xs, xl, xks⟩ := x
        have i0 : wr.cell? ⟨b, o + k * 5, none⟩ = some (.int .i64 xk) := it1.k
        have i1 : wr.cell? ⟨b, o + k * 5 + 1, none⟩ = some (.int .i64 xn) := it1.n
        have i2 : wr.cell? ⟨b, o + k * 5 + 2, none⟩ = some (.string xs) := it1.s
        have i3 : wr.cell? ⟨b, o + k * 5 + 3, none⟩ = some (.slice B3 xl.length d3) := it1.l
        have i4 : wr.cell? ⟨b, o + k * 5 + 4, none⟩ = some (.slice B4 xks.length d4) := it1.ks
        have cX : Hid (Calls Tryz.prog 48 #[.agg #[.int .i64 xk, .int .i64 xn, .string xs, .slice B3 xl.length d3, .slice B4 xks.length d4], .int .i64 ((lv + 1 : Nat) : Int), .int .i64 (z : Nat)] wr fun e w' => e = .returned (.tuple #[.int .i64 (chkV ⟨xk, xn, xs, xl, xks⟩ (lv + 1) z).1, .int .i64 ((chkV ⟨xk, xn, xs, xl, xks⟩ (lv + 1) z).2 : Nat)]) ∧ Q wr w') := cX
        rw [show ((lv + 1 : Nat) : Int) = (lv : Int) + 1 by omega] at cX
        obtain ⟨r, hr⟩ : ∃ a, chkV ⟨xk, xn, xs, xl, xks⟩ (lv + 1) z = a := ⟨_, rfl⟩
        rw [hr] at hv2 cX hle
        obtain ⟨r1, r2⟩ := r
        have cX : Hid (Calls Tryz.prog 48 #[.agg #[.int .i64 xk, .int .i64 xn, .string xs, .slice B3 xl.length d3, .slice B4 xks.length d4], .int .i64 ((lv : Int) + 1), .int .i64 (z : Nat)] wr fun e w' => e = .returned (.tuple #[.int .i64 r1, .int .i64 (r2 : Nat)]) ∧ Q wr w') := cX
        have hlt' := Lib.hid hlt
        have hlvb : (lv : Int) ≤ 1000 := by omega
        by_cases hr0 : r1 = 0
        · subst hr0
          have HV := Lib.hid (show chkL (l.drop (k + 1)) (lv + 1) r2 = (a1, a2) ∧ r2 ≤ 4096 from ⟨by rw [if_pos rfl] at hv2; exact hv2, (hle rfl).2⟩)
          clear hv2 hv it1 it hit hx b1 hlt hltl hk hr hle
          go_wp2_with fail
          refine cX.out.mono ?_
          rintro e w2 ⟨rfl, q2⟩
          have Q2 := Lib.hid (hq.out.trans q2)
          clear u3 i0 i1 i2 i3 i4 q2 cX
          go_wp2_with fail
          go_round
          case rel => exact ⟨k + 1, r2, hlt'.out, rfl, by go_num, Q2, HV⟩
          case measure => have := hlt'.out; simp [intOf]; omega
        · rw [if_neg hr0] at hv2
          have hr1 : (r1 != 0) = true := by simpa using hr0
          simp only [Prod.mk.injEq] at hv2
          obtain ⟨rfl, rfl⟩ := hv2
          clear hv it1 it hit hx b1 hlt hltl hk hr hle hr0
          go_wp2_with fail
          refine cX.out.mono ?_
          rintro e w2 ⟨rfl, q2⟩
          have Q2 := Lib.hid (hq.out.trans q2)
          clear u3 i0 i1 i2 i3 i4 q2 cX
          go_wp2_with fail
          go_ret2
          exact ⟨rfl, Q0.out.trans Q2.out⟩
      · obtain rfl : n3 = k := by omega
        have h := hv.out.1
        rw [List.drop_of_length_le (by have := HN.out; omega), chkL_nil] at h
        simp only [Prod.mk.injEq] at h
        obtain ⟨rfl, rfl⟩ := h
        clear hv hlt hk
        go_wp2_with fail
        go_ret2
        exact ⟨rfl, Q0.out.trans hq.out⟩
  · rw [if_neg hE0]
    have hE' : (E != 0) = true := by simpa using hE0
    clear h1 h2 hE0
    go_enter Tryz.func48, Tryz.ntmps48
    go_wp2_with fail
    refine (cN.out _ Q0.out).mono ?_
    rintro e w1 ⟨rfl, q1⟩
    have Q1 := Lib.hid q1
    clear x0 x1 x2 x3 x4 q1 hwb
    go_wp2_with fail
    go_ret2
    exact ⟨rfl, Q0.out.trans Q1.out⟩
set_option maxRecDepth 100000 in
/-- The reference's Check. -/
theorem refCheck_any (v : V) (A3 : Option Addr) (k3 : Nat) (A4 : Option Addr) (k4 : Nat) (w : World) (h : Va v A3 k3 A4 k4 w) :
    Calls Tryz.prog 13 #[vv v A3 k3 A4 k4] w fun e w' => e = .returned (.int .i64 (chkE v)) ∧ Q w w' := by
  have cC := Lib.hid (fun w' (q : Q w w') => rcheck_any v A3 k3 A4 k4 1 0 w' (h.stays q) (by decide) (by decide))
  unfold vv at *
  unfold chkE
  obtain ⟨r, hr⟩ : ∃ a, chkV v 1 0 = a := ⟨_, rfl⟩
  rw [hr] at cC ⊢
  obtain ⟨r1, r2⟩ := r
  have cC : Hid (∀ w', Q w w' → Calls Tryz.prog 48 #[.agg #[.int .i64 v.kind, .int .i64 v.num, .string v.str, .slice A3 v.items.length k3, .slice A4 v.keys.length k4], .int .i64 1, .int .i64 0] w' fun e w'' => e = .returned (.tuple #[.int .i64 r1, .int .i64 (r2 : Nat)]) ∧ Q w' w'') := cC
  obtain ⟨n4, hn4⟩ : ∃ n, v.keys.length = n := ⟨_, rfl⟩
  obtain ⟨n3, hn3⟩ : ∃ n, v.items.length = n := ⟨_, rfl⟩
  obtain ⟨vk, hvk⟩ : ∃ n, v.kind = n := ⟨_, rfl⟩
  obtain ⟨vn, hvn⟩ : ∃ n, v.num = n := ⟨_, rfl⟩
  obtain ⟨vs, hvs⟩ : ∃ n, v.str = n := ⟨_, rfl⟩
  rw [hn3, hn4, hvk, hvn, hvs] at cC ⊢
  clear hn3 hn4 hvk hvn hvs h hr
  obtain ⟨B, hB⟩ : ∃ B, w.heap.size = B := ⟨_, rfl⟩
  obtain ⟨wb, hwb⟩ : ∃ wb, w.alloc (.cells #[.int .i64 vk, .int .i64 vn, .string vs, .slice A3 n3 k3, .slice A4 n4 k4] 26) = wb := ⟨_, rfl⟩
  have q0 : Q w wb := by rw [← hwb]; exact Q.box _ _
  have bB : Bk B #[.int .i64 vk, .int .i64 vn, .string vs, .slice A3 n3 k3, .slice A4 n4 k4] 26 wb := by rw [← hwb, ← hB]; exact Bk.new _ _ _
  have Q0 := Lib.hid q0
  have x0 := bB.at 0 _ rfl
  have x1 := bB.at 1 _ rfl
  have x2 := bB.at 2 _ rfl
  have x3 := bB.at 3 _ rfl
  have x4 := bB.at 4 _ rfl
  clear q0 bB
  go_enter Tryz.func13, Tryz.ntmps13
  go_wp2_with fail
  refine (cC.out _ Q0.out).mono ?_
  rintro e w1 ⟨rfl, q1⟩
  clear x0 x1 x2 x3 x4
  go_wp2_with fail
  go_ret
  exact ⟨rfl, Q0.out.trans q1⟩

end Go.Proofs.YtjmchjphdfbhiaaGreatDoor.val
