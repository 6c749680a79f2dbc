/- The reference's Nodes and Known. -/
import Derived.Test.YtjmchjphdfbhiaaGreatDoorWrk
namespace Go.Proofs.YtjmchjphdfbhiaaGreatDoor.val
open Go.RowKit
open Go.Proofs.YtjmchjphdfbhiaaGreatDoor
/-- What the reference's Nodes returns. -/
def NdC (v : V) : Prop := nodes v ≤ 100000 → ∀ (A3 : Option Addr) (k3 : Nat) (A4 : Option Addr) (k4 : Nat) (w : World), Va v A3 k3 A4 k4 w → Calls Tryz.prog 42 #[vv v A3 k3 A4 k4] w fun e w' => e = .returned (.int .i64 (nodes v : Nat)) ∧ Q w w'
set_option maxRecDepth 100000 in
set_option maxHeartbeats 4000000 in
theorem rnodes_any : ∀ v : V, NdC v := by
  refine V.ind (fun v ih => ?_)
  obtain ⟨vk, vn, vs, l, ks⟩ := v
  intro hnd A3 k3 A4 k4 w hV
  have IH : Hid (∀ x ∈ l, NdC x) := Lib.hid ih
  obtain ⟨hi, hk, hw⟩ := hV
  have hi : Is (.slice A3 l.length k3) l w := hi
  have hwl : WfL l := hw.items
  have hlm : l.length ≤ maxLen := ((Wf_iff _).1 hw).2.2.2.1
  have hnd : 1 + nodesL l ≤ 100000 := by rw [nodes] at hnd; exact hnd
  rw [nodes]
  show Calls Tryz.prog 42 #[.agg #[.int .i64 vk, .int .i64 vn, .string vs, .slice A3 l.length k3, .slice A4 ks.length k4]] w _
  obtain ⟨ANS, hANS⟩ : ∃ a, 1 + nodesL l = a := ⟨_, rfl⟩
  rw [hANS]
  obtain ⟨n4, hn4⟩ : ∃ n, ks.length = n := ⟨_, rfl⟩
  obtain ⟨n3, hn3⟩ : ∃ n, l.length = n := ⟨_, rfl⟩
  rw [hn3] at hi hlm
  rw [hn3, hn4]
  have H0 : Hid (1 + nodesL (l.drop 0) = ANS ∧ ANS ≤ 100000) := Lib.hid ⟨by rw [List.drop_zero]; exact hANS, by omega⟩
  obtain ⟨B, hB⟩ : ∃ B, w.heap.size = B := ⟨_, rfl⟩
  obtain ⟨wb, hwb⟩ : ∃ wb, w.alloc (.cells #[.int .i64 vk, .int .i64 vn, .string vs, .slice A3 n3 k3, .slice A4 n4 k4] 26) = wb := ⟨_, rfl⟩
  have q0 : Q w wb := by rw [← hwb]; exact Q.box _ _
  have bB : Bk B #[.int .i64 vk, .int .i64 vn, .string vs, .slice A3 n3 k3, .slice A4 n4 k4] 26 wb := by rw [← hwb, ← hB]; exact Bk.new _ _ _
  have HI := Lib.hid hi
  have HW := Lib.hid hwl
  have HN := Lib.hid hn3
  have Q0 := Lib.hid q0
  have BB := Lib.hid bB
  have hn3b : (n3 : Int) ≤ 9223372036854775807 := by unfold maxLen at hlm; omega
  clear hi hk hw hwl hlm hANS hn4 hn3 q0 bB ih hnd
  go_enter Tryz.func42, Tryz.ntmps42
  go_wp2_with fail
  go_loopw [3, 4] (fun n i wr => ∃ (k z : Nat), k ≤ n3 ∧ n = .int .i64 (z : Nat) ∧ i = .int .i64 k ∧ Hid (Q wb wr) ∧ Hid (z + nodesL (l.drop k) = ANS ∧ ANS ≤ 100000)) (fun _ i _ => n3 - (intOf i).toNat)
  case atStart => exact ⟨0, 1, Nat.zero_le _, rfl, rfl, Lib.hid (Q.refl _), H0⟩
  case round =>
    obtain ⟨k, z, hk, rfl, rfl, hq, hv⟩ := hrel
    have b1 := BB.out.stays hq.out
    have x3 := b1.at 3 _ rfl
    by_cases hlt : k < n3
    · have hltl : k < l.length := by have := HN.out; omega
      obtain ⟨b, o, rfl, hit⟩ := Is.item HI.out HW.out (by omega)
      obtain ⟨B3, d3, B4, d4, it⟩ := hit k hltl
      have it1 := it.stays (Q0.out.trans hq.out)
      have hkz : (k : Int) < (n3 : Int) := by omega
      have hv2 := hv.out
      rw [List.drop_eq_getElem_cons hltl, nodesL] at hv2
      have cX := Lib.hid (IH.out l[k] (List.getElem_mem hltl) (by omega) B3 d3 B4 d4 wr it1.va)
      obtain ⟨x, hx⟩ : ∃ x, l[k] = x := ⟨_, rfl⟩
      rw [hx] at it1 hv2 cX
      obtain ⟨xk, xn, xs, xl, xks⟩ := x
      have i0 : wr.cell? ⟨b, o + k * 5, none⟩ = some (.int .i64 xk) := it1.k
      have i1 : wr.cell? ⟨b, o + k * 5 + 1, none⟩ = some (.int .i64 xn) := it1.n
      have i2 : wr.cell? ⟨b, o + k * 5 + 2, none⟩ = some (.string xs) := it1.s
      have i3 : wr.cell? ⟨b, o + k * 5 + 3, none⟩ = some (.slice B3 xl.length d3) := it1.l
      have i4 : wr.cell? ⟨b, o + k * 5 + 4, none⟩ = some (.slice B4 xks.length d4) := it1.ks
      have cX : Hid (Calls Tryz.prog 42 #[.agg #[.int .i64 xk, .int .i64 xn, .string xs, .slice B3 xl.length d3, .slice B4 xks.length d4]] wr fun e w' => e = .returned (.int .i64 ((nodes ⟨xk, xn, xs, xl, xks⟩ : Nat))) ∧ Q wr w') := cX
      have HV := Lib.hid hv2
      have hlt' := Lib.hid hlt
      clear hv2 hv it1 it hit hx b1 hlt hltl hk
      obtain ⟨kx, hkx⟩ : ∃ a, nodes ⟨xk, xn, xs, xl, xks⟩ = a := ⟨_, rfl⟩
      rw [hkx] at HV cX
      have hsum : (z : Int) + (kx : Int) ≤ 100000 := by have := HV.out; omega
      clear hkx
      go_wp2_with fail
      refine cX.out.mono ?_
      rintro e w1 ⟨rfl, q1⟩
      have Q1 := Lib.hid (hq.out.trans q1)
      clear x3 i0 i1 i2 i3 i4 q1 cX
      go_wp2_with fail
      go_round
      case rel => exact ⟨k + 1, z + kx, hlt'.out, by go_num, by go_num, Q1, Lib.hid (by have := HV.out; omega)⟩
      case measure => have := hlt'.out; simp [intOf]; omega
    · obtain rfl : n3 = k := by omega
      have hz : z = ANS := by
        have h := hv.out
        rw [List.drop_of_length_le (by have := HN.out; omega), nodesL] at h
        omega
      subst hz
      clear hv hlt hk
      go_wp2_with fail
      go_ret
      exact ⟨rfl, Q0.out.trans hq.out⟩
/-- What the reference's Known returns. -/
def KnC (v : V) : Prop := ∀ (A3 : Option Addr) (k3 : Nat) (A4 : Option Addr) (k4 : Nat) (w : World), Va v A3 k3 A4 k4 w → Calls Tryz.prog 38 #[vv v A3 k3 A4 k4] w fun e w' => e = .returned (.bool (known v)) ∧ Q w w'
set_option maxRecDepth 100000 in
set_option maxHeartbeats 4000000 in
theorem rknown_any : ∀ v : V, KnC v := by
  refine V.ind (fun v ih => ?_)
  obtain ⟨vk, vn, vs, l, ks⟩ := v
  intro A3 k3 A4 k4 w hV
  have IH : Hid (∀ x ∈ l, KnC x) := Lib.hid ih
  obtain ⟨hi, hk, hw⟩ := hV
  have hi : Is (.slice A3 l.length k3) l w := hi
  have hwl : WfL l := hw.items
  have hlm : l.length ≤ maxLen := ((Wf_iff _).1 hw).2.2.2.1
  show Calls Tryz.prog 38 #[.agg #[.int .i64 vk, .int .i64 vn, .string vs, .slice A3 l.length k3, .slice A4 ks.length k4]] w _
  rw [known]
  obtain ⟨n4, hn4⟩ : ∃ n, ks.length = n := ⟨_, rfl⟩
  obtain ⟨n3, hn3⟩ : ∃ n, l.length = n := ⟨_, rfl⟩
  rw [hn3] at hi hlm
  rw [hn3, hn4]
  obtain ⟨B, hB⟩ : ∃ B, w.heap.size = B := ⟨_, rfl⟩
  obtain ⟨wb, hwb⟩ : ∃ wb, w.alloc (.cells #[.int .i64 vk, .int .i64 vn, .string vs, .slice A3 n3 k3, .slice A4 n4 k4] 26) = wb := ⟨_, rfl⟩
  have q0 : Q w wb := by rw [← hwb]; exact Q.box _ _
  have bB : Bk B #[.int .i64 vk, .int .i64 vn, .string vs, .slice A3 n3 k3, .slice A4 n4 k4] 26 wb := by rw [← hwb, ← hB]; exact Bk.new _ _ _
  have x0 := bB.at 0 _ rfl
  have HI := Lib.hid hi
  have HW := Lib.hid hwl
  have HN := Lib.hid hn3
  have Q0 := Lib.hid q0
  have BB := Lib.hid bB
  have hn3b : (n3 : Int) ≤ 9223372036854775807 := by unfold maxLen at hlm; omega
  clear hi hk hw hwl hlm hn4 hn3 q0 bB ih
  by_cases h6 : vk = 6
  · have h6' : (vk == 6) = true := by rw [h6]; rfl
    rw [decide_eq_false (fun h => h h6), Bool.false_and]
    clear h6
    go_enter Tryz.func38, Tryz.ntmps38
    go_wp2_with fail
    go_ret
    exact ⟨rfl, Q0.out⟩
  have h6' : (vk == 6) = false := beq_eq_false_iff_ne.2 h6
  rw [decide_eq_true h6, Bool.true_and]
  obtain ⟨ANS, hANS⟩ : ∃ a, knownL l = a := ⟨_, rfl⟩
  rw [hANS]
  have H0 : Hid (knownL (l.drop 0) = ANS) := Lib.hid (by rw [List.drop_zero]; exact hANS)
  clear h6 hANS
  go_enter Tryz.func38, Tryz.ntmps38
  go_wp2_with fail
  clear x0
  go_loopw [3] (fun i wr => ∃ k : Nat, k ≤ n3 ∧ i = .int .i64 k ∧ Hid (Q wb wr) ∧ Hid (knownL (l.drop k) = ANS)) (fun i _ => n3 - (intOf i).toNat)
  case atStart => exact ⟨0, Nat.zero_le _, rfl, Lib.hid (Q.refl _), H0⟩
  case round =>
    obtain ⟨k, hk, rfl, hq, hv⟩ := hrel
    have b1 := BB.out.stays hq.out
    have x3 := b1.at 3 _ rfl
    by_cases hlt : k < n3
    · have hltl : k < l.length := by have := HN.out; omega
      obtain ⟨b, o, rfl, hit⟩ := Is.item HI.out HW.out (by omega)
      obtain ⟨B3, d3, B4, d4, it⟩ := hit k hltl
      have it1 := it.stays (Q0.out.trans hq.out)
      have hkz : (k : Int) < (n3 : Int) := by omega
      have hv2 := hv.out
      rw [List.drop_eq_getElem_cons hltl, knownL] at hv2
      have cX := Lib.hid (IH.out l[k] (List.getElem_mem hltl) B3 d3 B4 d4 wr it1.va)
      obtain ⟨x, hx⟩ : ∃ x, l[k] = x := ⟨_, rfl⟩
      rw [hx] at it1 hv2 cX
      obtain ⟨xk, xn, xs, xl, xks⟩ := x
      have i0 : wr.cell? ⟨b, o + k * 5, none⟩ = some (.int .i64 xk) := it1.k
      have i1 : wr.cell? ⟨b, o + k * 5 + 1, none⟩ = some (.int .i64 xn) := it1.n
      have i2 : wr.cell? ⟨b, o + k * 5 + 2, none⟩ = some (.string xs) := it1.s
      have i3 : wr.cell? ⟨b, o + k * 5 + 3, none⟩ = some (.slice B3 xl.length d3) := it1.l
      have i4 : wr.cell? ⟨b, o + k * 5 + 4, none⟩ = some (.slice B4 xks.length d4) := it1.ks
      have cX : Hid (Calls Tryz.prog 38 #[.agg #[.int .i64 xk, .int .i64 xn, .string xs, .slice B3 xl.length d3, .slice B4 xks.length d4]] wr fun e w' => e = .returned (.bool (known ⟨xk, xn, xs, xl, xks⟩)) ∧ Q wr w') := cX
      have hlt' := Lib.hid hlt
      obtain ⟨R, hR⟩ : ∃ a, known ⟨xk, xn, xs, xl, xks⟩ = a := ⟨_, rfl⟩
      rw [hR] at hv2 cX
      cases R with
      | true =>
        have HV : Hid (knownL (l.drop (k + 1)) = ANS) := Lib.hid (by rw [← hv2]; rfl)
        clear hv2 hv it1 it hit hx b1 hlt hltl hk hR
        go_wp2_with fail
        refine cX.out.mono ?_
        rintro e w1 ⟨rfl, q1⟩
        have Q1 := Lib.hid (hq.out.trans q1)
        clear x3 i0 i1 i2 i3 i4 q1 cX
        go_wp2_with fail
        go_round
        case rel => exact ⟨k + 1, hlt'.out, by go_num, Q1, HV⟩
        case measure => have := hlt'.out; simp [intOf]; omega
      | false =>
        have hA : ANS = false := by rw [← hv2]; rfl
        subst hA
        clear hv2 hv it1 it hit hx b1 hlt hltl hk hR
        go_wp2_with fail
        refine cX.out.mono ?_
        rintro e w1 ⟨rfl, q1⟩
        have Q1 := Lib.hid (hq.out.trans q1)
        clear x3 i0 i1 i2 i3 i4 q1 cX
        go_wp2_with fail
        go_ret
        exact ⟨rfl, Q0.out.trans Q1.out⟩
    · obtain rfl : n3 = k := by omega
      have hA : ANS = true := by
        have h := hv.out
        rw [List.drop_of_length_le (by have := HN.out; omega), knownL] at h
        exact h.symm
      subst hA
      clear hv hlt hk
      go_wp2_with fail
      go_ret
      exact ⟨rfl, Q0.out.trans hq.out⟩

end Go.Proofs.YtjmchjphdfbhiaaGreatDoor.val
