/- The laws' valid. -/
import Derived.Test.YtjmchjphdfbhiaaGreatDoorWck
namespace Go.Proofs.YtjmchjphdfbhiaaGreatDoor.val
open Go.RowKit
open Go.Proofs.YtjmchjphdfbhiaaGreatDoor
/-- Few nodes, and valid. -/
def okV (v : V) : Bool := smallB v 400 && decide (chkE v = 0)
theorem okV_says {v : V} (h : okV v = true) : nodes v ≤ 400 ∧ chkE v = 0 ∧ sane v := by
  unfold okV at h
  rw [Bool.and_eq_true] at h
  have h1 := smallB_nodes h.1
  have h2 := of_decide_eq_true h.2
  exact ⟨by omega, h2, (valid_sane h2).1⟩
set_option maxRecDepth 100000 in
set_option maxHeartbeats 4000000 in
theorem valid_law (l : List V) (A : Option Addr) (n c : Nat) (w : World) (hi : Is (.slice A n c) l w) (hw : WfL l) (hn : n ≤ 1000) :
    Calls Tryz.prog 33 #[.slice A n c] w fun e w' => e = .returned (.bool (l.all okV)) ∧ Q w w' := by
  have hn3 : l.length = n := by
    obtain ⟨A', c', e, -⟩ := hi.shape
    simp only [Value.slice.injEq] at e
    exact e.2.1.symm
  obtain ⟨ANS, hANS⟩ : ∃ a, l.all okV = a := ⟨_, rfl⟩
  rw [hANS]
  have H0 : Hid ((l.drop 0).all okV = ANS) := Lib.hid (by rw [List.drop_zero]; exact hANS)
  have HI := Lib.hid hi
  have HW := Lib.hid hw
  have HN := Lib.hid hn3
  clear hi hw hn3 hANS
  go_enter Tryz.func33, Tryz.ntmps33
  go_wp2_with fail
  go_loopw [3] (fun i wr => ∃ k : Nat, k ≤ n ∧ i = .int .i64 k ∧ Hid (Q w wr) ∧ Hid ((l.drop k).all okV = ANS)) (fun i _ => n - (intOf i).toNat)
  case atStart => exact ⟨0, Nat.zero_le _, rfl, Lib.hid (Q.refl _), H0⟩
  case round =>
    obtain ⟨k, hk, rfl, hq, hv⟩ := hrel
    by_cases hlt : k < n
    · have hkz : (k : Int) < (n : Int) := by omega
      have hltl : k < l.length := by have := HN.out; omega
      obtain ⟨b, o, rfl, hit⟩ := Is.item HI.out HW.out (by omega)
      obtain ⟨B3, d3, B4, d4, it⟩ := hit k hltl
      have it1 := it.stays hq.out
      have hv2 := hv.out
      rw [List.drop_eq_getElem_cons hltl, List.all_cons] at hv2
      obtain ⟨x, hx⟩ : ∃ x, l[k] = x := ⟨_, rfl⟩
      rw [hx] at it1 hv2
      have cS := Lib.hid (small_any x B3 d3 B4 d4 wr it1.va)
      have cC := Lib.hid (fun w' (q : Q wr w') => refCheck_any x B3 d3 B4 d4 w' (it1.va.stays q))
      have IT := Lib.hid it1
      obtain ⟨xk, xn, xs, xl, xks⟩ := x
      have i0 : wr.cell? ⟨b, o + k * 5, none⟩ = some (.int .i64 xk) := it1.k
      have i1 : wr.cell? ⟨b, o + k * 5 + 1, none⟩ = some (.int .i64 xn) := it1.n
      have i2 : wr.cell? ⟨b, o + k * 5 + 2, none⟩ = some (.string xs) := it1.s
      have i3 : wr.cell? ⟨b, o + k * 5 + 3, none⟩ = some (.slice B3 xl.length d3) := it1.l
      have i4 : wr.cell? ⟨b, o + k * 5 + 4, none⟩ = some (.slice B4 xks.length d4) := it1.ks
      obtain ⟨S, hS⟩ : ∃ a, smallB ⟨xk, xn, xs, xl, xks⟩ 400 = a := ⟨_, rfl⟩
      obtain ⟨E, hE⟩ : ∃ a, chkE ⟨xk, xn, xs, xl, xks⟩ = a := ⟨_, rfl⟩
      unfold okV at hv2
      rw [hS, hE] at hv2
      rw [hS] at cS
      rw [hE] at cC
      have cS : Hid (Calls Tryz.prog 10 #[.agg #[.int .i64 xk, .int .i64 xn, .string xs, .slice B3 xl.length d3, .slice B4 xks.length d4], .int .i64 400] wr fun e w' => e = .returned (.bool S) ∧ Q wr w') := cS
      have cC : Hid (∀ w', Q wr w' → Calls Tryz.prog 13 #[.agg #[.int .i64 xk, .int .i64 xn, .string xs, .slice B3 xl.length d3, .slice B4 xks.length d4]] w' fun e w'' => e = .returned (.int .i64 E) ∧ Q w' w'') := cC
      have hlt' := Lib.hid hlt
      cases S with
      | false =>
        have : ANS = false := by rw [← hv2]; rfl
        subst this
        clear hv2 hv it1 it hit hx hlt hltl hk hS hE cC
        go_wp2_with fail
        refine cS.out.mono ?_
        rintro e w1 ⟨rfl, q1⟩
        clear i0 i1 i2 i3 i4
        go_wp2_with fail
        go_ret
        exact ⟨rfl, hq.out.trans q1⟩
      | true =>
        by_cases hE0 : E = 0
        · subst hE0
          have HV : Hid ((l.drop (k + 1)).all okV = ANS) := Lib.hid (by rw [← hv2]; rfl)
          clear hv2 hv it1 it hit hx hlt hltl hk hS hE
          go_wp2_with fail
          refine cS.out.mono ?_
          rintro e w1 ⟨rfl, q1⟩
          have it2 := IT.out.stays q1
          have j0 : w1.cell? ⟨b, o + k * 5, none⟩ = some (.int .i64 xk) := it2.k
          have j1 : w1.cell? ⟨b, o + k * 5 + 1, none⟩ = some (.int .i64 xn) := it2.n
          have j2 : w1.cell? ⟨b, o + k * 5 + 2, none⟩ = some (.string xs) := it2.s
          have j3 : w1.cell? ⟨b, o + k * 5 + 3, none⟩ = some (.slice B3 xl.length d3) := it2.l
          have j4 : w1.cell? ⟨b, o + k * 5 + 4, none⟩ = some (.slice B4 xks.length d4) := it2.ks
          have Q1 := Lib.hid q1
          clear i0 i1 i2 i3 i4 q1 it2 cS
          go_wp2_with fail
          refine (cC.out _ Q1.out).mono ?_
          rintro e w2 ⟨rfl, q2⟩
          have Q2 := Lib.hid (hq.out.trans (Q1.out.trans q2))
          clear j0 j1 j2 j3 j4 q2 cC
          go_wp2_with fail
          go_round
          case rel => exact ⟨k + 1, hlt'.out, by go_num, Q2, HV⟩
          case measure => have := hlt'.out; simp [intOf]; omega
        · have hE' : (E != 0) = true := by simpa using hE0
          have : ANS = false := by rw [← hv2, decide_eq_false hE0]; rfl
          subst this
          clear hv2 hv it1 it hit hx hlt hltl hk hS hE hE0
          go_wp2_with fail
          refine cS.out.mono ?_
          rintro e w1 ⟨rfl, q1⟩
          have it2 := IT.out.stays q1
          have j0 : w1.cell? ⟨b, o + k * 5, none⟩ = some (.int .i64 xk) := it2.k
          have j1 : w1.cell? ⟨b, o + k * 5 + 1, none⟩ = some (.int .i64 xn) := it2.n
          have j2 : w1.cell? ⟨b, o + k * 5 + 2, none⟩ = some (.string xs) := it2.s
          have j3 : w1.cell? ⟨b, o + k * 5 + 3, none⟩ = some (.slice B3 xl.length d3) := it2.l
          have j4 : w1.cell? ⟨b, o + k * 5 + 4, none⟩ = some (.slice B4 xks.length d4) := it2.ks
          have Q1 := Lib.hid q1
          clear i0 i1 i2 i3 i4 q1 it2 cS
          go_wp2_with fail
          refine (cC.out _ Q1.out).mono ?_
          rintro e w2 ⟨rfl, q2⟩
          have Q2 := Lib.hid (hq.out.trans (Q1.out.trans q2))
          clear j0 j1 j2 j3 j4 q2 cC
          go_wp2_with fail
          go_ret
          exact ⟨rfl, Q2.out⟩
    · obtain rfl : n = k := by omega
      have : ANS = true := by
        have h := hv.out
        rw [List.drop_of_length_le (by have := HN.out; omega)] at h
        exact h.symm
      subst this
      clear hv hlt hk
      go_wp2_with fail
      go_ret
      exact ⟨rfl, hq.out⟩

end Go.Proofs.YtjmchjphdfbhiaaGreatDoor.val
