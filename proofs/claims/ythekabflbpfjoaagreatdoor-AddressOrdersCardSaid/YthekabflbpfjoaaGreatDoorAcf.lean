/- slices.CompareFunc over module steps. -/
import Derived.Test.YthekabflbpfjoaaGreatDoorAor
import Derived.Test.YthekabflbpfjoaaGreatDoorAcp
namespace Go.Proofs.YthekabflbpfjoaaGreatDoor.adr
open Go.RowKit
open Go.Proofs.YthekabflbpfjoaaGreatDoor

set_option maxHeartbeats 16000000 in
theorem compareFunc_any (A A' : Option Addr) (n n' c c' : Nat) (xs ys : List St) (w : World) (hn : n = xs.length) (hn' : n' = ys.length) (hI : In A xs w) (hI' : In A' ys w) (hl : n ≤ 1000) :
    Calls Tryz.prog 44 #[.slice A n c, .slice A' n' c', .func (.func 45) #[] #[]] w fun e w' => e = .returned (.int .i64 (cL cSt xs ys)) ∧ Q w w' := by
  have HN := Lib.hid hn
  have HN' := Lib.hid hn'
  have HI := Lib.hid hI
  have HI' := Lib.hid hI'
  have cM : Hid (∀ x y w', Calls Tryz.prog 45 #[.agg #[.string x.name, .int .i64 x.key.kind, .int .i64 x.key.num, .string x.key.str], .agg #[.string y.name, .int .i64 y.key.kind, .int .i64 y.key.num, .string y.key.str]] w' fun e w'' => e = .returned (.int .i64 (cSt x y)) ∧ Q w' w'') := Lib.hid (fun x y w' => compareSteps_any x y w')
  obtain ⟨ANS, hA⟩ : ∃ z, cL cSt xs ys = z := ⟨_, rfl⟩
  rw [hA]
  have HA := Lib.hid hA
  clear hn hn' hI hI' hA
  go_enter Tryz.func44, Tryz.ntmps44
  go_wp2_with fail
  go_loopw [13] (fun i wr => ∃ k : Nat, k ≤ n ∧ k ≤ n' ∧ i = .int .i64 k ∧ Hid (Q w wr) ∧ Hid (cL cSt (xs.drop k) (ys.drop k) = ANS)) (fun i _ => n - (intOf i).toNat)
  case atStart => exact ⟨0, Nat.zero_le _, Nat.zero_le _, rfl, Lib.hid (Q.refl _), HA⟩
  case round =>
    clear HA
    obtain ⟨k, hk, hk', rfl, QQ, HH⟩ := hrel
    by_cases hlt : k < n
    · have hlt1 : k < xs.length := by rw [← HN.out]; exact hlt
      have f0 : (0 : Int) ≤ (k : Int) := by omega
      have f1 : (k : Int) < (n : Int) := by omega
      by_cases hlt' : k < n'
      · have hlt2 : k < ys.length := by rw [← HN'.out]; exact hlt'
        obtain ⟨b, o, rfl, hb, hcc⟩ := (HI.out.stays QQ.out) (by intro e; rw [e] at hlt1; cases hlt1)
        obtain ⟨g0, g1, g2, g3⟩ := hcc k hlt1
        have hcc2 := (HI'.out.stays (QQ.out.trans (Q.alloc wr (.cells #[.string xs[k].name, .int .i64 xs[k].key.kind, .int .i64 xs[k].key.num, .string xs[k].key.str] 44)))) (by intro e; rw [e] at hlt2; cases hlt2)
        obtain ⟨b', o', rfl, hb', hcc'⟩ := hcc2
        obtain ⟨g0', g1', g2', g3'⟩ := hcc' k hlt2
        have hz := HH.out
        rw [cL_drop cSt xs ys k hlt1 hlt2] at hz
        have f2 : (k : Int) < (n' : Int) := by omega
        have f3 : ¬ (n' : Int) ≤ (k : Int) := by omega
        have cK := Lib.hid (cM.out xs[k] ys[k])
        clear hcc hcc' hb hb' HH HI HI' hk hk'
        generalize xs[k] = x at *
        generalize ys[k] = y at *
        obtain ⟨xn, xk, xm, xt⟩ := x
        obtain ⟨yn, yk, ym, yt⟩ := y
        simp only at g0 g1 g2 g3 g0' g1' g2' g3' cK
        generalize cSt ⟨xn, xk, xm, xt⟩ ⟨yn, yk, ym, yt⟩ = C at *
        have HZ := Lib.hid hz
        clear hz cM
        cases hC : (C != 0) with
        | true =>
          have : C = ANS := by rw [← HZ.out, if_neg (by simpa using hC)]
          subst this
          clear HZ
          go_wp2_with fail
          refine (cK.out _).mono ?_; rintro e w4 ⟨rfl, q4⟩
          replace QQ := Lib.hid (((QQ.out.trans (Q.alloc wr (.cells #[.string xn, .int .i64 xk, .int .i64 xm, .string xt] 44))).trans (Q.alloc _ (.cells #[.string yn, .int .i64 yk, .int .i64 ym, .string yt] 44))).trans q4)
          clear q4 cK
          go_wp2_with fail
          go_ret
          exact ⟨rfl, QQ.out⟩
        | false =>
          have hc0 : C = 0 := by simpa using hC
          have HY : Hid (cL cSt (xs.drop (k + 1)) (ys.drop (k + 1)) = ANS) := Lib.hid (by rw [← HZ.out, if_pos hc0])
          clear HZ hc0
          go_wp2_with fail
          refine (cK.out _).mono ?_; rintro e w4 ⟨rfl, q4⟩
          replace QQ := Lib.hid (((QQ.out.trans (Q.alloc wr (.cells #[.string xn, .int .i64 xk, .int .i64 xm, .string xt] 44))).trans (Q.alloc _ (.cells #[.string yn, .int .i64 yk, .int .i64 ym, .string yt] 44))).trans q4)
          clear q4 cK
          go_wp2_with fail
          go_roundw
          case rel => exact ⟨k + 1, hlt, hlt', by go_num, QQ, HY⟩
          case measure => simp [intOf]; omega
      · obtain rfl : n' = k := by omega
        have hz := HH.out
        rw [cL_end cSt xs ys n' (by omega) (by have := HN'.out; omega) (.inr HN'.out), cI, if_neg (by have := HN'.out; omega), if_pos (by have := HN'.out; omega)] at hz
        subst hz
        obtain ⟨b, o, rfl, hb, hcc⟩ := (HI.out.stays QQ.out) (by intro e; rw [e] at hlt1; cases hlt1)
        obtain ⟨g0, g1, g2, g3⟩ := hcc n' hlt1
        have f3 : (n' : Int) ≤ (n' : Int) := by omega
        clear hcc hb HH HI HI' hk hk' cM hlt'
        generalize xs[n'] = x at *
        obtain ⟨xn, xk, xm, xt⟩ := x
        simp only at g0 g1 g2 g3
        go_wp2_with fail
        go_ret
        exact ⟨rfl, QQ.out.trans (Q.alloc _ _)⟩
    · obtain rfl : n = k := by omega
      have hz := HH.out
      rw [cL_end cSt xs ys n (by have := HN.out; omega) (by have := HN'.out; omega) (.inl HN.out), cI] at hz
      have h1 := HN.out
      have h2 := HN'.out
      clear HH HI HI' cM hlt
      by_cases h3 : n < n'
      · rw [if_pos (by omega)] at hz
        subst hz
        have f1 : (n : Int) < (n' : Int) := by omega
        clear h1 h2
        go_wp2_with fail
        go_ret
        exact ⟨rfl, QQ.out⟩
      · rw [if_neg (by omega), if_neg (by omega)] at hz
        subst hz
        have f1 : ¬ (n : Int) < (n' : Int) := by omega
        clear h1 h2
        go_wp2_with fail
        go_ret
        exact ⟨rfl, QQ.out⟩

end Go.Proofs.YthekabflbpfjoaaGreatDoor.adr
