/- The reference's Get. -/
import Derived.Test.YtjmchjphdfbhiaaGreatDoorWsr
import Derived.Test.YtjmchjphdfbhiaaGreatDoorVge
namespace Go.Proofs.YtjmchjphdfbhiaaGreatDoor.val
open Go.RowKit
open Go.Proofs.YtjmchjphdfbhiaaGreatDoor
open Go.Proofs.YtjmchjphdfbhiaaGreatDoor.val.cp (Fit Fit_iff FitL_mem set5 set5_block set5_world set5_at)
/-- What the reference's Get hands back. -/
def GotR (r : Option V) (w : World) (e : Ending) (w' : World) : Prop :=
  Q w w' ∧ match r with
    | some x => ∃ A3 k3 A4 k4, e = .returned (.tuple #[.agg #[.int .i64 x.kind, .int .i64 x.num, .string x.str, .slice A3 x.items.length k3, .slice A4 x.keys.length k4], .bool true]) ∧ Va x A3 k3 A4 k4 w'
    | none => e = .returned (.tuple #[.agg #[.int .i64 0, .int .i64 0, .string ⟨#[]⟩, .slice none 0 0, .slice none 0 0], .bool false])
/-- The look-up, as the reference makes it. -/
def getR (v : V) (key : ByteArray) : Option V := if v.kind = 5 then getP (v.keys.zip v.items) key else none
set_option maxHeartbeats 8000000 in
set_option maxRecDepth 100000 in
theorem rget_any (v : V) (A3 : Option Addr) (k3 : Nat) (A4 : Option Addr) (k4 : Nat) (key : ByteArray) (w : World) (h : Va v A3 k3 A4 k4 w) :
    Calls Tryz.prog 30 #[vv v A3 k3 A4 k4, .string key] w (GotR (getR v key) w) := by
  obtain ⟨hi, hk, hw⟩ := h
  have hwl : WfL v.items := hw.items
  have hkm : v.keys.length ≤ maxLen := ((Wf_iff _).1 hw).2.2.2.2.1
  obtain ⟨vk, vn, vs, l, ks⟩ := v
  have hi : Is (.slice A3 l.length k3) l w := hi
  have hk : Ks (.slice A4 ks.length k4) ks w := hk
  have hwl : WfL l := hwl
  have hkm : ks.length ≤ maxLen := hkm
  show Calls Tryz.prog 30 #[.agg #[.int .i64 vk, .int .i64 vn, .string vs, .slice A3 l.length k3, .slice A4 ks.length k4], .string key] w _
  have hg : getR ⟨vk, vn, vs, l, ks⟩ key = if vk = 5 then getP (ks.zip l) key else none := rfl
  rw [hg]
  obtain ⟨n4, hn4⟩ : ∃ n, ks.length = n := ⟨_, rfl⟩
  obtain ⟨n3, hn3⟩ : ∃ n, l.length = n := ⟨_, rfl⟩
  rw [hn3] at hi
  rw [hn4] at hk hkm
  rw [hn3, hn4]
  have hn4b : (n4 : Int) ≤ 9223372036854775807 := by unfold maxLen at hkm; omega
  obtain ⟨bv, hbv⟩ : ∃ bv, w.alloc (.cells #[.int .i64 vk, .int .i64 vn, .string vs, .slice A3 n3 k3, .slice A4 n4 k4] 26) = bv := ⟨_, rfl⟩
  obtain ⟨wb, hwb⟩ : ∃ wb, bv.alloc (.cells #[.int .i64 0, .int .i64 0, .string ⟨#[]⟩, .slice none 0 0, .slice none 0 0] 26) = wb := ⟨_, rfl⟩
  obtain ⟨B, hB⟩ : ∃ B, w.heap.size = B := ⟨_, rfl⟩
  obtain ⟨P, hP⟩ : ∃ P, bv.heap.size = P := ⟨_, rfl⟩
  have q1 : Q w bv := by rw [← hbv]; exact Q.box _ _
  have q2 : Q bv wb := by rw [← hwb]; exact Q.box _ _
  have bz : Bk P #[.int .i64 0, .int .i64 0, .string ⟨#[]⟩, .slice none 0 0, .slice none 0 0] 26 wb := by rw [← hwb, ← hP]; exact Bk.new _ _ _
  have bB : Bk B #[.int .i64 vk, .int .i64 vn, .string vs, .slice A3 n3 k3, .slice A4 n4 k4] 26 wb := by
    have h0 : Bk B #[.int .i64 vk, .int .i64 vn, .string vs, .slice A3 n3 k3, .slice A4 n4 k4] 26 bv := by rw [← hbv, ← hB]; exact Bk.new _ _ _
    exact h0.stays q2
  have x0 := bB.at 0 _ rfl
  have QVW := Lib.hid q1
  have QBV := Lib.hid q2
  have BZ := Lib.hid bz
  have BB := Lib.hid bB
  have HI := Lib.hid hi
  have HK := Lib.hid hk
  have HW := Lib.hid hwl
  have HN := Lib.hid (show l.length = n3 ∧ ks.length = n4 from ⟨hn3, hn4⟩)
  have HP := Lib.hid hP
  clear hi hk hw hwl hkm hn3 hn4 q1 q2 bz bB hg
  -- what is stored when nothing is found
  have ZERO : Hid (∀ w2, Q wb w2 → Q w (set5 w2 P 0 (.int .i64 0) (.int .i64 0) (.string ⟨#[]⟩) (.slice none 0 0) (.slice none 0 0)) ∧ Bk P #[.int .i64 0, .int .i64 0, .string ⟨#[]⟩, .slice none 0 0, .slice none 0 0] 26 (set5 w2 P 0 (.int .i64 0) (.int .i64 0) (.string ⟨#[]⟩) (.slice none 0 0) (.slice none 0 0))) := Lib.hid (fun w2 q => by
    obtain ⟨bf, qf⟩ := store5 (k := 0) (n := 0) (s := ⟨#[]⟩) (s3 := .slice none 0 0) (s4 := .slice none 0 0) HP.out.symm (BZ.out.stays q) (QBV.out.trans q)
    exact ⟨QVW.out.trans qf, bf⟩)
  by_cases h5 : vk = 5
  rotate_left 1
  · rw [if_neg h5]
    have h5' : (vk != 5) = true := by simpa using h5
    have z0 := BZ.out.at 0 _ rfl
    have z1 := BZ.out.at 1 _ rfl
    have z2 := BZ.out.at 2 _ rfl
    have z3 := BZ.out.at 3 _ rfl
    have z4 := BZ.out.at 4 _ rfl
    have f0 := BZ.out.frozen 0
    have f1 := BZ.out.frozen 1
    have f2 := BZ.out.frozen 2
    have f3 := BZ.out.frozen 3
    have f4 := BZ.out.frozen 4
    obtain ⟨qf, bf⟩ := ZERO.out wb (Q.refl _)
    obtain ⟨wf, hwf⟩ : ∃ wf, set5 wb P 0 (.int .i64 0) (.int .i64 0) (.string ⟨#[]⟩) (.slice none 0 0) (.slice none 0 0) = wf := ⟨_, rfl⟩
    rw [hwf] at bf qf
    unfold set5 at hwf
    simp only [Nat.zero_add] at hwf
    have r0 := bf.at 0 _ rfl
    have r1 := bf.at 1 _ rfl
    have r2 := bf.at 2 _ rfl
    have r3 := bf.at 3 _ rfl
    have r4 := bf.at 4 _ rfl
    have QF := Lib.hid qf
    clear bf qf h5
    go_enter Tryz.func30, Tryz.ntmps30
    go_wp2_with fail
    refine bodyPost_ret (by simp [results, Tryz.results30, go_sem, r0, r1, r2, r3, r4]; try rfl) rfl ?_
    exact ⟨QF.out, rfl⟩
  rw [if_pos h5]
  have h5' : (vk != 5) = false := by simpa using h5
  obtain ⟨ANS, hANS⟩ : ∃ a, getP (ks.zip l) key = a := ⟨_, rfl⟩
  rw [hANS]
  have H0 : Hid (getP ((ks.drop 0).zip (l.drop 0)) key = ANS) := Lib.hid (by rw [List.drop_zero, List.drop_zero]; exact hANS)
  clear h5 hANS
  go_enter Tryz.func30, Tryz.ntmps30
  go_wp2_with fail
  clear x0 hwb hbv hP hB
  go_loopw [6] (fun i wr => ∃ k : Nat, k ≤ n4 ∧ i = .int .i64 k ∧ Hid (Q wb wr) ∧ Hid (getP ((ks.drop k).zip (l.drop k)) key = ANS)) (fun i _ => n4 - (intOf i).toNat)
  case atStart => exact ⟨0, Nat.zero_le _, rfl, Lib.hid (Q.refl _), H0⟩
  case round =>
    obtain ⟨k, hk, rfl, hq, hv⟩ := hrel
    have u3 := (BB.out.stays hq.out).at 3 _ rfl
    have u4 := (BB.out.stays hq.out).at 4 _ rfl
    by_cases hlt : k < n4 ∧ k < n3
    rotate_left 1
    · have hA : ANS = none := by
        have h := hv.out
        have hz : (ks.drop k).zip (l.drop k) = [] := by
          by_cases h4 : k < n4
          · rw [show l.drop k = [] from List.drop_of_length_le (by have := HN.out; omega), List.zip_nil_right]
          · rw [show ks.drop k = [] from List.drop_of_length_le (by have := HN.out; omega), List.zip_nil_left]
        rw [hz] at h
        exact h.symm
      subst hA
      have bz := BZ.out.stays hq.out
      have z0 := bz.at 0 _ rfl
      have z1 := bz.at 1 _ rfl
      have z2 := bz.at 2 _ rfl
      have z3 := bz.at 3 _ rfl
      have z4 := bz.at 4 _ rfl
      have f0 := bz.frozen 0
      have f1 := bz.frozen 1
      have f2 := bz.frozen 2
      have f3 := bz.frozen 3
      have f4 := bz.frozen 4
      obtain ⟨qf, bf⟩ := ZERO.out wr hq.out
      obtain ⟨wf, hwf⟩ : ∃ wf, set5 wr P 0 (.int .i64 0) (.int .i64 0) (.string ⟨#[]⟩) (.slice none 0 0) (.slice none 0 0) = wf := ⟨_, rfl⟩
      rw [hwf] at bf qf
      unfold set5 at hwf
      simp only [Nat.zero_add] at hwf
      have r0 := bf.at 0 _ rfl
      have r1 := bf.at 1 _ rfl
      have r2 := bf.at 2 _ rfl
      have r3 := bf.at 3 _ rfl
      have r4 := bf.at 4 _ rfl
      have QF := Lib.hid qf
      clear bf qf bz hv
      by_cases h4 : k < n4
      · have e1 : (k : Int) < (n4 : Int) := by omega
        have e2 : decide (k < n3) = false := decide_eq_false (by omega)
        have e3 : decide ((k : Int) < (n3 : Int)) = false := decide_eq_false (by omega)
        clear h4 hlt hk
        go_wp2_with fail
        refine bodyPost_ret (by simp [results, Tryz.results30, go_sem, r0, r1, r2, r3, r4]; try rfl) rfl ?_
        exact ⟨QF.out, rfl⟩
      · have e2 : decide (k < n4) = false := decide_eq_false (by omega)
        have e3 : decide ((k : Int) < (n4 : Int)) = false := decide_eq_false (by omega)
        clear h4 hlt hk
        go_wp2_with fail
        refine bodyPost_ret (by simp [results, Tryz.results30, go_sem, r0, r1, r2, r3, r4]; try rfl) rfl ?_
        exact ⟨QF.out, rfl⟩
    obtain ⟨hlt, hlt3⟩ := hlt
    have e1 : (k : Int) < (n4 : Int) := by omega
    have e2 : (k : Int) < (n3 : Int) := by omega
    have h1 : k < ks.length := by have := HN.out; omega
    have h2 : k < l.length := by have := HN.out; omega
    obtain ⟨q, qo, rfl, kl⟩ := Ks.row HK.out (by omega)
    obtain ⟨p, po, rfl, hit⟩ := Is.item HI.out HW.out (by omega)
    obtain ⟨C3, c3, C4, c4, it⟩ := hit k h2
    have hql : Q w wr := QVW.out.trans (QBV.out.trans hq.out)
    have d1 := cell_stays hql (kl k h1)
    have it1 := it.stays hql
    have hv2 := hv.out
    rw [List.drop_eq_getElem_cons h1, List.drop_eq_getElem_cons h2, List.zip_cons_cons, getP] at hv2
    obtain ⟨x, hx⟩ : ∃ x, l[k] = x := ⟨_, rfl⟩
    obtain ⟨y, hy⟩ : ∃ x, ks[k] = x := ⟨_, rfl⟩
    rw [hx] at it1 hv2
    rw [hy] at d1 hv2
    have hlt' := Lib.hid hlt
    by_cases hxy : y = key
    · subst hxy
      rw [if_pos ((tot_cT.zero y y).2 rfl)] at hv2
      subst hv2
      have IT := Lib.hid it1
      obtain ⟨xk, xn, xs, xl, xks⟩ := x
      have i0 : wr.cell? ⟨p, po + k * 5, none⟩ = some (.int .i64 xk) := it1.k
      have i1 : wr.cell? ⟨p, po + k * 5 + 1, none⟩ = some (.int .i64 xn) := it1.n
      have i2 : wr.cell? ⟨p, po + k * 5 + 2, none⟩ = some (.string xs) := it1.s
      have i3 : wr.cell? ⟨p, po + k * 5 + 3, none⟩ = some (.slice C3 xl.length c3) := it1.l
      have i4 : wr.cell? ⟨p, po + k * 5 + 4, none⟩ = some (.slice C4 xks.length c4) := it1.ks
      have ITW := Lib.hid it.va
      rw [hx] at ITW
      have bz := BZ.out.stays hq.out
      have z0 := bz.at 0 _ rfl
      have z1 := bz.at 1 _ rfl
      have z2 := bz.at 2 _ rfl
      have z3 := bz.at 3 _ rfl
      have z4 := bz.at 4 _ rfl
      have f0 := bz.frozen 0
      have f1 := bz.frozen 1
      have f2 := bz.frozen 2
      have f3 := bz.frozen 3
      have f4 := bz.frozen 4
      obtain ⟨bf, qf⟩ := store5 (k := xk) (n := xn) (s := xs) (s3 := .slice C3 xl.length c3) (s4 := .slice C4 xks.length c4) HP.out.symm bz (QBV.out.trans hq.out)
      obtain ⟨wf, hwf⟩ : ∃ wf, set5 wr P 0 (.int .i64 xk) (.int .i64 xn) (.string xs) (.slice C3 xl.length c3) (.slice C4 xks.length c4) = wf := ⟨_, rfl⟩
      rw [hwf] at bf qf
      unfold set5 at hwf
      simp only [Nat.zero_add] at hwf
      have r0 := bf.at 0 _ rfl
      have r1 := bf.at 1 _ rfl
      have r2 := bf.at 2 _ rfl
      have r3 := bf.at 3 _ rfl
      have r4 := bf.at 4 _ rfl
      have QF := Lib.hid (QVW.out.trans qf)
      clear bf qf bz hv it1 it hit kl hx hy h1 h2 hlt hlt3 hk hql
      go_wp2_with fail
      refine bodyPost_ret (by simp [results, Tryz.results30, go_sem, r0, r1, r2, r3, r4]; try rfl) rfl ?_
      exact ⟨QF.out, _, _, _, _, rfl, ITW.out.stays QF.out⟩
    · have f1 : (y.toList == key.toList) = false := by rw [same_cT]; exact decide_eq_false (fun h => hxy ((tot_cT.zero _ _).1 h))
      rw [if_neg (fun h => hxy ((tot_cT.zero _ _).1 h))] at hv2
      have HV := Lib.hid hv2
      clear hv2 hv it1 it hit kl hx hy h1 h2 hlt hlt3 hk hxy hql
      go_wp2_with fail
      go_round
      case rel => exact ⟨k + 1, hlt'.out, by go_num, hq, HV⟩
      case measure => have := hlt'.out; simp [intOf]; omega

end Go.Proofs.YtjmchjphdfbhiaaGreatDoor.val
