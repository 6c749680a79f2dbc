/- The reference's Map: the walk. -/
import Derived.Test.YtjmchjphdfbhiaaGreatDoorWpu
import Derived.Test.YtjmchjphdfbhiaaGreatDoorVpx
import Derived.Test.YtjmchjphdfbhiaaGreatDoorWgt
namespace Go.Proofs.YtjmchjphdfbhiaaGreatDoor.val
open Go.RowKit
open Go.Proofs.YtjmchjphdfbhiaaGreatDoor
open Go.Proofs.YtjmchjphdfbhiaaGreatDoor.val.cp (Fit FitL Fit_iff FitL_mem set5 set5_block set5_world set5_at)
def pp (P S : Nat) (j : Nat) : Bool := decide (j = P) || decide (j = S)
theorem pp_ne {P S j : Nat} (h : pp P S j = false) : j ≠ P ∧ j ≠ S := by
  unfold pp at h
  simp only [Bool.or_eq_false_iff, decide_eq_false_iff_not] at h
  exact h
theorem pp_or {P S j : Nat} (h : pp P S j = true) : j = P ∨ j = S := by
  unfold pp at h
  simp only [Bool.or_eq_true, decide_eq_true_eq] at h
  exact h
/-- What Map's loop knows: block S holds the map of pairs m; what it reads lies in other blocks. -/
structure RM (P S : Nat) (m : List (ByteArray × V)) (c : Nat) (AI : Option Addr) (cI : Nat) (AK : Option Addr) (cK : Nat) (w1 wr : World) : Prop where
  q : Q w1 wr
  hS : w1.heap.size = S
  len : m.length = c
  bk : Bk S #[.int .i64 5, .int .i64 0, .string ⟨#[]⟩, .slice AI c cI, .slice AK c cK] 26 wr
  is : Is (.slice AI c cI) (m.map (fun b => b.2)) (eo (pp P S) wr)
  ks : Ks (.slice AK c cK) (m.map (fun b => b.1)) (eo (pp P S) wr)
  asc : asc m
  ok : ∀ b ∈ m, Wf b.2 ∧ b.1.size ≤ maxLen
theorem RM.stays {P S : Nat} {m : List (ByteArray × V)} {c : Nat} {AI : Option Addr} {cI : Nat} {AK : Option Addr} {cK : Nat} {w1 wr w' : World} (h : RM P S m c AI cI AK cK w1 wr) (q : Q wr w') : RM P S m c AI cI AK cK w1 w' :=
  ⟨h.q.trans q, h.hS, h.len, h.bk.stays q, h.is.stays q.eo, h.ks.stays q.eo, h.asc, h.ok⟩
theorem RM.va {P S : Nat} {m : List (ByteArray × V)} {c : Nat} {AI : Option Addr} {cI : Nat} {AK : Option Addr} {cK : Nat} {w1 wr : World} (h : RM P S m c AI cI AK cK w1 wr) (hc : c ≤ 100000) :
    Va ⟨5, 0, ⟨#[]⟩, m.map (fun b => b.2), m.map (fun b => b.1)⟩ AI cI AK cK wr := by
  have e1 : (m.map (fun b => b.2)).length = c := by rw [List.length_map, h.len]
  have e2 : (m.map (fun b => b.1)).length = c := by rw [List.length_map, h.len]
  refine ⟨?_, ?_, (Wf_iff _).2 ⟨(show (-9223372036854775808 : Int) ≤ 5 ∧ (5 : Int) ≤ 9223372036854775807 from by decide), (show (-9223372036854775808 : Int) ≤ 0 ∧ (0 : Int) ≤ 9223372036854775807 from by decide), (show (0 : Nat) ≤ maxLen from Nat.zero_le _), ?_, ?_, ?_, ?_⟩⟩
  · show Is (.slice AI (m.map (fun b => b.2)).length cI) _ _
    rw [e1]
    exact h.is.real
  · show Ks (.slice AK (m.map (fun b => b.1)).length cK) _ _
    rw [e2]
    exact h.ks.real
  · show (m.map (fun b => b.2)).length ≤ maxLen
    unfold maxLen
    omega
  · show (m.map (fun b => b.1)).length ≤ maxLen
    unfold maxLen
    omega
  · intro k hk
    obtain ⟨b, hb, rfl⟩ := List.mem_map.1 hk
    exact (h.ok b hb).2
  · refine (WfL_mem _).2 (fun v hv => ?_)
    obtain ⟨b, hb, rfl⟩ := List.mem_map.1 hv
    exact (h.ok b hb).1
theorem RM.start {P S : Nat} {w1 wr : World} (q : Q w1 wr) (hS : w1.heap.size = S) (b : Bk S #[.int .i64 5, .int .i64 0, .string ⟨#[]⟩, .slice none 0 0, .slice none 0 0] 26 wr) : RM P S [] 0 none 0 none 0 w1 wr :=
  ⟨q, hS, rfl, b, Is.nil _ _ _, Ks.nil _ _ _, List.Pairwise.nil, fun b hb => by cases hb⟩
/-- A new value stored into block S. -/
theorem RM.next {P S : Nat} {m : List (ByteArray × V)} {c : Nat} {AI : Option Addr} {cI : Nat} {AK : Option Addr} {cK : Nat} {w1 w2 : World} (h : RM P S m c AI cI AK cK w1 w2) (x : ByteArray) (y : V) (hx : x.size ≤ maxLen) (hy : Wf y)
    {BI : Option Addr} {dI : Nat} {BK : Option Addr} {dK : Nat} {N : Nat} (hN : N = (putP m x y).length) (h3 : Is (.slice BI N dI) ((putP m x y).map (fun b => b.2)) (eo (pp P S) w2)) (h4 : Ks (.slice BK N dK) ((putP m x y).map (fun b => b.1)) (eo (pp P S) w2)) :
    RM P S (putP m x y) N BI dI BK dK w1 (set5 w2 S 0 (.int .i64 5) (.int .i64 0) (.string ⟨#[]⟩) (.slice BI N dI) (.slice BK N dK)) := by
  have hw := set5_world w2 S 0 (.int .i64 5) (.int .i64 0) (.string ⟨#[]⟩) (.slice BI N dI) (.slice BK N dK)
  have hb : ∀ j, j ≠ S → (set5 w2 S 0 (.int .i64 5) (.int .i64 0) (.string ⟨#[]⟩) (.slice BI N dI) (.slice BK N dK)).heap[j]? = w2.heap[j]? := fun j hj => set5_block w2 S 0 _ _ _ _ _ j hj
  have qe : Q (eo (pp P S) w2) (eo (pp P S) (set5 w2 S 0 (.int .i64 5) (.int .i64 0) (.string ⟨#[]⟩) (.slice BI N dI) (.slice BK N dK))) := eo_q (by omega) ⟨hw.1, hw.2.1, hw.2.2.1⟩ (fun j _ hj => hb j (pp_ne hj).2)
  refine ⟨⟨hw.1.trans h.q.os, hw.2.1.trans h.q.tape, hw.2.2.1.trans h.q.output, by have := h.q.size; omega, fun j hj => (hb j (by have := h.hS; omega)).trans (h.q.block j hj)⟩, h.hS, hN.symm, ((((h.bk.set 0 (.int .i64 5)).set 1 (.int .i64 0)).set 2 (.string ⟨#[]⟩)).set 3 _).set 4 _, h3.stays qe, h4.stays qe, put_asc x y m h.asc, fun b hb => ?_⟩
  rcases put_mem x y m b hb with rfl | hb
  · exact ⟨hy, hx⟩
  · exact h.ok b hb
/-- The reference's Put of a map that is put together. -/
theorem rput_rm {P S : Nat} {m : List (ByteArray × V)} {c : Nat} {AI : Option Addr} {cI : Nat} {AK : Option Addr} {cK : Nat} {w1 W : World} (h : RM P S m c AI cI AK cK w1 W) (hc : c ≤ 100000) (hP : P < S) (x : ByteArray) (yk yn : Int) (ys : ByteArray) (yl : List V) (yks : List ByteArray) {Y3 : Option Addr} {y3 : Nat} {Y4 : Option Addr} {y4 n5 n6 : Nat}
    (h3 : Is (.slice Y3 n5 y3) yl (eo (pp P S) W)) (h4 : Ks (.slice Y4 n6 y4) yks (eo (pp P S) W)) :
    Calls Tryz.prog 32 #[.agg #[.int .i64 5, .int .i64 0, .string ⟨#[]⟩, .slice AI c cI, .slice AK c cK], .string x, .agg #[.int .i64 yk, .int .i64 yn, .string ys, .slice Y3 n5 y3, .slice Y4 n6 y4]] W (RPut (pp P S) (putP m x (⟨yk, yn, ys, yl, yks⟩ : V)) W) := by
  have e1 : (m.map (fun b => b.2)).length = c := by rw [List.length_map, h.len]
  have e2 : (m.map (fun b => b.1)).length = c := by rw [List.length_map, h.len]
  have hSW := h.bk.lt
  exact rput_any (pp P S) 5 0 ⟨#[]⟩ (m.map (fun b => b.2)) (m.map (fun b => b.1)) AI cI AK cK x yk yn ys yl yks Y3 y3 Y4 y4 c n5 n6 W _ (by rw [zip_both]; exact rput_asc x (⟨yk, yn, ys, yl, yks⟩ : V) m h.asc) e1 e2 (by omega) (fun q hq => by rcases pp_or hq with e | e <;> omega) h.is h.ks h3 h4
set_option maxHeartbeats 40000000 in
set_option maxRecDepth 100000 in
theorem rmap_ne (ks : List ByteArray) (l : List V) (A4 A3 : Option Addr) (k4 k3 : Nat) (w : World) (hne : ¬ ks.length = l.length) :
    Calls Tryz.prog 28 #[.slice A4 ks.length k4, .slice A3 l.length k3] w (Mapped ks l w) := by
  have hres : Hid (∀ e w', Q w w' → e = .returned (.tuple #[.agg #[.int .i64 0, .int .i64 0, .string ⟨#[]⟩, .slice none 0 0, .slice none 0 0], .int .i64 1]) → Mapped ks l w e w') := Lib.hid (fun e w' q h => ⟨q, by rw [if_neg hne]; exact h⟩)
  obtain ⟨n4, hn4⟩ : ∃ n4, ks.length = n4 := ⟨_, rfl⟩
  obtain ⟨n3, hn3⟩ : ∃ n3, l.length = n3 := ⟨_, rfl⟩
  rw [hn4, hn3] at hne ⊢
  have h1 : ((n4 : Int) != (n3 : Int)) = true := bne_iff_ne.2 (by omega)
  obtain ⟨P, hP⟩ : ∃ P, w.heap.size = P := ⟨_, rfl⟩
  obtain ⟨w1, hw1⟩ : ∃ w1, w.alloc (.cells #[.int .i64 0, .int .i64 0, .string ⟨#[]⟩, .slice none 0 0, .slice none 0 0] 26) = w1 := ⟨_, rfl⟩
  have q1 : Q w w1 := by rw [← hw1]; exact Q.box _ _
  have z : Bk P #[.int .i64 0, .int .i64 0, .string ⟨#[]⟩, .slice none 0 0, .slice none 0 0] 26 w1 := by rw [← hw1, ← hP]; exact Bk.new _ _ _
  have u0 := z.at 0 _ rfl
  have u1 := z.at 1 _ rfl
  have u2 := z.at 2 _ rfl
  have u3 := z.at 3 _ rfl
  have u4 := z.at 4 _ rfl
  have f0 := z.frozen 0
  have f1 := z.frozen 1
  have f2 := z.frozen 2
  have f3 := z.frozen 3
  have f4 := z.frozen 4
  obtain ⟨bf, qf⟩ := store5 (k := 0) (n := 0) (s := ⟨#[]⟩) (s3 := .slice none 0 0) (s4 := .slice none 0 0) hP.symm z q1
  obtain ⟨wf, hwf⟩ : ∃ wf, set5 w1 P 0 (.int .i64 0) (.int .i64 0) (.string ⟨#[]⟩) (.slice none 0 0) (.slice none 0 0) = wf := ⟨_, rfl⟩
  rw [hwf] at bf qf
  unfold set5 at hwf
  simp only [Nat.zero_add] at hwf
  have r0 := bf.at 0 _ rfl
  have r1 := bf.at 1 _ rfl
  have r2 := bf.at 2 _ rfl
  have r3 := bf.at 3 _ rfl
  have r4 := bf.at 4 _ rfl
  have QF := Lib.hid qf
  clear bf qf z q1 hne hn3 hn4
  go_enter Tryz.func28, Tryz.ntmps28
  go_wp2_with fail
  refine bodyPost_ret (by simp [results, Tryz.results28, go_sem, r0, r1, r2, r3, r4]; try rfl) rfl ?_
  exact hres.out _ _ QF.out rfl
set_option maxHeartbeats 40000000 in
set_option maxRecDepth 100000 in
theorem rmap_eq (ks : List ByteArray) (l : List V) (A4 A3 : Option Addr) (k4 k3 : Nat) (w : World) (hlen : ks.length = l.length) (hK : Ks (.slice A4 ks.length k4) ks w) (hI : Is (.slice A3 l.length k3) l w) (hwl : WfL l) (hfk : ∀ k ∈ ks, k.size ≤ maxLen) (hn1 : ks.length ≤ 1000) :
    Calls Tryz.prog 28 #[.slice A4 ks.length k4, .slice A3 l.length k3] w (Mapped ks l w) := by
  have hres : Hid (∀ e w', Q w w' → (match mapP [] (ks.zip l) with
    | some r => ∃ s3 s4, e = .returned (.tuple #[.agg #[.int .i64 5, .int .i64 0, .string ⟨#[]⟩, s3, s4], .int .i64 0]) ∧ Is s3 (r.map (fun b => b.2)) w' ∧ Ks s4 (r.map (fun b => b.1)) w'
    | none => e = .returned (.tuple #[.agg #[.int .i64 0, .int .i64 0, .string ⟨#[]⟩, .slice none 0 0, .slice none 0 0], .int .i64 8])) → Mapped ks l w e w') := Lib.hid (fun e w' q h => ⟨q, by rw [if_pos hlen]; exact h⟩)
  obtain ⟨ANS, hANS⟩ : ∃ a, mapP [] (ks.zip l) = a := ⟨_, rfl⟩
  rw [hANS] at hres
  obtain ⟨n, hnn⟩ : ∃ n, ks.length = n := ⟨_, rfl⟩
  have HV0 : Hid (mapP [] ((ks.drop 0).zip (l.drop 0)) = ANS) := Lib.hid (by rw [List.drop_zero, List.drop_zero]; exact hANS)
  have HN := Lib.hid (show ks.length = n ∧ l.length = n ∧ n ≤ 1000 from ⟨hnn, by omega, by omega⟩)
  have HW := Lib.hid (And.intro hwl hfk)
  have HK := Lib.hid hK
  have HI := Lib.hid hI
  rw [← hlen, hnn]
  have h1 : ((n : Int) != (n : Int)) = false := by simp
  obtain ⟨P, hP⟩ : ∃ P, w.heap.size = P := ⟨_, rfl⟩
  obtain ⟨w1, hw1⟩ : ∃ w1, w.alloc (.cells #[.int .i64 0, .int .i64 0, .string ⟨#[]⟩, .slice none 0 0, .slice none 0 0] 26) = w1 := ⟨_, rfl⟩
  obtain ⟨S, hS⟩ : ∃ S, w1.heap.size = S := ⟨_, rfl⟩
  obtain ⟨w2, hw2⟩ : ∃ w2, w1.alloc (.cells #[.int .i64 0, .int .i64 0, .string ⟨#[]⟩, .slice none 0 0, .slice none 0 0] 26) = w2 := ⟨_, rfl⟩
  have q1 : Q w w1 := by rw [← hw1]; exact Q.box _ _
  have q2 : Q w1 w2 := by rw [← hw2]; exact Q.box _ _
  have z : Bk P #[.int .i64 0, .int .i64 0, .string ⟨#[]⟩, .slice none 0 0, .slice none 0 0] 26 w1 := by rw [← hw1, ← hP]; exact Bk.new _ _ _
  have v : Bk S #[.int .i64 0, .int .i64 0, .string ⟨#[]⟩, .slice none 0 0, .slice none 0 0] 26 w2 := by rw [← hw2, ← hS]; exact Bk.new _ _ _
  have u0 := v.at 0 _ rfl
  have u1 := v.at 1 _ rfl
  have u2 := v.at 2 _ rfl
  have u3 := v.at 3 _ rfl
  have u4 := v.at 4 _ rfl
  have f0 := v.frozen 0
  have f1 := v.frozen 1
  have f2 := v.frozen 2
  have f3 := v.frozen 3
  have f4 := v.frozen 4
  obtain ⟨bf, qf⟩ := store5 (k := 5) (n := 0) (s := ⟨#[]⟩) (s3 := .slice none 0 0) (s4 := .slice none 0 0) hS.symm v q2
  obtain ⟨wf, hwf⟩ : ∃ wf, set5 w2 S 0 (.int .i64 5) (.int .i64 0) (.string ⟨#[]⟩) (.slice none 0 0) (.slice none 0 0) = wf := ⟨_, rfl⟩
  rw [hwf] at bf qf
  unfold set5 at hwf
  simp only [Nat.zero_add] at hwf
  have HPS : Hid (P = w.heap.size ∧ P < S ∧ w.heap.size ≤ S) := Lib.hid ⟨hP.symm, by rw [← hS, ← hw1, size_alloc]; omega, by rw [← hS]; exact q1.size⟩
  have BP := Lib.hid z
  have QP := Lib.hid q1
  have H0 : Hid (RM P S [] 0 none 0 none 0 w1 wf) := Lib.hid (RM.start qf hS bf)
  clear hlen hK hI hwl hfk hn1 hANS hnn q1 q2 z v bf qf
  go_enter Tryz.func28, Tryz.ntmps28
  go_wp2_with fail
  go_loopw [7] (fun i wr => ∃ (k : Nat) (m : List (ByteArray × V)) (c : Nat) (AI : Option Addr) (cI : Nat) (AK : Option Addr) (cK : Nat), k ≤ n ∧ i = .int .i64 k ∧ Hid (RM P S m c AI cI AK cK w1 wr) ∧ Hid (c ≤ k) ∧ Hid (mapP m ((ks.drop k).zip (l.drop k)) = ANS)) (fun i _ => n - (intOf i).toNat)
  case atStart => exact ⟨0, [], 0, none, 0, none, 0, Nat.zero_le _, rfl, H0, Lib.hid (Nat.le_refl _), HV0⟩
  case round =>
    obtain ⟨k, m, c, AI, cI, AK, cK, hk, rfl, HM, HCK, HV⟩ := hrel
    clear H0 HV0 u0 u1 u2 u3 u4 f0 f1 f2 f3 f4 hwf hw2 hw1 hP hS
    by_cases hlt : k < n
    rotate_left 1
    · have e1 : decide (k < n) = false := decide_eq_false hlt
      have e2 : decide ((k : Int) < (n : Int)) = false := decide_eq_false (by omega)
      have hA : some m = ANS := by
        have h := HV.out
        rw [List.drop_of_length_le (by have := HN.out; omega), List.zip_nil_left, mapP] at h
        exact h
      subst hA
      have bS := HM.out.bk
      have s0 := bS.at 0 _ rfl
      have s1 := bS.at 1 _ rfl
      have s2 := bS.at 2 _ rfl
      have s3 := bS.at 3 _ rfl
      have s4 := bS.at 4 _ rfl
      clear bS hlt HV
      have bPz := BP.out.stays (HM.out.q)
      have z0 := bPz.at 0 _ rfl
      have z1 := bPz.at 1 _ rfl
      have z2 := bPz.at 2 _ rfl
      have z3 := bPz.at 3 _ rfl
      have z4 := bPz.at 4 _ rfl
      have f0 := bPz.frozen 0
      have f1 := bPz.frozen 1
      have f2 := bPz.frozen 2
      have f3 := bPz.frozen 3
      have f4 := bPz.frozen 4
      obtain ⟨bf, qf⟩ := store5 (k := 5) (n := 0) (s := ⟨#[]⟩) (s3 := .slice AI c cI) (s4 := .slice AK c cK) HPS.out.1 bPz (QP.out.trans (HM.out.q))
      have hblk : ∀ j, pp P S j = false → (set5 wr P 0 (.int .i64 5) (.int .i64 0) (.string ⟨#[]⟩) (.slice AI c cI) (.slice AK c cK)).heap[j]? = wr.heap[j]? := fun j hj => set5_block wr P 0 _ _ _ _ _ j (pp_ne hj).1
      have hwz5 := set5_world wr P 0 (.int .i64 5) (.int .i64 0) (.string ⟨#[]⟩) (.slice AI c cI) (.slice AK c cK)
      obtain ⟨wz, hwz⟩ : ∃ x, set5 wr P 0 (.int .i64 5) (.int .i64 0) (.string ⟨#[]⟩) (.slice AI c cI) (.slice AK c cK) = x := ⟨_, rfl⟩
      rw [hwz] at bf qf hblk hwz5
      unfold set5 at hwz
      simp only [Nat.zero_add] at hwz
      have r0 := bf.at 0 _ rfl
      have r1 := bf.at 1 _ rfl
      have r2 := bf.at 2 _ rfl
      have r3 := bf.at 3 _ rfl
      have r4 := bf.at 4 _ rfl
      have QFF := Lib.hid qf
      have HBL := Lib.hid (And.intro hblk hwz5)
      clear bf qf hblk hwz5 bPz
      go_wp2_with fail
      refine bodyPost_ret (by simp [results, Tryz.results28, go_sem, r0, r1, r2, r3, r4]; try rfl) rfl ?_
      refine hres.out _ _ QFF.out ⟨_, _, rfl, ?_, ?_⟩
      · exact (HM.out.is.stays (eo_q (by have := HBL.out.2; omega) ⟨HBL.out.2.1, HBL.out.2.2.1, HBL.out.2.2.2.1⟩ (fun j _ hj => HBL.out.1 j hj))).real
      · exact (HM.out.ks.stays (eo_q (by have := HBL.out.2; omega) ⟨HBL.out.2.1, HBL.out.2.2.1, HBL.out.2.2.2.1⟩ (fun j _ hj => HBL.out.1 j hj))).real
    have i1 : (k : Int) < (n : Int) := by omega
    have hkn : Hid (k < n) := Lib.hid hlt
    have hkl : k < l.length := by have := HN.out; omega
    have hkk : k < ks.length := by have := HN.out; omega
    obtain ⟨b, o, rfl, hKL⟩ : ∃ b o, A4 = some ⟨b, o, none⟩ ∧ KL ks b o w := by
      obtain ⟨A', c', e, hc, g⟩ := HK.out
      simp only [Value.slice.injEq] at e
      obtain ⟨rfl, -, rfl⟩ := e
      exact g (by intro e; rw [e] at hkk; exact absurd hkk (Nat.not_lt_zero _))
    obtain ⟨bi, oi, rfl, hVL⟩ : ∃ b o, A3 = some ⟨b, o, none⟩ ∧ VL l b o w := by
      obtain ⟨A', c', e, hc, g⟩ := HI.out
      simp only [Value.slice.injEq] at e
      obtain ⟨rfl, -, rfl⟩ := e
      exact g (by intro e; rw [e] at hkl; exact absurd hkl (Nat.not_lt_zero _))
    obtain ⟨x, hx⟩ : ∃ x, ks[k] = x := ⟨_, rfl⟩
    obtain ⟨y, hy⟩ : ∃ x, l[k] = x := ⟨_, rfl⟩
    have cK' := KL.at ks b o _ hKL k hkk
    obtain ⟨s5, s6, hd⟩ := VL.at l bi oi _ hVL k hkl
    rw [hx] at cK'
    rw [hy] at hd
    have HXW : Hid (x.size ≤ maxLen ∧ Wf y) := Lib.hid ⟨by rw [← hx]; exact HW.out.2 _ (List.getElem_mem hkk), by rw [← hy]; exact (WfL_mem _).1 HW.out.1 _ (List.getElem_mem hkl)⟩
    have HVn : Hid ((if (getP m x).isSome then none else mapP (putP m x y) ((ks.drop (k + 1)).zip (l.drop (k + 1)))) = ANS) := Lib.hid (by
      have h := HV.out
      rw [List.drop_eq_getElem_cons hkk, List.drop_eq_getElem_cons hkl, List.zip_cons_cons, mapP, hx, hy] at h
      exact h)
    obtain ⟨Y3, y3, e5, -⟩ := hd.is.shape
    obtain ⟨Y4, y4, e6, -⟩ := hd.kk.shape
    obtain ⟨yk, yn, ys, yl, yks⟩ := y
    have e5' : s5 = .slice Y3 yl.length y3 := e5
    have e6' : s6 = .slice Y4 yks.length y4 := e6
    clear e5 e6
    obtain ⟨n5, hn5⟩ : ∃ a, yl.length = a := ⟨_, rfl⟩
    obtain ⟨n6, hn6⟩ : ∃ a, yks.length = a := ⟨_, rfl⟩
    rw [hn5] at e5'
    rw [hn6] at e6'
    subst e5'
    subst e6'
    have HY : Hid (Is (.slice Y3 n5 y3) yl w ∧ Ks (.slice Y4 n6 y4) yks w) := Lib.hid ⟨hd.is, hd.kk⟩
    have hc : c ≤ 1000 := by have := HCK.out; have := HN.out; omega
    obtain ⟨L, hL⟩ : ∃ L : World → Prop, L = fun w' => RM P S m c AI cI AK cK w1 w' := ⟨_, rfl⟩
    have L0 : Hid (L wr) := Lib.hid (by rw [hL]; exact HM.out)
    have LR : Hid (∀ w', L w' → RM P S m c AI cI AK cK w1 w') := Lib.hid (fun w' h => by rw [hL] at h; exact h)
    have LS : Hid (∀ w' w'', L w' → Q w' w'' → L w'') := Lib.hid (fun w' w'' h q => by rw [hL] at h ⊢; exact h.stays q)
    have QWL : Hid (∀ w', L w' → Q w w') := Lib.hid (fun w' h => QP.out.trans (LR.out w' h).q)
    have SEG : Hid (∀ w', L w' → (fun w' => Hid (L w') ∧ w'.cell? ⟨S, 0, none⟩ = some (.int .i64 5) ∧ w'.cell? ⟨S, 1, none⟩ = some (.int .i64 0) ∧ w'.cell? ⟨S, 2, none⟩ = some (.string ⟨#[]⟩) ∧ w'.cell? ⟨S, 3, none⟩ = some (.slice AI c cI) ∧ w'.cell? ⟨S, 4, none⟩ = some (.slice AK c cK) ∧ w'.cell? ⟨b, o + k, none⟩ = some (.string x)) w') := Lib.hid (fun w' h => by
      have q := QWL.out w' h
      have r := (LR.out w' h).bk
      exact ⟨Lib.hid h, r.at 0 _ rfl, r.at 1 _ rfl, r.at 2 _ rfl, r.at 3 _ rfl, r.at 4 _ rfl, cell_stays q cK'⟩)
    have SEP : Hid (∀ w', Q w w' → (fun w' => w'.cell? ⟨b, o + k, none⟩ = some (.string x) ∧ w'.cell? ⟨bi, oi + k * 5, none⟩ = some (.int .i64 yk) ∧ w'.cell? ⟨bi, oi + k * 5 + 1, none⟩ = some (.int .i64 yn) ∧ w'.cell? ⟨bi, oi + k * 5 + 2, none⟩ = some (.string ys) ∧ w'.cell? ⟨bi, oi + k * 5 + 3, none⟩ = some (.slice Y3 n5 y3) ∧ w'.cell? ⟨bi, oi + k * 5 + 4, none⟩ = some (.slice Y4 n6 y4)) w') := Lib.hid (fun w' q => ⟨cell_stays q cK', cell_stays q hd.k, cell_stays q hd.n, cell_stays q hd.s, cell_stays q hd.l, cell_stays q hd.ks⟩)
    have cG : Hid (∀ w', L w' → Calls Tryz.prog 30 #[.agg #[.int .i64 5, .int .i64 0, .string ⟨#[]⟩, .slice AI c cI, .slice AK c cK], .string x] w' (GotR (getP m x) w')) := Lib.hid (fun w' h => by
      have hr := LR.out w' h
      have g := rget_any ⟨5, 0, ⟨#[]⟩, m.map (fun b => b.2), m.map (fun b => b.1)⟩ AI cI AK cK x w' (hr.va (by omega))
      have e1 : (m.map (fun b => b.2)).length = c := by rw [List.length_map, hr.len]
      have e2 : (m.map (fun b => b.1)).length = c := by rw [List.length_map, hr.len]
      have e3 : getR ⟨5, 0, ⟨#[]⟩, m.map (fun b => b.2), m.map (fun b => b.1)⟩ x = getP m x := by
        show (if (5 : Int) = 5 then getP ((m.map (fun b => b.1)).zip (m.map (fun b => b.2))) x else none) = _
        rw [if_pos rfl, zip_both]
      rw [e3] at g
      have g : Calls Tryz.prog 30 #[.agg #[.int .i64 5, .int .i64 0, .string ⟨#[]⟩, .slice AI (m.map (fun b => b.2)).length cI, .slice AK (m.map (fun b => b.1)).length cK], .string x] w' (GotR (getP m x) w') := g
      rw [e1, e2] at g
      exact g)
    have cP : Hid (∀ w', L w' → Calls Tryz.prog 32 #[.agg #[.int .i64 5, .int .i64 0, .string ⟨#[]⟩, .slice AI c cI, .slice AK c cK], .string x, .agg #[.int .i64 yk, .int .i64 yn, .string ys, .slice Y3 n5 y3, .slice Y4 n6 y4]] w' (RPut (pp P S) (putP m x (⟨yk, yn, ys, yl, yks⟩ : V)) w')) := Lib.hid (fun w' h => by
      have hr := LR.out w' h
      have qe : Q w (eo (pp P S) w') := (QWL.out w' h).eoNew (fun j hj => by have := HPS.out; rcases pp_or hj with e | e <;> omega)
      exact rput_rm hr (by omega) HPS.out.2.1 x yk yn ys yl yks (HY.out.1.stays qe) (HY.out.2.stays qe))
    have HCL : Hid ((putP m x (⟨yk, yn, ys, yl, yks⟩ : V)).length ≤ k + 1) := Lib.hid (by
      have h1 := put_len x (⟨yk, yn, ys, yl, yks⟩ : V) m HM.out.asc
      have h2 := HM.out.len
      have h3 := HCK.out
      have : (if (getP m x).isSome then 0 else 1) ≤ 1 := by split <;> omega
      omega)
    clear hL HV hx hy cK' hd hKL hVL hkl hkk hn5 hn6 hlt HCK
    cases hg : getP m x with
    | some xv =>
      rw [hg] at cG
      have hA : none = ANS := by
        have h := HVn.out
        rw [hg] at h
        exact h
      subst hA
      obtain ⟨gk, gn, gs, gl, gks⟩ := xv
      clear HVn hg HM SEP cP HCL
      go_wp2_with fail
      refine Go.wp_region_held_drew (S := (fun w' => Hid (L w') ∧ w'.cell? ⟨S, 0, none⟩ = some (.int .i64 5) ∧ w'.cell? ⟨S, 1, none⟩ = some (.int .i64 0) ∧ w'.cell? ⟨S, 2, none⟩ = some (.string ⟨#[]⟩) ∧ w'.cell? ⟨S, 3, none⟩ = some (.slice AI c cI) ∧ w'.cell? ⟨S, 4, none⟩ = some (.slice AK c cK) ∧ w'.cell? ⟨b, o + k, none⟩ = some (.string x))) (by kernel_rfl) (SEG.out _ (LS.out _ _ L0.out (Q.drewN _ 1))) (fun hHeld => ?_)
      refine Go.wpAnyH_take (i := 0) (oi := _) (v := ?_) rfl (by kernel_rfl) (by kernel_rfl) (by kernel_rfl) (fun _ _ _ h => h) (Or.inl ⟨by rfl, ?_⟩) (by assumption) ?_
      rotate_left 1
      · intro wx hSw
        go_simp <;> with_reducible rfl
      simp only [Act.put, List.getElem_toArray, List.getElem_cons_zero, List.setIfInBounds_toArray, List.set_cons_zero, List.set_cons_succ]
      refine Go.wpAnyH_take (i := 1) (oi := _) (v := ?_) rfl (by kernel_rfl) (by kernel_rfl) (by kernel_rfl) (fun _ _ _ h => h) (Or.inl ⟨by rfl, ?_⟩) (by assumption) ?_
      rotate_left 1
      · intro wx hSw
        go_simp <;> with_reducible rfl
      simp only [Act.put, List.getElem_toArray, List.getElem_cons_zero, List.getElem_cons_succ, List.setIfInBounds_toArray, List.set_cons_zero, List.set_cons_succ]
      refine Go.wpAnyH_take (i := 2) (oi := _) (v := ?_) rfl (by kernel_rfl) (by kernel_rfl) (by kernel_rfl) (fun _ _ _ h => h) (Or.inl ⟨by rfl, ?_⟩) (by assumption) ?_
      rotate_left 1
      · intro wx hSw
        go_simp <;> with_reducible rfl
      simp only [Act.put, List.getElem_toArray, List.getElem_cons_zero, List.getElem_cons_succ, List.setIfInBounds_toArray, List.set_cons_zero, List.set_cons_succ]
      refine Go.wpAnyH_take (i := 3) (oi := _) (v := ?_) rfl (by kernel_rfl) (by kernel_rfl) (by kernel_rfl) (fun _ _ _ h => h) (Or.inl ⟨by rfl, ?_⟩) (by assumption) ?_
      rotate_left 1
      · intro wx hSw
        go_simp <;> with_reducible rfl
      simp only [Act.put, List.getElem_toArray, List.getElem_cons_zero, List.getElem_cons_succ, List.setIfInBounds_toArray, List.set_cons_zero, List.set_cons_succ]
      refine Go.wpAnyH_take (i := 4) (oi := _) (v := ?_) rfl (by kernel_rfl) (by kernel_rfl) (by kernel_rfl) (fun _ _ _ h => h) (Or.inl ⟨by rfl, ?_⟩) (by assumption) ?_
      rotate_left 1
      · intro wx hSw
        go_simp <;> with_reducible rfl
      simp only [Act.put, List.getElem_toArray, List.getElem_cons_zero, List.getElem_cons_succ, List.setIfInBounds_toArray, List.set_cons_zero, List.set_cons_succ]
      refine Go.wpAnyH_ready (rs := [5, 9]) (by kernel_rfl) (by simp) ?_
      refine Go.AllReadyH.cons rfl (fun K hK => ?_) (Go.AllReadyH.cons rfl (fun K hK => ?_) Go.AllReadyH.nil)
      · rw [if_pos (by rfl)]
        go_simp
        refine (cG.out _ hHeld.1.out).mono ?_
        rintro e wg ⟨qg, hgr⟩
        obtain ⟨G3, g3, G4, g4, rfl, -⟩ := hgr
        obtain ⟨N3, hN3⟩ : ∃ a, (V.mk gk gn gs gl gks).items.length = a := ⟨_, rfl⟩
        obtain ⟨N4, hN4⟩ : ∃ a, (V.mk gk gn gs gl gks).keys.length = a := ⟨_, rfl⟩
        rw [hN3, hN4]
        rw [show (V.mk gk gn gs gl gks).kind = gk from rfl, show (V.mk gk gn gs gl gks).num = gn from rfl, show (V.mk gk gn gs gl gks).str = gs from rfl]
        clear hN3 hN4
        have Lg := Lib.hid (LS.out _ _ hHeld.1.out qg)
        refine hK.out _ _ (SEG.out _ Lg.out) (fun hHeld => ?_)
        clear hK K
        refine Go.wpAnyH_take (i := 6) (oi := _) (v := ?_) rfl (by kernel_rfl) (by kernel_rfl) (by kernel_rfl) (fun _ _ _ h => h) (Or.inl ⟨by rfl, ?_⟩) (by assumption) ?_
        rotate_left 1
        · intro wx hSw
          go_simp <;> with_reducible rfl
        simp only [Act.put, List.getElem_toArray, List.getElem_cons_zero, List.getElem_cons_succ, List.setIfInBounds_toArray, List.set_cons_zero, List.set_cons_succ]
        refine Go.wpAnyH_take (i := 7) (oi := _) (v := ?_) rfl (by kernel_rfl) (by kernel_rfl) (by kernel_rfl) (fun _ _ _ h => h) (Or.inl ⟨by rfl, ?_⟩) (by assumption) ?_
        rotate_left 1
        · intro wx hSw
          go_simp <;> with_reducible rfl
        simp only [Act.put, List.getElem_toArray, List.getElem_cons_zero, List.getElem_cons_succ, List.setIfInBounds_toArray, List.set_cons_zero, List.set_cons_succ]
        refine Go.wpAnyH_take (i := 8) (oi := _) (v := ?_) rfl (by kernel_rfl) (by kernel_rfl) (by kernel_rfl) (fun _ _ _ h => h) (Or.inl ⟨by rfl, ?_⟩) (by assumption) ?_
        rotate_left 1
        · intro wx hSw
          go_simp <;> with_reducible rfl
        simp only [Act.put, List.getElem_toArray, List.getElem_cons_zero, List.getElem_cons_succ, List.setIfInBounds_toArray, List.set_cons_zero, List.set_cons_succ]
        obtain ⟨D, hD⟩ : ∃ x, wg.heap.size = x := ⟨_, rfl⟩
        obtain ⟨wa, hwa⟩ : ∃ x, wg.alloc (.cells #[.int .i64 0, .int .i64 0, .string ⟨#[]⟩, .slice none 0 0, .slice none 0 0] 26) = x := ⟨_, rfl⟩
        have qa : Q wg wa := by rw [← hwa]; exact Q.box _ _
        have bD : Bk D #[.int .i64 0, .int .i64 0, .string ⟨#[]⟩, .slice none 0 0, .slice none 0 0] 26 wa := by rw [← hwa, ← hD]; exact Bk.new _ _ _
        have HD : Hid (D = wg.heap.size ∧ Q wg wa) := Lib.hid ⟨hD.symm, qa⟩
        have LB := Lg
        have La := Lib.hid (LS.out _ _ Lg.out qa)
        refine Go.wpAnyH_ready (rs := [9]) (by kernel_rfl) (by simp) ?_
        refine Go.AllReadyH.cons rfl (fun K hK => ?_) Go.AllReadyH.nil
        rw [if_pos (by rfl)]
        go_simp
        refine hK.out _ _ (SEG.out _ La.out) (fun hHeld => ?_)
        clear hK K qa hwa hD La qg
        have d0 := bD.at 0 _ rfl
        have d1 := bD.at 1 _ rfl
        have d2 := bD.at 2 _ rfl
        have d3 := bD.at 3 _ rfl
        have d4 := bD.at 4 _ rfl
        have h0 := bD.frozen 0
        have h1' := bD.frozen 1
        have h2 := bD.frozen 2
        have h3 := bD.frozen 3
        have h4 := bD.frozen 4
        obtain ⟨bf, qf⟩ := store5 (k := gk) (n := gn) (s := gs) (s3 := .slice G3 N3 g3) (s4 := .slice G4 N4 g4) HD.out.1 bD HD.out.2
        obtain ⟨ws, hws⟩ : ∃ x, set5 wa D 0 (.int .i64 gk) (.int .i64 gn) (.string gs) (.slice G3 N3 g3) (.slice G4 N4 g4) = x := ⟨_, rfl⟩
        rw [hws] at qf
        unfold set5 at hws
        simp only [Nat.zero_add] at hws
        have Ls := Lib.hid (LS.out _ _ LB.out qf)
        clear bf qf bD
        refine Go.wpAnyH_ready (rs := [10]) (by kernel_rfl) (by simp) ?_
        refine Go.AllReadyH.cons rfl (fun K hK => ?_) Go.AllReadyH.nil
        rw [if_pos (by rfl)]
        go_simp
        refine hK.out _ _ (SEG.out _ Ls.out) (fun hHeld => ?_)
        clear hK K
        refine Go.wpAnyH_take (i := 11) (oi := _) (v := ?_) rfl (by kernel_rfl) (by kernel_rfl) (by kernel_rfl) (fun _ _ _ h => h) (Or.inl ⟨by rfl, ?_⟩) (by assumption) ?_
        rotate_left 1
        · intro wx hSw
          go_simp <;> with_reducible rfl
        simp only [Act.put, List.getElem_toArray, List.getElem_cons_zero, List.getElem_cons_succ, List.setIfInBounds_toArray, List.set_cons_zero, List.set_cons_succ]
        refine Go.wpAnyH_done (by kernel_rfl) ?_ _
        clear d0 d1 d2 d3 d4 h0 h1' h2 h3 h4 hws hHeld
        have bPz := BP.out.stays ((LR.out _ Ls.out).q)
        have z0 := bPz.at 0 _ rfl
        have z1 := bPz.at 1 _ rfl
        have z2 := bPz.at 2 _ rfl
        have z3 := bPz.at 3 _ rfl
        have z4 := bPz.at 4 _ rfl
        have f0 := bPz.frozen 0
        have f1 := bPz.frozen 1
        have f2 := bPz.frozen 2
        have f3 := bPz.frozen 3
        have f4 := bPz.frozen 4
        obtain ⟨bf, qf⟩ := store5 (k := 0) (n := 0) (s := ⟨#[]⟩) (s3 := .slice none 0 0) (s4 := .slice none 0 0) HPS.out.1 bPz (QP.out.trans ((LR.out _ Ls.out).q))
        have hblk : ∀ j, pp P S j = false → (set5 ws P 0 (.int .i64 0) (.int .i64 0) (.string ⟨#[]⟩) (.slice none 0 0) (.slice none 0 0)).heap[j]? = ws.heap[j]? := fun j hj => set5_block ws P 0 _ _ _ _ _ j (pp_ne hj).1
        have hwz5 := set5_world ws P 0 (.int .i64 0) (.int .i64 0) (.string ⟨#[]⟩) (.slice none 0 0) (.slice none 0 0)
        obtain ⟨wz, hwz⟩ : ∃ x, set5 ws P 0 (.int .i64 0) (.int .i64 0) (.string ⟨#[]⟩) (.slice none 0 0) (.slice none 0 0) = x := ⟨_, rfl⟩
        rw [hwz] at bf qf hblk hwz5
        unfold set5 at hwz
        simp only [Nat.zero_add] at hwz
        have r0 := bf.at 0 _ rfl
        have r1 := bf.at 1 _ rfl
        have r2 := bf.at 2 _ rfl
        have r3 := bf.at 3 _ rfl
        have r4 := bf.at 4 _ rfl
        have QFF := Lib.hid qf
        have HBL := Lib.hid (And.intro hblk hwz5)
        clear bf qf hblk hwz5 bPz
        go_wp2_with fail
        refine bodyPost_ret (by simp [results, Tryz.results28, go_sem, r0, r1, r2, r3, r4]; try rfl) rfl ?_
        exact hres.out _ _ QFF.out rfl
      · obtain ⟨D, hD⟩ : ∃ x, wr.heap.size = x := ⟨_, rfl⟩
        have qa : Q wr (wr.drew.alloc (.cells #[.int .i64 0, .int .i64 0, .string ⟨#[]⟩, .slice none 0 0, .slice none 0 0] 26)) := (Q.drew _).trans (Q.box _ _)
        have bD0 : Bk D #[.int .i64 0, .int .i64 0, .string ⟨#[]⟩, .slice none 0 0, .slice none 0 0] 26 (wr.drew.alloc (.cells #[.int .i64 0, .int .i64 0, .string ⟨#[]⟩, .slice none 0 0, .slice none 0 0] 26)) := by rw [← hD]; exact Bk.new _ _ _
        have La := Lib.hid (LS.out _ _ L0.out qa)
        rw [if_pos (by rfl)]
        go_simp
        refine hK.out _ _ (SEG.out _ La.out) (fun hHeld => ?_)
        clear hK K
        refine Go.wpAnyH_ready (rs := [5]) (by kernel_rfl) (by simp) ?_
        refine Go.AllReadyH.cons rfl (fun K hK => ?_) Go.AllReadyH.nil
        rw [if_pos (by rfl)]
        go_simp
        refine (cG.out _ hHeld.1.out).mono ?_
        rintro e wg ⟨qg, hgr⟩
        obtain ⟨G3, g3, G4, g4, rfl, -⟩ := hgr
        obtain ⟨N3, hN3⟩ : ∃ a, (V.mk gk gn gs gl gks).items.length = a := ⟨_, rfl⟩
        obtain ⟨N4, hN4⟩ : ∃ a, (V.mk gk gn gs gl gks).keys.length = a := ⟨_, rfl⟩
        rw [hN3, hN4]
        rw [show (V.mk gk gn gs gl gks).kind = gk from rfl, show (V.mk gk gn gs gl gks).num = gn from rfl, show (V.mk gk gn gs gl gks).str = gs from rfl]
        clear hN3 hN4
        have Lg := Lib.hid (LS.out _ _ hHeld.1.out qg)
        have bD := bD0.stays qg
        have HD : Hid (D = wr.heap.size ∧ Q wr wg) := Lib.hid ⟨hD.symm, qa.trans qg⟩
        have LB := L0
        refine hK.out _ _ (SEG.out _ Lg.out) (fun hHeld => ?_)
        clear hK K qa bD0 La hD qg
        refine Go.wpAnyH_take (i := 6) (oi := _) (v := ?_) rfl (by kernel_rfl) (by kernel_rfl) (by kernel_rfl) (fun _ _ _ h => h) (Or.inl ⟨by rfl, ?_⟩) (by assumption) ?_
        rotate_left 1
        · intro wx hSw
          go_simp <;> with_reducible rfl
        simp only [Act.put, List.getElem_toArray, List.getElem_cons_zero, List.getElem_cons_succ, List.setIfInBounds_toArray, List.set_cons_zero, List.set_cons_succ]
        refine Go.wpAnyH_take (i := 7) (oi := _) (v := ?_) rfl (by kernel_rfl) (by kernel_rfl) (by kernel_rfl) (fun _ _ _ h => h) (Or.inl ⟨by rfl, ?_⟩) (by assumption) ?_
        rotate_left 1
        · intro wx hSw
          go_simp <;> with_reducible rfl
        simp only [Act.put, List.getElem_toArray, List.getElem_cons_zero, List.getElem_cons_succ, List.setIfInBounds_toArray, List.set_cons_zero, List.set_cons_succ]
        refine Go.wpAnyH_take (i := 8) (oi := _) (v := ?_) rfl (by kernel_rfl) (by kernel_rfl) (by kernel_rfl) (fun _ _ _ h => h) (Or.inl ⟨by rfl, ?_⟩) (by assumption) ?_
        rotate_left 1
        · intro wx hSw
          go_simp <;> with_reducible rfl
        simp only [Act.put, List.getElem_toArray, List.getElem_cons_zero, List.getElem_cons_succ, List.setIfInBounds_toArray, List.set_cons_zero, List.set_cons_succ]
        have d0 := bD.at 0 _ rfl
        have d1 := bD.at 1 _ rfl
        have d2 := bD.at 2 _ rfl
        have d3 := bD.at 3 _ rfl
        have d4 := bD.at 4 _ rfl
        have h0 := bD.frozen 0
        have h1' := bD.frozen 1
        have h2 := bD.frozen 2
        have h3 := bD.frozen 3
        have h4 := bD.frozen 4
        obtain ⟨bf, qf⟩ := store5 (k := gk) (n := gn) (s := gs) (s3 := .slice G3 N3 g3) (s4 := .slice G4 N4 g4) HD.out.1 bD HD.out.2
        obtain ⟨ws, hws⟩ : ∃ x, set5 wg D 0 (.int .i64 gk) (.int .i64 gn) (.string gs) (.slice G3 N3 g3) (.slice G4 N4 g4) = x := ⟨_, rfl⟩
        rw [hws] at qf
        unfold set5 at hws
        simp only [Nat.zero_add] at hws
        have Ls := Lib.hid (LS.out _ _ LB.out qf)
        clear bf qf bD
        refine Go.wpAnyH_ready (rs := [10]) (by kernel_rfl) (by simp) ?_
        refine Go.AllReadyH.cons rfl (fun K hK => ?_) Go.AllReadyH.nil
        rw [if_pos (by rfl)]
        go_simp
        refine hK.out _ _ (SEG.out _ Ls.out) (fun hHeld => ?_)
        clear hK K
        refine Go.wpAnyH_take (i := 11) (oi := _) (v := ?_) rfl (by kernel_rfl) (by kernel_rfl) (by kernel_rfl) (fun _ _ _ h => h) (Or.inl ⟨by rfl, ?_⟩) (by assumption) ?_
        rotate_left 1
        · intro wx hSw
          go_simp <;> with_reducible rfl
        simp only [Act.put, List.getElem_toArray, List.getElem_cons_zero, List.getElem_cons_succ, List.setIfInBounds_toArray, List.set_cons_zero, List.set_cons_succ]
        refine Go.wpAnyH_done (by kernel_rfl) ?_ _
        clear d0 d1 d2 d3 d4 h0 h1' h2 h3 h4 hws hHeld
        have bPz := BP.out.stays ((LR.out _ Ls.out).q)
        have z0 := bPz.at 0 _ rfl
        have z1 := bPz.at 1 _ rfl
        have z2 := bPz.at 2 _ rfl
        have z3 := bPz.at 3 _ rfl
        have z4 := bPz.at 4 _ rfl
        have f0 := bPz.frozen 0
        have f1 := bPz.frozen 1
        have f2 := bPz.frozen 2
        have f3 := bPz.frozen 3
        have f4 := bPz.frozen 4
        obtain ⟨bf, qf⟩ := store5 (k := 0) (n := 0) (s := ⟨#[]⟩) (s3 := .slice none 0 0) (s4 := .slice none 0 0) HPS.out.1 bPz (QP.out.trans ((LR.out _ Ls.out).q))
        have hblk : ∀ j, pp P S j = false → (set5 ws P 0 (.int .i64 0) (.int .i64 0) (.string ⟨#[]⟩) (.slice none 0 0) (.slice none 0 0)).heap[j]? = ws.heap[j]? := fun j hj => set5_block ws P 0 _ _ _ _ _ j (pp_ne hj).1
        have hwz5 := set5_world ws P 0 (.int .i64 0) (.int .i64 0) (.string ⟨#[]⟩) (.slice none 0 0) (.slice none 0 0)
        obtain ⟨wz, hwz⟩ : ∃ x, set5 ws P 0 (.int .i64 0) (.int .i64 0) (.string ⟨#[]⟩) (.slice none 0 0) (.slice none 0 0) = x := ⟨_, rfl⟩
        rw [hwz] at bf qf hblk hwz5
        unfold set5 at hwz
        simp only [Nat.zero_add] at hwz
        have r0 := bf.at 0 _ rfl
        have r1 := bf.at 1 _ rfl
        have r2 := bf.at 2 _ rfl
        have r3 := bf.at 3 _ rfl
        have r4 := bf.at 4 _ rfl
        have QFF := Lib.hid qf
        have HBL := Lib.hid (And.intro hblk hwz5)
        clear bf qf hblk hwz5 bPz
        go_wp2_with fail
        refine bodyPost_ret (by simp [results, Tryz.results28, go_sem, r0, r1, r2, r3, r4]; try rfl) rfl ?_
        exact hres.out _ _ QFF.out rfl
    | none =>
      rw [hg] at cG
      have HV2 : Hid (mapP (putP m x (⟨yk, yn, ys, yl, yks⟩ : V)) ((ks.drop (k + 1)).zip (l.drop (k + 1))) = ANS) := Lib.hid (by
        have h := HVn.out
        rw [hg] at h
        exact h)
      have HGN := Lib.hid hg
      obtain ⟨N, hN⟩ : ∃ a, (putP m x (⟨yk, yn, ys, yl, yks⟩ : V)).length = a := ⟨_, rfl⟩
      have HNN := Lib.hid hN
      rw [hN] at HCL
      clear hN
      clear HVn hg HM
      go_wp2_with fail
      refine Go.wp_region_held_drew (S := (fun w' => Hid (L w') ∧ w'.cell? ⟨S, 0, none⟩ = some (.int .i64 5) ∧ w'.cell? ⟨S, 1, none⟩ = some (.int .i64 0) ∧ w'.cell? ⟨S, 2, none⟩ = some (.string ⟨#[]⟩) ∧ w'.cell? ⟨S, 3, none⟩ = some (.slice AI c cI) ∧ w'.cell? ⟨S, 4, none⟩ = some (.slice AK c cK) ∧ w'.cell? ⟨b, o + k, none⟩ = some (.string x))) (by kernel_rfl) (SEG.out _ (LS.out _ _ L0.out (Q.drewN _ 1))) (fun hHeld => ?_)
      refine Go.wpAnyH_take (i := 0) (oi := _) (v := ?_) rfl (by kernel_rfl) (by kernel_rfl) (by kernel_rfl) (fun _ _ _ h => h) (Or.inl ⟨by rfl, ?_⟩) (by assumption) ?_
      rotate_left 1
      · intro wx hSw
        go_simp <;> with_reducible rfl
      simp only [Act.put, List.getElem_toArray, List.getElem_cons_zero, List.setIfInBounds_toArray, List.set_cons_zero, List.set_cons_succ]
      refine Go.wpAnyH_take (i := 1) (oi := _) (v := ?_) rfl (by kernel_rfl) (by kernel_rfl) (by kernel_rfl) (fun _ _ _ h => h) (Or.inl ⟨by rfl, ?_⟩) (by assumption) ?_
      rotate_left 1
      · intro wx hSw
        go_simp <;> with_reducible rfl
      simp only [Act.put, List.getElem_toArray, List.getElem_cons_zero, List.getElem_cons_succ, List.setIfInBounds_toArray, List.set_cons_zero, List.set_cons_succ]
      refine Go.wpAnyH_take (i := 2) (oi := _) (v := ?_) rfl (by kernel_rfl) (by kernel_rfl) (by kernel_rfl) (fun _ _ _ h => h) (Or.inl ⟨by rfl, ?_⟩) (by assumption) ?_
      rotate_left 1
      · intro wx hSw
        go_simp <;> with_reducible rfl
      simp only [Act.put, List.getElem_toArray, List.getElem_cons_zero, List.getElem_cons_succ, List.setIfInBounds_toArray, List.set_cons_zero, List.set_cons_succ]
      refine Go.wpAnyH_take (i := 3) (oi := _) (v := ?_) rfl (by kernel_rfl) (by kernel_rfl) (by kernel_rfl) (fun _ _ _ h => h) (Or.inl ⟨by rfl, ?_⟩) (by assumption) ?_
      rotate_left 1
      · intro wx hSw
        go_simp <;> with_reducible rfl
      simp only [Act.put, List.getElem_toArray, List.getElem_cons_zero, List.getElem_cons_succ, List.setIfInBounds_toArray, List.set_cons_zero, List.set_cons_succ]
      refine Go.wpAnyH_take (i := 4) (oi := _) (v := ?_) rfl (by kernel_rfl) (by kernel_rfl) (by kernel_rfl) (fun _ _ _ h => h) (Or.inl ⟨by rfl, ?_⟩) (by assumption) ?_
      rotate_left 1
      · intro wx hSw
        go_simp <;> with_reducible rfl
      simp only [Act.put, List.getElem_toArray, List.getElem_cons_zero, List.getElem_cons_succ, List.setIfInBounds_toArray, List.set_cons_zero, List.set_cons_succ]
      refine Go.wpAnyH_ready (rs := [5, 9]) (by kernel_rfl) (by simp) ?_
      refine Go.AllReadyH.cons rfl (fun K hK => ?_) (Go.AllReadyH.cons rfl (fun K hK => ?_) Go.AllReadyH.nil)
      · rw [if_pos (by rfl)]
        go_simp
        refine (cG.out _ hHeld.1.out).mono ?_
        rintro e wg ⟨qg, hgr⟩
        have hgr : e = _ := hgr
        subst hgr
        have Lg := Lib.hid (LS.out _ _ hHeld.1.out qg)
        refine hK.out _ _ (SEG.out _ Lg.out) (fun hHeld => ?_)
        clear hK K
        refine Go.wpAnyH_take (i := 6) (oi := _) (v := ?_) rfl (by kernel_rfl) (by kernel_rfl) (by kernel_rfl) (fun _ _ _ h => h) (Or.inl ⟨by rfl, ?_⟩) (by assumption) ?_
        rotate_left 1
        · intro wx hSw
          go_simp <;> with_reducible rfl
        simp only [Act.put, List.getElem_toArray, List.getElem_cons_zero, List.getElem_cons_succ, List.setIfInBounds_toArray, List.set_cons_zero, List.set_cons_succ]
        refine Go.wpAnyH_take (i := 7) (oi := _) (v := ?_) rfl (by kernel_rfl) (by kernel_rfl) (by kernel_rfl) (fun _ _ _ h => h) (Or.inl ⟨by rfl, ?_⟩) (by assumption) ?_
        rotate_left 1
        · intro wx hSw
          go_simp <;> with_reducible rfl
        simp only [Act.put, List.getElem_toArray, List.getElem_cons_zero, List.getElem_cons_succ, List.setIfInBounds_toArray, List.set_cons_zero, List.set_cons_succ]
        refine Go.wpAnyH_take (i := 8) (oi := _) (v := ?_) rfl (by kernel_rfl) (by kernel_rfl) (by kernel_rfl) (fun _ _ _ h => h) (Or.inl ⟨by rfl, ?_⟩) (by assumption) ?_
        rotate_left 1
        · intro wx hSw
          go_simp <;> with_reducible rfl
        simp only [Act.put, List.getElem_toArray, List.getElem_cons_zero, List.getElem_cons_succ, List.setIfInBounds_toArray, List.set_cons_zero, List.set_cons_succ]
        obtain ⟨D, hD⟩ : ∃ x, wg.heap.size = x := ⟨_, rfl⟩
        obtain ⟨wa, hwa⟩ : ∃ x, wg.alloc (.cells #[.int .i64 0, .int .i64 0, .string ⟨#[]⟩, .slice none 0 0, .slice none 0 0] 26) = x := ⟨_, rfl⟩
        have qa : Q wg wa := by rw [← hwa]; exact Q.box _ _
        have bD : Bk D #[.int .i64 0, .int .i64 0, .string ⟨#[]⟩, .slice none 0 0, .slice none 0 0] 26 wa := by rw [← hwa, ← hD]; exact Bk.new _ _ _
        have HD : Hid (D = wg.heap.size ∧ Q wg wa) := Lib.hid ⟨hD.symm, qa⟩
        have LB := Lg
        have La := Lib.hid (LS.out _ _ Lg.out qa)
        refine Go.wpAnyH_ready (rs := [9]) (by kernel_rfl) (by simp) ?_
        refine Go.AllReadyH.cons rfl (fun K hK => ?_) Go.AllReadyH.nil
        rw [if_pos (by rfl)]
        go_simp
        refine hK.out _ _ (SEG.out _ La.out) (fun hHeld => ?_)
        clear hK K qa hwa hD La qg
        have d0 := bD.at 0 _ rfl
        have d1 := bD.at 1 _ rfl
        have d2 := bD.at 2 _ rfl
        have d3 := bD.at 3 _ rfl
        have d4 := bD.at 4 _ rfl
        have h0 := bD.frozen 0
        have h1' := bD.frozen 1
        have h2 := bD.frozen 2
        have h3 := bD.frozen 3
        have h4 := bD.frozen 4
        obtain ⟨bf, qf⟩ := store5 (k := 0) (n := 0) (s := ⟨#[]⟩) (s3 := .slice none 0 0) (s4 := .slice none 0 0) HD.out.1 bD HD.out.2
        obtain ⟨ws, hws⟩ : ∃ x, set5 wa D 0 (.int .i64 0) (.int .i64 0) (.string ⟨#[]⟩) (.slice none 0 0) (.slice none 0 0) = x := ⟨_, rfl⟩
        rw [hws] at qf
        unfold set5 at hws
        simp only [Nat.zero_add] at hws
        have Ls := Lib.hid (LS.out _ _ LB.out qf)
        clear bf qf bD
        refine Go.wpAnyH_ready (rs := [10]) (by kernel_rfl) (by simp) ?_
        refine Go.AllReadyH.cons rfl (fun K hK => ?_) Go.AllReadyH.nil
        rw [if_pos (by rfl)]
        go_simp
        refine hK.out _ _ (SEG.out _ Ls.out) (fun hHeld => ?_)
        clear hK K
        refine Go.wpAnyH_take (i := 11) (oi := _) (v := ?_) rfl (by kernel_rfl) (by kernel_rfl) (by kernel_rfl) (fun _ _ _ h => h) (Or.inl ⟨by rfl, ?_⟩) (by assumption) ?_
        rotate_left 1
        · intro wx hSw
          go_simp <;> with_reducible rfl
        simp only [Act.put, List.getElem_toArray, List.getElem_cons_zero, List.getElem_cons_succ, List.setIfInBounds_toArray, List.set_cons_zero, List.set_cons_succ]
        refine Go.wpAnyH_done (by kernel_rfl) ?_ _
        clear d0 d1 d2 d3 d4 h0 h1' h2 h3 h4 hws hHeld
        have bS := (LR.out _ Ls.out).bk
        have s0 := bS.at 0 _ rfl
        have s1 := bS.at 1 _ rfl
        have s2 := bS.at 2 _ rfl
        have s3 := bS.at 3 _ rfl
        have s4 := bS.at 4 _ rfl
        clear bS
        go_wp2_with fail
        refine Go.wp_region_held_drew (S := (fun w' => w'.cell? ⟨b, o + k, none⟩ = some (.string x) ∧ w'.cell? ⟨bi, oi + k * 5, none⟩ = some (.int .i64 yk) ∧ w'.cell? ⟨bi, oi + k * 5 + 1, none⟩ = some (.int .i64 yn) ∧ w'.cell? ⟨bi, oi + k * 5 + 2, none⟩ = some (.string ys) ∧ w'.cell? ⟨bi, oi + k * 5 + 3, none⟩ = some (.slice Y3 n5 y3) ∧ w'.cell? ⟨bi, oi + k * 5 + 4, none⟩ = some (.slice Y4 n6 y4))) (by kernel_rfl) (SEP.out _ ((QWL.out _ Ls.out).trans (Q.drewN _ 1))) (fun hHeld => ?_)
        refine Go.wpAnyH_take (i := 1) (oi := _) (v := ?_) rfl (by kernel_rfl) (by kernel_rfl) (by kernel_rfl) (fun _ _ _ h => h) (Or.inl ⟨by rfl, ?_⟩) (by assumption) ?_
        rotate_left 1
        · intro wx hSw
          go_simp <;> with_reducible rfl
        simp only [Act.put, List.getElem_toArray, List.getElem_cons_zero, List.getElem_cons_succ, List.setIfInBounds_toArray, List.set_cons_zero, List.set_cons_succ]
        refine Go.wpAnyH_take (i := 2) (oi := _) (v := ?_) rfl (by kernel_rfl) (by kernel_rfl) (by kernel_rfl) (fun _ _ _ h => h) (Or.inl ⟨by rfl, ?_⟩) (by assumption) ?_
        rotate_left 1
        · intro wx hSw
          go_simp <;> with_reducible rfl
        simp only [Act.put, List.getElem_toArray, List.getElem_cons_zero, List.getElem_cons_succ, List.setIfInBounds_toArray, List.set_cons_zero, List.set_cons_succ]
        refine Go.wpAnyH_take (i := 3) (oi := _) (v := ?_) rfl (by kernel_rfl) (by kernel_rfl) (by kernel_rfl) (fun _ _ _ h => h) (Or.inl ⟨by rfl, ?_⟩) (by assumption) ?_
        rotate_left 1
        · intro wx hSw
          go_simp <;> with_reducible rfl
        simp only [Act.put, List.getElem_toArray, List.getElem_cons_zero, List.getElem_cons_succ, List.setIfInBounds_toArray, List.set_cons_zero, List.set_cons_succ]
        refine Go.wpAnyH_take (i := 4) (oi := _) (v := ?_) rfl (by kernel_rfl) (by kernel_rfl) (by kernel_rfl) (fun _ _ _ h => h) (Or.inl ⟨by rfl, ?_⟩) (by assumption) ?_
        rotate_left 1
        · intro wx hSw
          go_simp <;> with_reducible rfl
        simp only [Act.put, List.getElem_toArray, List.getElem_cons_zero, List.getElem_cons_succ, List.setIfInBounds_toArray, List.set_cons_zero, List.set_cons_succ]
        refine Go.wpAnyH_take (i := 5) (oi := _) (v := ?_) rfl (by kernel_rfl) (by kernel_rfl) (by kernel_rfl) (fun _ _ _ h => h) (Or.inl ⟨by rfl, ?_⟩) (by assumption) ?_
        rotate_left 1
        · intro wx hSw
          go_simp <;> with_reducible rfl
        simp only [Act.put, List.getElem_toArray, List.getElem_cons_zero, List.getElem_cons_succ, List.setIfInBounds_toArray, List.set_cons_zero, List.set_cons_succ]
        refine Go.wpAnyH_take (i := 6) (oi := _) (v := ?_) rfl (by kernel_rfl) (by kernel_rfl) (by kernel_rfl) (fun _ _ _ h => h) (Or.inl ⟨by rfl, ?_⟩) (by assumption) ?_
        rotate_left 1
        · intro wx hSw
          go_simp <;> with_reducible rfl
        simp only [Act.put, List.getElem_toArray, List.getElem_cons_zero, List.getElem_cons_succ, List.setIfInBounds_toArray, List.set_cons_zero, List.set_cons_succ]
        refine Go.wpAnyH_take (i := 7) (oi := _) (v := ?_) rfl (by kernel_rfl) (by kernel_rfl) (by kernel_rfl) (fun _ _ _ h => h) (Or.inl ⟨by rfl, ?_⟩) (by assumption) ?_
        rotate_left 1
        · intro wx hSw
          go_simp <;> with_reducible rfl
        simp only [Act.put, List.getElem_toArray, List.getElem_cons_zero, List.getElem_cons_succ, List.setIfInBounds_toArray, List.set_cons_zero, List.set_cons_succ]
        refine Go.wpAnyH_take (i := 8) (oi := _) (v := ?_) rfl (by kernel_rfl) (by kernel_rfl) (by kernel_rfl) (fun _ _ _ h => h) (Or.inl ⟨by rfl, ?_⟩) (by assumption) ?_
        rotate_left 1
        · intro wx hSw
          go_simp <;> with_reducible rfl
        simp only [Act.put, List.getElem_toArray, List.getElem_cons_zero, List.getElem_cons_succ, List.setIfInBounds_toArray, List.set_cons_zero, List.set_cons_succ]
        refine Go.wpAnyH_ready (rs := [0]) (by kernel_rfl) (by simp) ?_
        refine Go.AllReadyH.cons rfl (fun K hK => ?_) Go.AllReadyH.nil
        rw [if_pos (by rfl)]
        go_simp
        refine hK.out _ _ (SEP.out _ ((QWL.out _ Ls.out).trans (Q.drewN _ 1))) (fun hHeld => ?_)
        clear hK K s0 s1 s2 s3 s4
        refine Go.wpAnyH_ready (rs := [9]) (by kernel_rfl) (by simp) ?_
        refine Go.AllReadyH.cons rfl (fun K hK => ?_) Go.AllReadyH.nil
        rw [if_pos (by rfl)]
        go_simp
        refine (cP.out _ (LS.out _ _ Ls.out (Q.drewN _ 1))).mono ?_
        rintro e w2 ⟨BI, dI, BK, dK, rfl, i3, i4, q2⟩
        have Lp := Lib.hid (LS.out _ _ Ls.out ((Q.drewN _ 1).trans q2))
        rw [HNN.out] at i3 i4 ⊢
        have NX := Lib.hid ((LR.out _ Lp.out).next x (⟨yk, yn, ys, yl, yks⟩ : V) HXW.out.1 HXW.out.2 HNN.out.symm i3 i4)
        refine hK.out _ _ (SEP.out _ (QWL.out _ Lp.out)) (fun hHeld => ?_)
        clear hK K i3 i4 q2
        have bS := (LR.out _ Lp.out).bk
        have d0 := bS.at 0 _ rfl
        have d1 := bS.at 1 _ rfl
        have d2 := bS.at 2 _ rfl
        have d3 := bS.at 3 _ rfl
        have d4 := bS.at 4 _ rfl
        have h0 := bS.frozen 0
        have h1' := bS.frozen 1
        have h2 := bS.frozen 2
        have h3 := bS.frozen 3
        have h4 := bS.frozen 4
        obtain ⟨wt, hwt⟩ : ∃ x, set5 w2 S 0 (.int .i64 5) (.int .i64 0) (.string ⟨#[]⟩) (.slice BI N dI) (.slice BK N dK) = x := ⟨_, rfl⟩
        rw [hwt] at NX
        unfold set5 at hwt
        simp only [Nat.zero_add] at hwt
        clear bS
        refine Go.wpAnyH_ready (rs := [10]) (by kernel_rfl) (by simp) ?_
        refine Go.AllReadyH.cons rfl (fun K hK => ?_) Go.AllReadyH.nil
        rw [if_pos (by rfl)]
        go_simp
        refine hK.out _ _ (SEP.out _ (QP.out.trans NX.out.q)) (fun hHeld => ?_)
        clear hK K
        refine Go.wpAnyH_done (by kernel_rfl) ?_ _
        clear d0 d1 d2 d3 d4 h0 h1' h2 h3 h4 hwt hHeld
        have hnb : n ≤ 1000 := HN.out.2.2
        go_wp2_with fail
        go_roundw
        case rel => exact ⟨k + 1, putP m x (⟨yk, yn, ys, yl, yks⟩ : V), N, BI, dI, BK, dK, hkn.out, by go_num, NX, HCL, HV2⟩
        case measure => have := hkn.out; simp [intOf]; omega
      · obtain ⟨D, hD⟩ : ∃ x, wr.heap.size = x := ⟨_, rfl⟩
        have qa : Q wr (wr.drew.alloc (.cells #[.int .i64 0, .int .i64 0, .string ⟨#[]⟩, .slice none 0 0, .slice none 0 0] 26)) := (Q.drew _).trans (Q.box _ _)
        have bD0 : Bk D #[.int .i64 0, .int .i64 0, .string ⟨#[]⟩, .slice none 0 0, .slice none 0 0] 26 (wr.drew.alloc (.cells #[.int .i64 0, .int .i64 0, .string ⟨#[]⟩, .slice none 0 0, .slice none 0 0] 26)) := by rw [← hD]; exact Bk.new _ _ _
        have La := Lib.hid (LS.out _ _ L0.out qa)
        rw [if_pos (by rfl)]
        go_simp
        refine hK.out _ _ (SEG.out _ La.out) (fun hHeld => ?_)
        clear hK K
        refine Go.wpAnyH_ready (rs := [5]) (by kernel_rfl) (by simp) ?_
        refine Go.AllReadyH.cons rfl (fun K hK => ?_) Go.AllReadyH.nil
        rw [if_pos (by rfl)]
        go_simp
        refine (cG.out _ hHeld.1.out).mono ?_
        rintro e wg ⟨qg, hgr⟩
        have hgr : e = _ := hgr
        subst hgr
        have Lg := Lib.hid (LS.out _ _ hHeld.1.out qg)
        have bD := bD0.stays qg
        have HD : Hid (D = wr.heap.size ∧ Q wr wg) := Lib.hid ⟨hD.symm, qa.trans qg⟩
        have LB := L0
        refine hK.out _ _ (SEG.out _ Lg.out) (fun hHeld => ?_)
        clear hK K qa bD0 La hD qg
        refine Go.wpAnyH_take (i := 6) (oi := _) (v := ?_) rfl (by kernel_rfl) (by kernel_rfl) (by kernel_rfl) (fun _ _ _ h => h) (Or.inl ⟨by rfl, ?_⟩) (by assumption) ?_
        rotate_left 1
        · intro wx hSw
          go_simp <;> with_reducible rfl
        simp only [Act.put, List.getElem_toArray, List.getElem_cons_zero, List.getElem_cons_succ, List.setIfInBounds_toArray, List.set_cons_zero, List.set_cons_succ]
        refine Go.wpAnyH_take (i := 7) (oi := _) (v := ?_) rfl (by kernel_rfl) (by kernel_rfl) (by kernel_rfl) (fun _ _ _ h => h) (Or.inl ⟨by rfl, ?_⟩) (by assumption) ?_
        rotate_left 1
        · intro wx hSw
          go_simp <;> with_reducible rfl
        simp only [Act.put, List.getElem_toArray, List.getElem_cons_zero, List.getElem_cons_succ, List.setIfInBounds_toArray, List.set_cons_zero, List.set_cons_succ]
        refine Go.wpAnyH_take (i := 8) (oi := _) (v := ?_) rfl (by kernel_rfl) (by kernel_rfl) (by kernel_rfl) (fun _ _ _ h => h) (Or.inl ⟨by rfl, ?_⟩) (by assumption) ?_
        rotate_left 1
        · intro wx hSw
          go_simp <;> with_reducible rfl
        simp only [Act.put, List.getElem_toArray, List.getElem_cons_zero, List.getElem_cons_succ, List.setIfInBounds_toArray, List.set_cons_zero, List.set_cons_succ]
        have d0 := bD.at 0 _ rfl
        have d1 := bD.at 1 _ rfl
        have d2 := bD.at 2 _ rfl
        have d3 := bD.at 3 _ rfl
        have d4 := bD.at 4 _ rfl
        have h0 := bD.frozen 0
        have h1' := bD.frozen 1
        have h2 := bD.frozen 2
        have h3 := bD.frozen 3
        have h4 := bD.frozen 4
        obtain ⟨bf, qf⟩ := store5 (k := 0) (n := 0) (s := ⟨#[]⟩) (s3 := .slice none 0 0) (s4 := .slice none 0 0) HD.out.1 bD HD.out.2
        obtain ⟨ws, hws⟩ : ∃ x, set5 wg D 0 (.int .i64 0) (.int .i64 0) (.string ⟨#[]⟩) (.slice none 0 0) (.slice none 0 0) = x := ⟨_, rfl⟩
        rw [hws] at qf
        unfold set5 at hws
        simp only [Nat.zero_add] at hws
        have Ls := Lib.hid (LS.out _ _ LB.out qf)
        clear bf qf bD
        refine Go.wpAnyH_ready (rs := [10]) (by kernel_rfl) (by simp) ?_
        refine Go.AllReadyH.cons rfl (fun K hK => ?_) Go.AllReadyH.nil
        rw [if_pos (by rfl)]
        go_simp
        refine hK.out _ _ (SEG.out _ Ls.out) (fun hHeld => ?_)
        clear hK K
        refine Go.wpAnyH_take (i := 11) (oi := _) (v := ?_) rfl (by kernel_rfl) (by kernel_rfl) (by kernel_rfl) (fun _ _ _ h => h) (Or.inl ⟨by rfl, ?_⟩) (by assumption) ?_
        rotate_left 1
        · intro wx hSw
          go_simp <;> with_reducible rfl
        simp only [Act.put, List.getElem_toArray, List.getElem_cons_zero, List.getElem_cons_succ, List.setIfInBounds_toArray, List.set_cons_zero, List.set_cons_succ]
        refine Go.wpAnyH_done (by kernel_rfl) ?_ _
        clear d0 d1 d2 d3 d4 h0 h1' h2 h3 h4 hws hHeld
        have bS := (LR.out _ Ls.out).bk
        have s0 := bS.at 0 _ rfl
        have s1 := bS.at 1 _ rfl
        have s2 := bS.at 2 _ rfl
        have s3 := bS.at 3 _ rfl
        have s4 := bS.at 4 _ rfl
        clear bS
        go_wp2_with fail
        refine Go.wp_region_held_drew (S := (fun w' => w'.cell? ⟨b, o + k, none⟩ = some (.string x) ∧ w'.cell? ⟨bi, oi + k * 5, none⟩ = some (.int .i64 yk) ∧ w'.cell? ⟨bi, oi + k * 5 + 1, none⟩ = some (.int .i64 yn) ∧ w'.cell? ⟨bi, oi + k * 5 + 2, none⟩ = some (.string ys) ∧ w'.cell? ⟨bi, oi + k * 5 + 3, none⟩ = some (.slice Y3 n5 y3) ∧ w'.cell? ⟨bi, oi + k * 5 + 4, none⟩ = some (.slice Y4 n6 y4))) (by kernel_rfl) (SEP.out _ ((QWL.out _ Ls.out).trans (Q.drewN _ 1))) (fun hHeld => ?_)
        refine Go.wpAnyH_take (i := 1) (oi := _) (v := ?_) rfl (by kernel_rfl) (by kernel_rfl) (by kernel_rfl) (fun _ _ _ h => h) (Or.inl ⟨by rfl, ?_⟩) (by assumption) ?_
        rotate_left 1
        · intro wx hSw
          go_simp <;> with_reducible rfl
        simp only [Act.put, List.getElem_toArray, List.getElem_cons_zero, List.getElem_cons_succ, List.setIfInBounds_toArray, List.set_cons_zero, List.set_cons_succ]
        refine Go.wpAnyH_take (i := 2) (oi := _) (v := ?_) rfl (by kernel_rfl) (by kernel_rfl) (by kernel_rfl) (fun _ _ _ h => h) (Or.inl ⟨by rfl, ?_⟩) (by assumption) ?_
        rotate_left 1
        · intro wx hSw
          go_simp <;> with_reducible rfl
        simp only [Act.put, List.getElem_toArray, List.getElem_cons_zero, List.getElem_cons_succ, List.setIfInBounds_toArray, List.set_cons_zero, List.set_cons_succ]
        refine Go.wpAnyH_take (i := 3) (oi := _) (v := ?_) rfl (by kernel_rfl) (by kernel_rfl) (by kernel_rfl) (fun _ _ _ h => h) (Or.inl ⟨by rfl, ?_⟩) (by assumption) ?_
        rotate_left 1
        · intro wx hSw
          go_simp <;> with_reducible rfl
        simp only [Act.put, List.getElem_toArray, List.getElem_cons_zero, List.getElem_cons_succ, List.setIfInBounds_toArray, List.set_cons_zero, List.set_cons_succ]
        refine Go.wpAnyH_take (i := 4) (oi := _) (v := ?_) rfl (by kernel_rfl) (by kernel_rfl) (by kernel_rfl) (fun _ _ _ h => h) (Or.inl ⟨by rfl, ?_⟩) (by assumption) ?_
        rotate_left 1
        · intro wx hSw
          go_simp <;> with_reducible rfl
        simp only [Act.put, List.getElem_toArray, List.getElem_cons_zero, List.getElem_cons_succ, List.setIfInBounds_toArray, List.set_cons_zero, List.set_cons_succ]
        refine Go.wpAnyH_take (i := 5) (oi := _) (v := ?_) rfl (by kernel_rfl) (by kernel_rfl) (by kernel_rfl) (fun _ _ _ h => h) (Or.inl ⟨by rfl, ?_⟩) (by assumption) ?_
        rotate_left 1
        · intro wx hSw
          go_simp <;> with_reducible rfl
        simp only [Act.put, List.getElem_toArray, List.getElem_cons_zero, List.getElem_cons_succ, List.setIfInBounds_toArray, List.set_cons_zero, List.set_cons_succ]
        refine Go.wpAnyH_take (i := 6) (oi := _) (v := ?_) rfl (by kernel_rfl) (by kernel_rfl) (by kernel_rfl) (fun _ _ _ h => h) (Or.inl ⟨by rfl, ?_⟩) (by assumption) ?_
        rotate_left 1
        · intro wx hSw
          go_simp <;> with_reducible rfl
        simp only [Act.put, List.getElem_toArray, List.getElem_cons_zero, List.getElem_cons_succ, List.setIfInBounds_toArray, List.set_cons_zero, List.set_cons_succ]
        refine Go.wpAnyH_take (i := 7) (oi := _) (v := ?_) rfl (by kernel_rfl) (by kernel_rfl) (by kernel_rfl) (fun _ _ _ h => h) (Or.inl ⟨by rfl, ?_⟩) (by assumption) ?_
        rotate_left 1
        · intro wx hSw
          go_simp <;> with_reducible rfl
        simp only [Act.put, List.getElem_toArray, List.getElem_cons_zero, List.getElem_cons_succ, List.setIfInBounds_toArray, List.set_cons_zero, List.set_cons_succ]
        refine Go.wpAnyH_take (i := 8) (oi := _) (v := ?_) rfl (by kernel_rfl) (by kernel_rfl) (by kernel_rfl) (fun _ _ _ h => h) (Or.inl ⟨by rfl, ?_⟩) (by assumption) ?_
        rotate_left 1
        · intro wx hSw
          go_simp <;> with_reducible rfl
        simp only [Act.put, List.getElem_toArray, List.getElem_cons_zero, List.getElem_cons_succ, List.setIfInBounds_toArray, List.set_cons_zero, List.set_cons_succ]
        refine Go.wpAnyH_ready (rs := [0]) (by kernel_rfl) (by simp) ?_
        refine Go.AllReadyH.cons rfl (fun K hK => ?_) Go.AllReadyH.nil
        rw [if_pos (by rfl)]
        go_simp
        refine hK.out _ _ (SEP.out _ ((QWL.out _ Ls.out).trans (Q.drewN _ 1))) (fun hHeld => ?_)
        clear hK K s0 s1 s2 s3 s4
        refine Go.wpAnyH_ready (rs := [9]) (by kernel_rfl) (by simp) ?_
        refine Go.AllReadyH.cons rfl (fun K hK => ?_) Go.AllReadyH.nil
        rw [if_pos (by rfl)]
        go_simp
        refine (cP.out _ (LS.out _ _ Ls.out (Q.drewN _ 1))).mono ?_
        rintro e w2 ⟨BI, dI, BK, dK, rfl, i3, i4, q2⟩
        have Lp := Lib.hid (LS.out _ _ Ls.out ((Q.drewN _ 1).trans q2))
        rw [HNN.out] at i3 i4 ⊢
        have NX := Lib.hid ((LR.out _ Lp.out).next x (⟨yk, yn, ys, yl, yks⟩ : V) HXW.out.1 HXW.out.2 HNN.out.symm i3 i4)
        refine hK.out _ _ (SEP.out _ (QWL.out _ Lp.out)) (fun hHeld => ?_)
        clear hK K i3 i4 q2
        have bS := (LR.out _ Lp.out).bk
        have d0 := bS.at 0 _ rfl
        have d1 := bS.at 1 _ rfl
        have d2 := bS.at 2 _ rfl
        have d3 := bS.at 3 _ rfl
        have d4 := bS.at 4 _ rfl
        have h0 := bS.frozen 0
        have h1' := bS.frozen 1
        have h2 := bS.frozen 2
        have h3 := bS.frozen 3
        have h4 := bS.frozen 4
        obtain ⟨wt, hwt⟩ : ∃ x, set5 w2 S 0 (.int .i64 5) (.int .i64 0) (.string ⟨#[]⟩) (.slice BI N dI) (.slice BK N dK) = x := ⟨_, rfl⟩
        rw [hwt] at NX
        unfold set5 at hwt
        simp only [Nat.zero_add] at hwt
        clear bS
        refine Go.wpAnyH_ready (rs := [10]) (by kernel_rfl) (by simp) ?_
        refine Go.AllReadyH.cons rfl (fun K hK => ?_) Go.AllReadyH.nil
        rw [if_pos (by rfl)]
        go_simp
        refine hK.out _ _ (SEP.out _ (QP.out.trans NX.out.q)) (fun hHeld => ?_)
        clear hK K
        refine Go.wpAnyH_done (by kernel_rfl) ?_ _
        clear d0 d1 d2 d3 d4 h0 h1' h2 h3 h4 hwt hHeld
        have hnb : n ≤ 1000 := HN.out.2.2
        go_wp2_with fail
        go_roundw
        case rel => exact ⟨k + 1, putP m x (⟨yk, yn, ys, yl, yks⟩ : V), N, BI, dI, BK, dK, hkn.out, by go_num, NX, HCL, HV2⟩
        case measure => have := hkn.out; simp [intOf]; omega

end Go.Proofs.YtjmchjphdfbhiaaGreatDoor.val
