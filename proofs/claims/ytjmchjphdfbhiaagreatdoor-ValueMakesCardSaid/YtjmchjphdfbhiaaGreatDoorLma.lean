/- The law ValueMakes. -/
import Derived.Test.YtjmchjphdfbhiaaGreatDoorVal
import Derived.Test.YtjmchjphdfbhiaaGreatDoorWmk
import Derived.Test.YtjmchjphdfbhiaaGreatDoorWsz
import Derived.Test.YtjmchjphdfbhiaaGreatDoorWfx
namespace Go.Proofs.YtjmchjphdfbhiaaGreatDoor.val
open Go.RowKit
open Go.Proofs.YtjmchjphdfbhiaaGreatDoor
open Go.Proofs.YtjmchjphdfbhiaaGreatDoor.lit (Fx)
open Go.Proofs.YtjmchjphdfbhiaaGreatDoor.val.cp (Fit FitL Fit_iff FitL_cons FitL_nil)
theorem same_self (v : V) : sameB false v v = true := (same_eq.1 v v).2 rfl
theorem wf_one {k n : Int} {s : ByteArray} (hk : 0 ≤ k ∧ k ≤ 9) (hn : -9223372036854775808 ≤ n ∧ n ≤ 9223372036854775807) (hs : s.size ≤ maxLen) : Wf ⟨k, n, s, [], []⟩ :=
  (Wf_iff _).2 ⟨⟨by show _ ≤ k; omega, by show k ≤ _; omega⟩, hn, hs, Nat.zero_le _, Nat.zero_le _, (fun x hx => absurd hx (List.not_mem_nil)), WfL_nil⟩
set_option maxRecDepth 100000 in
set_option maxHeartbeats 8000000 in
theorem makesLaw_any (n : Int) (s : ByteArray) (A : Option Addr) (m c : Nat) (w : World) (bd : -9223372036854775808 ≤ n ∧ n ≤ 9223372036854775807) (hs : s.size ≤ maxLen) (_hm : m ≤ maxLen) (g : ∃ l : List V, l.length = m ∧ Is (.slice A m c) l w ∧ WfL l ∧ SzL l) (f : Fx w) (hz : s.size ≤ 281474976710656) :
    Calls Tryz.prog 4 #[.int .i64 n, .string s, .slice A m c] w fun e w' => e = .returned (.bool true) ∧ Q w w' := by
  have _hm' := _hm
  clear _hm
  obtain ⟨l, hl, hi, hw, hzl⟩ := g
  have cA := Lib.hid (fun w' (q : Q w w') => awake_any w' (q.fx f))
  have cE : Hid (∀ (k n : Int) (s : ByteArray), Wf ⟨k, n, s, [], []⟩ → ∀ w' (X3 : Option Addr) (x3 : Nat) (X4 : Option Addr) (x4 : Nat) (Y3 : Option Addr) (y3 : Nat) (Y4 : Option Addr) (y4 : Nat), Calls Tryz.prog 15 #[.agg #[.int .i64 k, .int .i64 n, .string s, .slice X3 0 x3, .slice X4 0 x4], .agg #[.int .i64 k, .int .i64 n, .string s, .slice Y3 0 y3, .slice Y4 0 y4]] w' fun e w'' => e = .returned (.bool true) ∧ Q w' w'') := Lib.hid (fun k n s h w' X3 x3 X4 x4 Y3 y3 Y4 y4 => by
    have g := requal_any ⟨k, n, s, [], []⟩ ⟨k, n, s, [], []⟩ X3 x3 X4 x4 Y3 y3 Y4 y4 w' ⟨Is.nil _ _ _, Ks.nil _ _ _, h⟩ ⟨Is.nil _ _ _, Ks.nil _ _ _, h⟩
    rw [same_self] at g
    exact g)
  have wN : Wf ⟨0, 0, ⟨#[]⟩, [], []⟩ := wf_one (by decide) (by decide) (by decide)
  have wU : Wf ⟨6, 0, ⟨#[]⟩, [], []⟩ := wf_one (by decide) (by decide) (by decide)
  have wB : Hid (∀ b : Bool, Wf ⟨1, if b then 1 else 0, ⟨#[]⟩, [], []⟩) := Lib.hid (fun b => wf_one (by decide) (by cases b <;> decide) (by decide))
  have wM : Wf ⟨2, n, ⟨#[]⟩, [], []⟩ := wf_one (by decide) bd (by decide)
  have wS : Wf ⟨3, 0, s, [], []⟩ := wf_one (by decide) (by decide) hs
  have e1 := Lib.hid (fun w' => cE.out 0 0 ⟨#[]⟩ wN w')
  have e2 := Lib.hid (fun w' => cE.out 6 0 ⟨#[]⟩ wU w')
  have e4 := Lib.hid (fun w' => cE.out 2 n ⟨#[]⟩ wM w')
  have e5 := Lib.hid (fun w' => cE.out 3 0 s wS w')
  have a1 := Lib.hid (fun w' => (null_any w').mono fun _ _ h => Made.leaf h)
  have b1 := Lib.hid (fun w' => rnull_any w')
  have a2 := Lib.hid (fun w' => (unknown_any w').mono fun _ _ h => Made.leaf h)
  have b2 := Lib.hid (fun w' => runknown_any w')
  have a4 := Lib.hid (fun w' => (number_any n w').mono fun _ _ h => Made.leaf h)
  have b4 := Lib.hid (fun w' => rnumber2_any n w')
  have a5 := Lib.hid (fun w' => (string_any s w' hz).mono fun _ _ h => Made.leaf h)
  have b5 := Lib.hid (fun w' => rstring_any s w')
  have cL := Lib.hid (fun w' => rlist_any A m c w')
  have wL : Wf ⟨4, 0, ⟨#[]⟩, l, []⟩ := (Wf_iff _).2 ⟨(show (-9223372036854775808 : Int) ≤ 4 ∧ (4 : Int) ≤ 9223372036854775807 from by decide), (show (-9223372036854775808 : Int) ≤ 0 ∧ (0 : Int) ≤ 9223372036854775807 from by decide), (show (0 : Nat) ≤ maxLen from Nat.zero_le _), by
    show l.length ≤ maxLen
    rw [hl]
    exact _hm', Nat.zero_le _, (fun x hx => absurd hx (List.not_mem_nil)), hw⟩
  have zL : Sz ⟨4, 0, ⟨#[]⟩, l, []⟩ := (Sz_iff ..).2 ⟨(show (0 : Nat) ≤ 281474976710656 from Nat.zero_le _), Nat.zero_le _, (fun x hx => absurd hx (List.not_mem_nil)), hzl⟩
  have hi' : Is (.slice A l.length c) l w := by rw [hl]; exact hi
  have cS : Hid (∀ w', Q w w' → Calls Tryz.prog 10 #[.agg #[.int .i64 4, .int .i64 0, .string ⟨#[]⟩, .slice A m c, .slice none 0 0], .int .i64 400] w' fun e w'' => e = .returned (.bool (smallB ⟨4, 0, ⟨#[]⟩, l, []⟩ 400)) ∧ Q w' w'') := Lib.hid (fun w' q => by
    have h := small_any ⟨4, 0, ⟨#[]⟩, l, []⟩ A c none 0 w' ⟨hi'.stays q, Ks.nil _ _ _, wL⟩
    have h : Calls Tryz.prog 10 #[.agg #[.int .i64 4, .int .i64 0, .string ⟨#[]⟩, .slice A l.length c, .slice none 0 0], .int .i64 400] w' fun e w'' => e = .returned (.bool (smallB ⟨4, 0, ⟨#[]⟩, l, []⟩ 400)) ∧ Q w' w'' := h
    rw [hl] at h
    exact h)
  have cV : Hid (smallB ⟨4, 0, ⟨#[]⟩, l, []⟩ 400 = true → ∀ w', Q w w' → Calls Tryz.prog 26 #[.slice A m c] w' fun e w'' => ∃ X3 x3 X4 x4, e = .returned (.agg #[.int .i64 4, .int .i64 0, .string ⟨#[]⟩, .slice X3 m x3, .slice X4 0 x4]) ∧ Is (.slice X3 m x3) l w'' ∧ Q w' w'') := Lib.hid (fun hsm w' q => by
    obtain ⟨g1, g2⟩ := small_fit hsm zL
    have hnl : nodesL l ≤ 800000 := by rw [nodes] at g2; omega
    have h := list_any A c l w' (hi'.stays q) g1 hnl
    rw [hl] at h
    refine h.mono ?_
    rintro e w'' ⟨s3, s4, rfl, h3, h4, q'⟩
    obtain ⟨X3, x3, rfl, -⟩ := h3.shape
    obtain ⟨X4, x4, rfl, -⟩ := h4.shape
    have h3 : Is (.slice X3 l.length x3) l w'' := h3
    refine ⟨X3, x3, X4, x4, ?_, by rw [hl] at h3; exact h3, q'⟩
    show Ending.returned (.agg #[.int .i64 4, .int .i64 0, .string ⟨#[]⟩, .slice X3 l.length x3, .slice X4 0 x4]) = _
    rw [hl])
  have cQ : Hid (∀ w', Q w w' → ∀ (X3 : Option Addr) (x3 : Nat) (X4 : Option Addr) (x4 : Nat), Is (.slice X3 m x3) l w' → Calls Tryz.prog 15 #[.agg #[.int .i64 4, .int .i64 0, .string ⟨#[]⟩, .slice X3 m x3, .slice X4 0 x4], .agg #[.int .i64 4, .int .i64 0, .string ⟨#[]⟩, .slice A m c, .slice none 0 0]] w' fun e w'' => e = .returned (.bool true) ∧ Q w' w'') := Lib.hid (fun w' q X3 x3 X4 x4 h => by
    have h' : Is (.slice X3 l.length x3) l w' := by rw [hl]; exact h
    have g := requal_any ⟨4, 0, ⟨#[]⟩, l, []⟩ ⟨4, 0, ⟨#[]⟩, l, []⟩ X3 x3 X4 x4 A c none 0 w' ⟨h', Ks.nil _ _ _, wL⟩ ⟨hi'.stays q, Ks.nil _ _ _, wL⟩
    rw [same_self] at g
    have g : Calls Tryz.prog 15 #[.agg #[.int .i64 4, .int .i64 0, .string ⟨#[]⟩, .slice X3 l.length x3, .slice X4 0 x4], .agg #[.int .i64 4, .int .i64 0, .string ⟨#[]⟩, .slice A l.length c, .slice none 0 0]] w' fun e w'' => e = .returned (.bool true) ∧ Q w' w'' := g
    rw [hl] at g
    exact g)
  obtain ⟨S, hS⟩ : ∃ x, smallB ⟨4, 0, ⟨#[]⟩, l, []⟩ 400 = x := ⟨_, rfl⟩
  rw [hS] at cS cV
  clear wN wU wM wS wL zL hi' hs hz hl hi hw hzl hS f
  by_cases h60 : 60 < m
  · have f1 : decide (60 < m) = true := decide_eq_true h60
    have f2 : decide ((60 : Int) < (m : Int)) = true := decide_eq_true (by omega)
    clear h60 cE wB e1 e2 e4 e5 a1 a2 a4 a5 b1 b2 b4 b5 cL cS cV cQ _hm' bd
    have QX := Lib.hid (Q.refl w)
    go_enter Tryz.func4, Tryz.ntmps4
    go_wp2_with fail
    refine (cA.out _ QX.out).mono ?_
    rintro e wz ⟨rfl, qz⟩
    go_wp2_with fail
    go_ret
    exact ⟨rfl, QX.out.trans qz⟩
  have f1 : decide (60 < m) = false := decide_eq_false h60
  have f2 : decide ((60 : Int) < (m : Int)) = false := decide_eq_false (by omega)
  have QX := Lib.hid (Q.refl w)
  clear h60
  cases S
  · clear cE wB e1 e2 e4 e5 a1 a2 a4 a5 b1 b2 b4 b5 cV cQ _hm' bd
    go_enter Tryz.func4, Tryz.ntmps4
    go_wp2_with fail
    refine (cL.out _).mono ?_
    rintro e w1 ⟨rfl, q1⟩
    have Q1 := Lib.hid (QX.out.trans q1)
    clear q1
    go_wp2_with fail
    refine (cS.out _ Q1.out).mono ?_
    rintro e w2 ⟨rfl, q2⟩
    have Q2 := Lib.hid (Q1.out.trans q2)
    clear q2
    go_wp2_with fail
    refine (cA.out _ Q2.out).mono ?_
    rintro e wz ⟨rfl, qz⟩
    go_wp2_with fail
    go_ret
    exact ⟨rfl, Q2.out.trans qz⟩
  · obtain ⟨B, hB⟩ : ∃ B, (n.tmod 2 == 0) = B := ⟨_, rfl⟩
    cases B
    · have a3 : Hid (∀ w', Calls Tryz.prog 20 #[.bool false] w' (Leaf 1 0 ⟨#[]⟩ w')) := Lib.hid (fun w' => (bool_any false w').mono fun _ _ h => Made.leaf h)
      have b3 : Hid (∀ w', Calls Tryz.prog 21 #[.bool false] w' (Leaf 1 0 ⟨#[]⟩ w')) := Lib.hid (fun w' => rbool_any false w')
      have e3 := Lib.hid (fun w' => cE.out 1 0 ⟨#[]⟩ (wB.out false) w')
      clear cE wB
      have cV2 := Lib.hid (cV.out rfl)
      clear cV _hm'
      go_enter Tryz.func4, Tryz.ntmps4
      go_wp2_with fail
      refine (cL.out _).mono ?_
      rintro e w1 ⟨rfl, q1⟩
      have Q1 := Lib.hid (QX.out.trans q1)
      clear q1
      go_wp2_with fail
      refine (cS.out _ Q1.out).mono ?_
      rintro e w2 ⟨rfl, q2⟩
      have Q2 := Lib.hid (Q1.out.trans q2)
      clear q2
      go_wp2_with fail
      refine (a1.out _).mono ?_
      rintro e w3 ⟨X3_2, x3_2, X4_2, x4_2, rfl, q3⟩
      have Q3 := Lib.hid (Q2.out.trans q3)
      clear q3
      go_wp2_with fail
      refine (b1.out _).mono ?_
      rintro e w4 ⟨X3_3, x3_3, X4_3, x4_3, rfl, q4⟩
      have Q4 := Lib.hid (Q3.out.trans q4)
      clear q4
      go_wp2_with fail
      refine (e1.out _ _ _ _ _ _ _ _ _).mono ?_
      rintro e w5 ⟨rfl, q5⟩
      have Q5 := Lib.hid (Q4.out.trans q5)
      clear q5
      go_wp2_with fail
      refine (a2.out _).mono ?_
      rintro e w6 ⟨X3_4, x3_4, X4_4, x4_4, rfl, q6⟩
      have Q6 := Lib.hid (Q5.out.trans q6)
      clear q6
      go_wp2_with fail
      refine (b2.out _).mono ?_
      rintro e w7 ⟨X3_5, x3_5, X4_5, x4_5, rfl, q7⟩
      have Q7 := Lib.hid (Q6.out.trans q7)
      clear q7
      go_wp2_with fail
      refine (e2.out _ _ _ _ _ _ _ _ _).mono ?_
      rintro e w8 ⟨rfl, q8⟩
      have Q8 := Lib.hid (Q7.out.trans q8)
      clear q8
      go_wp2_with fail
      refine (a3.out _).mono ?_
      rintro e w9 ⟨X3_6, x3_6, X4_6, x4_6, rfl, q9⟩
      have Q9 := Lib.hid (Q8.out.trans q9)
      clear q9
      go_wp2_with fail
      refine (b3.out _).mono ?_
      rintro e w10 ⟨X3_7, x3_7, X4_7, x4_7, rfl, q10⟩
      have Q10 := Lib.hid (Q9.out.trans q10)
      clear q10
      go_wp2_with fail
      refine (e3.out _ _ _ _ _ _ _ _ _).mono ?_
      rintro e w11 ⟨rfl, q11⟩
      have Q11 := Lib.hid (Q10.out.trans q11)
      clear q11
      go_wp2_with fail
      refine (a4.out _).mono ?_
      rintro e w12 ⟨X3_8, x3_8, X4_8, x4_8, rfl, q12⟩
      have Q12 := Lib.hid (Q11.out.trans q12)
      clear q12
      go_wp2_with fail
      refine (b4.out _).mono ?_
      rintro e w13 ⟨X3_9, x3_9, X4_9, x4_9, rfl, q13⟩
      have Q13 := Lib.hid (Q12.out.trans q13)
      clear q13
      go_wp2_with fail
      refine (e4.out _ _ _ _ _ _ _ _ _).mono ?_
      rintro e w14 ⟨rfl, q14⟩
      have Q14 := Lib.hid (Q13.out.trans q14)
      clear q14
      go_wp2_with fail
      refine (a5.out _).mono ?_
      rintro e w15 ⟨X3_10, x3_10, X4_10, x4_10, rfl, q15⟩
      have Q15 := Lib.hid (Q14.out.trans q15)
      clear q15
      go_wp2_with fail
      refine (b5.out _).mono ?_
      rintro e w16 ⟨X3_11, x3_11, X4_11, x4_11, rfl, q16⟩
      have Q16 := Lib.hid (Q15.out.trans q16)
      clear q16
      go_wp2_with fail
      refine (e5.out _ _ _ _ _ _ _ _ _).mono ?_
      rintro e w17 ⟨rfl, q17⟩
      have Q17 := Lib.hid (Q16.out.trans q17)
      clear q17
      go_wp2_with fail
      refine (cV2.out _ Q17.out).mono ?_
      rintro e w18 ⟨X3_99, x3_99, X4_99, x4_99, rfl, hI, q18⟩
      have Q18 := Lib.hid (Q17.out.trans q18)
      clear q18
      go_wp2_with fail
      refine (cL.out _).mono ?_
      rintro e w19 ⟨rfl, q19⟩
      have HI := Lib.hid (hI.stays q19)
      have Q19 := Lib.hid (Q18.out.trans q19)
      clear q19 hI
      go_wp2_with fail
      refine (cQ.out _ Q19.out _ _ _ _ HI.out).mono ?_
      rintro e w20 ⟨rfl, q20⟩
      have Q20 := Lib.hid (Q19.out.trans q20)
      clear q20
      go_wp2_with fail
      refine (cA.out _ Q20.out).mono ?_
      rintro e wz ⟨rfl, qz⟩
      go_wp2_with fail
      go_ret
      exact ⟨rfl, Q20.out.trans qz⟩
    · have a3 : Hid (∀ w', Calls Tryz.prog 20 #[.bool true] w' (Leaf 1 1 ⟨#[]⟩ w')) := Lib.hid (fun w' => (bool_any true w').mono fun _ _ h => Made.leaf h)
      have b3 : Hid (∀ w', Calls Tryz.prog 21 #[.bool true] w' (Leaf 1 1 ⟨#[]⟩ w')) := Lib.hid (fun w' => rbool_any true w')
      have e3 := Lib.hid (fun w' => cE.out 1 1 ⟨#[]⟩ (wB.out true) w')
      clear cE wB
      have cV2 := Lib.hid (cV.out rfl)
      clear cV _hm'
      go_enter Tryz.func4, Tryz.ntmps4
      go_wp2_with fail
      refine (cL.out _).mono ?_
      rintro e w1 ⟨rfl, q1⟩
      have Q1 := Lib.hid (QX.out.trans q1)
      clear q1
      go_wp2_with fail
      refine (cS.out _ Q1.out).mono ?_
      rintro e w2 ⟨rfl, q2⟩
      have Q2 := Lib.hid (Q1.out.trans q2)
      clear q2
      go_wp2_with fail
      refine (a1.out _).mono ?_
      rintro e w3 ⟨X3_2, x3_2, X4_2, x4_2, rfl, q3⟩
      have Q3 := Lib.hid (Q2.out.trans q3)
      clear q3
      go_wp2_with fail
      refine (b1.out _).mono ?_
      rintro e w4 ⟨X3_3, x3_3, X4_3, x4_3, rfl, q4⟩
      have Q4 := Lib.hid (Q3.out.trans q4)
      clear q4
      go_wp2_with fail
      refine (e1.out _ _ _ _ _ _ _ _ _).mono ?_
      rintro e w5 ⟨rfl, q5⟩
      have Q5 := Lib.hid (Q4.out.trans q5)
      clear q5
      go_wp2_with fail
      refine (a2.out _).mono ?_
      rintro e w6 ⟨X3_4, x3_4, X4_4, x4_4, rfl, q6⟩
      have Q6 := Lib.hid (Q5.out.trans q6)
      clear q6
      go_wp2_with fail
      refine (b2.out _).mono ?_
      rintro e w7 ⟨X3_5, x3_5, X4_5, x4_5, rfl, q7⟩
      have Q7 := Lib.hid (Q6.out.trans q7)
      clear q7
      go_wp2_with fail
      refine (e2.out _ _ _ _ _ _ _ _ _).mono ?_
      rintro e w8 ⟨rfl, q8⟩
      have Q8 := Lib.hid (Q7.out.trans q8)
      clear q8
      go_wp2_with fail
      refine (a3.out _).mono ?_
      rintro e w9 ⟨X3_6, x3_6, X4_6, x4_6, rfl, q9⟩
      have Q9 := Lib.hid (Q8.out.trans q9)
      clear q9
      go_wp2_with fail
      refine (b3.out _).mono ?_
      rintro e w10 ⟨X3_7, x3_7, X4_7, x4_7, rfl, q10⟩
      have Q10 := Lib.hid (Q9.out.trans q10)
      clear q10
      go_wp2_with fail
      refine (e3.out _ _ _ _ _ _ _ _ _).mono ?_
      rintro e w11 ⟨rfl, q11⟩
      have Q11 := Lib.hid (Q10.out.trans q11)
      clear q11
      go_wp2_with fail
      refine (a4.out _).mono ?_
      rintro e w12 ⟨X3_8, x3_8, X4_8, x4_8, rfl, q12⟩
      have Q12 := Lib.hid (Q11.out.trans q12)
      clear q12
      go_wp2_with fail
      refine (b4.out _).mono ?_
      rintro e w13 ⟨X3_9, x3_9, X4_9, x4_9, rfl, q13⟩
      have Q13 := Lib.hid (Q12.out.trans q13)
      clear q13
      go_wp2_with fail
      refine (e4.out _ _ _ _ _ _ _ _ _).mono ?_
      rintro e w14 ⟨rfl, q14⟩
      have Q14 := Lib.hid (Q13.out.trans q14)
      clear q14
      go_wp2_with fail
      refine (a5.out _).mono ?_
      rintro e w15 ⟨X3_10, x3_10, X4_10, x4_10, rfl, q15⟩
      have Q15 := Lib.hid (Q14.out.trans q15)
      clear q15
      go_wp2_with fail
      refine (b5.out _).mono ?_
      rintro e w16 ⟨X3_11, x3_11, X4_11, x4_11, rfl, q16⟩
      have Q16 := Lib.hid (Q15.out.trans q16)
      clear q16
      go_wp2_with fail
      refine (e5.out _ _ _ _ _ _ _ _ _).mono ?_
      rintro e w17 ⟨rfl, q17⟩
      have Q17 := Lib.hid (Q16.out.trans q17)
      clear q17
      go_wp2_with fail
      refine (cV2.out _ Q17.out).mono ?_
      rintro e w18 ⟨X3_99, x3_99, X4_99, x4_99, rfl, hI, q18⟩
      have Q18 := Lib.hid (Q17.out.trans q18)
      clear q18
      go_wp2_with fail
      refine (cL.out _).mono ?_
      rintro e w19 ⟨rfl, q19⟩
      have HI := Lib.hid (hI.stays q19)
      have Q19 := Lib.hid (Q18.out.trans q19)
      clear q19 hI
      go_wp2_with fail
      refine (cQ.out _ Q19.out _ _ _ _ HI.out).mono ?_
      rintro e w20 ⟨rfl, q20⟩
      have Q20 := Lib.hid (Q19.out.trans q20)
      clear q20
      go_wp2_with fail
      refine (cA.out _ Q20.out).mono ?_
      rintro e wz ⟨rfl, qz⟩
      go_wp2_with fail
      go_ret
      exact ⟨rfl, Q20.out.trans qz⟩
theorem makes_x (n : Int) (s : ByteArray) (A : Option Addr) (m c : Nat) (w : World) (bd : -9223372036854775808 ≤ n ∧ n ≤ 9223372036854775807) (hs : s.size ≤ maxLen ∧ s.size ≤ 281474976710656) (hm : m ≤ maxLen) (g : ∃ l : List V, l.length = m ∧ Is (.slice A m c) l w ∧ WfL l ∧ SzL l) (f : Fx w) :
    Calls Tryz.prog 4 #[.int .i64 n, .string s, .slice A m c] w fun e w' => e = .returned (.bool true) ∧ Q w w' := makesLaw_any n s A m c w bd hs.1 hm g f hs.2

end Go.Proofs.YtjmchjphdfbhiaaGreatDoor.val
