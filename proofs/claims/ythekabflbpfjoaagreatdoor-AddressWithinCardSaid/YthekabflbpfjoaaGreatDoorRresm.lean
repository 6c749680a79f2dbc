/- The reference's Reserved and Check. -/
import Derived.Test.YthekabflbpfjoaaGreatDoorAvbm
import Derived.Test.YthekabflbpfjoaaGreatDoorAvrm
import Derived.Test.YthekabflbpfjoaaGreatDoorRkeym
namespace Go.Proofs.YthekabflbpfjoaaGreatDoor.adr
open Go.RowKit
open Go.Proofs.YthekabflbpfjoaaGreatDoor

set_option maxHeartbeats 4000000 in
theorem refReserved_any (s : ByteArray) (w : World) :
    Calls Tryz.prog 30 #[.string s] w fun e w' => e = .returned (.bool (words.contains s.data.toList)) ∧ Q w w' := by
  obtain ⟨ANS, hA⟩ : ∃ b, words.contains s.data.toList = b := ⟨_, rfl⟩
  rw [hA]
  have HA := Lib.hid hA
  clear hA
  go_enter Tryz.func30, Tryz.ntmps30
  go_wp2_with fail
  have bk := Bk.new #[.string ⟨#[109, 111, 100, 117, 108, 101]⟩, .string ⟨#[100, 97, 116, 97]⟩, .string ⟨#[118, 97, 114]⟩, .string ⟨#[108, 111, 99, 97, 108]⟩, .string ⟨#[111, 117, 116, 112, 117, 116]⟩, .string ⟨#[101, 97, 99, 104]⟩, .string ⟨#[99, 111, 117, 110, 116]⟩, .string ⟨#[114, 101, 109, 111, 116, 101]⟩, .string ⟨#[112, 97, 116, 104]⟩, .string ⟨#[115, 101, 108, 102]⟩, .string ⟨#[99, 104, 97, 110, 103, 101]⟩] 9 w
  have Q1 := Lib.hid (Q.alloc w (.cells #[.string ⟨#[109, 111, 100, 117, 108, 101]⟩, .string ⟨#[100, 97, 116, 97]⟩, .string ⟨#[118, 97, 114]⟩, .string ⟨#[108, 111, 99, 97, 108]⟩, .string ⟨#[111, 117, 116, 112, 117, 116]⟩, .string ⟨#[101, 97, 99, 104]⟩, .string ⟨#[99, 111, 117, 110, 116]⟩, .string ⟨#[114, 101, 109, 111, 116, 101]⟩, .string ⟨#[112, 97, 116, 104]⟩, .string ⟨#[115, 101, 108, 102]⟩, .string ⟨#[99, 104, 97, 110, 103, 101]⟩] 9))
  generalize w.alloc (.cells #[.string ⟨#[109, 111, 100, 117, 108, 101]⟩, .string ⟨#[100, 97, 116, 97]⟩, .string ⟨#[118, 97, 114]⟩, .string ⟨#[108, 111, 99, 97, 108]⟩, .string ⟨#[111, 117, 116, 112, 117, 116]⟩, .string ⟨#[101, 97, 99, 104]⟩, .string ⟨#[99, 111, 117, 110, 116]⟩, .string ⟨#[114, 101, 109, 111, 116, 101]⟩, .string ⟨#[112, 97, 116, 104]⟩, .string ⟨#[115, 101, 108, 102]⟩, .string ⟨#[99, 104, 97, 110, 103, 101]⟩] 9) = w1 at *
  have HC : Hid (∀ (k : Nat) (h : k < words.length), ∃ X : ByteArray, X.data.toList = words[k] ∧ w1.cell? ⟨w.heap.size, k, none⟩ = some (.string X)) := Lib.hid (fun k h => ⟨⟨words[k].toArray⟩, rfl, Bk.at bk k _ (by
    match k, h with
    | 0, _ => rfl
    | 1, _ => rfl
    | 2, _ => rfl
    | 3, _ => rfl
    | 4, _ => rfl
    | 5, _ => rfl
    | 6, _ => rfl
    | 7, _ => rfl
    | 8, _ => rfl
    | 9, _ => rfl
    | 10, _ => rfl
    | k + 11, h => exact absurd h (by simp only [words, List.length_cons, List.length_nil]; omega))⟩)
  clear bk
  generalize w.heap.size = b at *
  go_loop [4] (fun i => ∃ k : Nat, k ≤ 11 ∧ i = .int .i64 k ∧ Hid (∀ (j : Nat) (h : j < words.length), j < k → words[j] ≠ s.data.toList)) (fun i => 11 - (intOf i).toNat)
  case atStart => exact ⟨0, Nat.zero_le _, rfl, Lib.hid (fun j _ h => absurd h (Nat.not_lt_zero _))⟩
  case round =>
    obtain ⟨k, hk, rfl, HS⟩ := hrel
    by_cases hlt : k < 11
    · have hw : k < words.length := hlt
      obtain ⟨X, hX, hc⟩ := HC.out k hw
      have hlt' : (k : Int) < 11 := by omega
      have HX := Lib.hid hX
      clear hX HC
      cases hq : (X.toList == s.toList) with
      | true =>
        have : ANS = true := by
          rw [← HA.out, List.contains_iff_mem, ← Lib.toList_data s, ← beq_iff_eq.1 hq, Lib.toList_data, HX.out]
          exact List.getElem_mem hw
        subst this
        go_wp2_with fail
        go_ret
        exact ⟨rfl, Q1.out⟩
      | false =>
        have HS' : Hid (∀ (j : Nat) (h : j < words.length), j < k + 1 → words[j] ≠ s.data.toList) := Lib.hid (fun j hj hjk => by
          by_cases e : j = k
          · subst e
            intro h
            rw [← HX.out, ← Lib.toList_data, ← Lib.toList_data] at h
            rw [h] at hq
            simp at hq
          · exact HS.out j hj (by omega))
        go_wp2_with fail
        go_round
        case rel => exact ⟨k + 1, hlt, by go_num, HS'⟩
        case measure => simp [intOf]; omega
    · obtain rfl : k = 11 := by omega
      have : ANS = false := by
        cases hb : ANS with
        | false => rfl
        | true =>
          exfalso
          have h := HA.out
          rw [hb, List.contains_iff_mem] at h
          obtain ⟨j, hj, e⟩ := List.getElem_of_mem h
          exact HS.out j hj hj e
      subst this
      go_wp2_with fail
      go_ret
      exact ⟨rfl, Q1.out⟩

set_option maxHeartbeats 8000000 in
theorem refCheck_any (A : Option Addr) (n c : Nat) (ms : List St) (r : Rs) (w : World) (hn : n = ms.length) (hI : In A ms w) (hb : Ab ms r) (hlim : ms.length ≤ maxLen) :
    Calls Tryz.prog 10 #[rv (.slice A n c) r] w fun e w' => e = .returned (.int .i64 (chk ⟨ms, r⟩)) ∧ Q w w' := by
  unfold maxLen at hlim
  obtain ⟨d, ty, nm, ⟨kd, m, t⟩⟩ := r
  have cT := Lib.hid (fun w' => refIdentifier_any ty w' hb.type)
  have cR := Lib.hid (fun w' => refReserved_any ty w')
  have cN := Lib.hid (fun w' => refIdentifier_any nm w' hb.name)
  have cK : Hid (∀ w', Calls Tryz.prog 29 #[.agg #[.int .i64 kd, .int .i64 m, .string t]] w' fun e w'' => e = .returned (.bool (okK ⟨kd, m, t⟩)) ∧ Q w' w'') := fun w' => refKey_any ⟨kd, m, t⟩ w' hb.key.str
  have cS : Hid (∀ (i : Nat) (h : i < ms.length) w', Calls Tryz.prog 28 #[.string ms[i].name] w' fun e w'' => e = .returned (.bool (isId ms[i].name.data.toList)) ∧ w' = w'') := fun i h w' => refIdentifier_any ms[i].name w' (hb.steps _ (List.getElem_mem h)).1
  have cQ : Hid (∀ (i : Nat) (h : i < ms.length) w', Calls Tryz.prog 29 #[.agg #[.int .i64 ms[i].key.kind, .int .i64 ms[i].key.num, .string ms[i].key.str]] w' fun e w'' => e = .returned (.bool (okK ms[i].key)) ∧ Q w' w'') := fun i h w' => refKey_any ms[i].key w' (hb.steps _ (List.getElem_mem h)).2.str
  have HI := Lib.hid hI
  clear hI hb
  unfold rv
  simp only
  have hch : chk ⟨ms, ⟨d, ty, nm, ⟨kd, m, t⟩⟩⟩ = if 16 < n then 4 else if chkS ms = 0 then (if isTy ty.data.toList = false then 7 else if isId nm.data.toList = false then 7 else if okK ⟨kd, m, t⟩ = false then 1 else 0) else chkS ms := by rw [hn]; rfl
  rw [hch]
  clear hch
  unfold isTy
  generalize words.contains ty.data.toList = RE at *
  generalize isId ty.data.toList = TY at *
  generalize isId nm.data.toList = NM at *
  generalize okK ⟨kd, m, t⟩ = OK at *
  have HN := Lib.hid hn
  by_cases h16 : 16 < n
  · rw [if_pos h16]
    have h16' : 16 < (n : Int) := by omega
    clear hn HN h16 hlim
    go_enter Tryz.func10, Tryz.ntmps10
    go_wp2_with fail
    go_ret
    exact ⟨rfl, Q.alloc _ _⟩
  · rw [if_neg h16]
    have h16' : (n : Int) ≤ 16 := by omega
    clear hn h16 hlim
    obtain ⟨ANS, hANS⟩ : ∃ z, chkS ms = z := ⟨_, rfl⟩
    rw [hANS]
    have H0 := Lib.hid hANS
    clear hANS
    go_enter Tryz.func10, Tryz.ntmps10
    go_wp2_with fail
    have BB := Lib.hid (Bk.new #[.slice A n c, .bool d, .string ty, .string nm, .int .i64 kd, .int .i64 m, .string t] 27 w)
    have Q1 := Lib.hid (Q.alloc w (.cells #[.slice A n c, .bool d, .string ty, .string nm, .int .i64 kd, .int .i64 m, .string t] 27))
    generalize w.alloc (.cells #[.slice A n c, .bool d, .string ty, .string nm, .int .i64 kd, .int .i64 m, .string t] 27) = w1 at *
    go_loopw [3] (fun i wr => ∃ k : Nat, k ≤ n ∧ i = .int .i64 k ∧ Hid (Q w wr) ∧ Hid (Bk w.heap.size #[.slice A n c, .bool d, .string ty, .string nm, .int .i64 kd, .int .i64 m, .string t] 27 wr) ∧ Hid (chkS (ms.drop k) = ANS)) (fun i _ => n - (intOf i).toNat)
    case atStart => exact ⟨0, Nat.zero_le _, rfl, Q1, BB, H0⟩
    case round =>
      clear BB Q1 H0
      obtain ⟨k, hk, rfl, QQ, BB, HS⟩ := hrel
      have l0 := BB.out.at 0 (.slice A n c) rfl
      by_cases hlt : k < n
      · have hlt2 : k < ms.length := by rw [← HN.out]; exact hlt
        obtain ⟨b, o, rfl, hbb, hcc⟩ := HI.out (by intro e; rw [e] at hlt2; cases hlt2)
        have hc2 := (HI.out.stays QQ.out) (by intro e; rw [e] at hlt2; cases hlt2)
        obtain ⟨b', o', e', _, hcc'⟩ := hc2
        simp only [Option.some.injEq, Addr.mk.injEq, and_true] at e'
        obtain ⟨rfl, rfl⟩ := e'
        obtain ⟨g0, g1, g2, g3⟩ := hcc' k hlt2
        have cI := Lib.hid (cS.out k hlt2)
        have cJ := Lib.hid (cQ.out k hlt2)
        have hst := chkS_drop ms k hlt2
        unfold chkN at hst
        clear hbb hcc hcc' cT cR cN cK cS cQ
        generalize ms[k].name = sn at *
        generalize ms[k].key = sk at *
        obtain ⟨skd, sm, st⟩ := sk
        simp only at g1 g2 g3 cJ
        have hz := HS.out
        rw [hst] at hz
        clear hst HS
        generalize isId sn.data.toList = EI at *
        generalize okK ⟨skd, sm, st⟩ = EK at *
        cases EI with
        | false =>
          have hz' : (7 : Int) = ANS := by simpa using hz
          subst hz'
          clear hz cJ g1 g2 g3
          go_wp2_with fail
          refine (cI.out _).mono ?_; rintro e w4 ⟨rfl, rfl⟩
          go_wp2_with fail
          go_ret
          exact ⟨rfl, QQ.out⟩
        | true =>
          cases EK with
          | false =>
            have hz' : (1 : Int) = ANS := by simpa using hz
            subst hz'
            clear hz
            go_wp2_with fail
            refine (cI.out _).mono ?_; rintro e w4 ⟨rfl, rfl⟩
            go_wp2_with fail
            refine (cJ.out _).mono ?_; rintro e w5 ⟨rfl, q5⟩
            have Q5 := Lib.hid (QQ.out.trans q5)
            clear q5
            go_wp2_with fail
            go_ret
            exact ⟨rfl, Q5.out⟩
          | true =>
            have HZ : Hid (chkS (ms.drop (k + 1)) = ANS) := Lib.hid (by simpa using hz)
            clear hz
            go_wp2_with fail
            refine (cI.out _).mono ?_; rintro e w4 ⟨rfl, rfl⟩
            go_wp2_with fail
            refine (cJ.out _).mono ?_; rintro e w5 ⟨rfl, q5⟩
            have Q5 := Lib.hid (QQ.out.trans q5)
            have B5 := Lib.hid (BB.out.stays q5)
            clear q5
            go_wp2_with fail
            go_roundw
            case rel => exact ⟨k + 1, hlt, by go_num, Q5, B5, HZ⟩
            case measure => simp [intOf]; omega
      · obtain rfl : n = k := by omega
        have hz := HS.out
        rw [List.drop_of_length_le (by rw [HN.out]; exact Nat.le_refl _)] at hz
        have hz0 : ANS = 0 := hz.symm
        subst hz0
        have l1 := BB.out.at 1 (.bool d) rfl
        have l2 := BB.out.at 2 (.string ty) rfl
        have l3 := BB.out.at 3 (.string nm) rfl
        have l4 := BB.out.at 4 (.int .i64 kd) rfl
        have l5 := BB.out.at 5 (.int .i64 m) rfl
        have l6 := BB.out.at 6 (.string t) rfl
        clear HS hz cS cQ hlt hk
        cases TY with
        | false =>
          clear BB
          go_wp2_with fail
          refine (cT.out _).mono ?_; rintro e w4 ⟨rfl, rfl⟩
          go_wp2_with fail
          go_ret
          exact ⟨rfl, QQ.out⟩
        | true =>
          cases RE with
          | true =>
            go_wp2_with fail
            refine (cT.out _).mono ?_; rintro e w4 ⟨rfl, rfl⟩
            go_wp2_with fail
            refine (cR.out _).mono ?_; rintro e w6 ⟨rfl, q6⟩
            replace QQ := Lib.hid (QQ.out.trans q6)
            replace BB := Lib.hid (BB.out.stays q6)
            clear q6 l0 l1 l2 l3 l4 l5 l6
            have l3 := BB.out.at 3 (.string nm) rfl
            have l4 := BB.out.at 4 (.int .i64 kd) rfl
            have l5 := BB.out.at 5 (.int .i64 m) rfl
            have l6 := BB.out.at 6 (.string t) rfl
            go_wp2_with fail
            go_ret
            exact ⟨rfl, QQ.out⟩
          | false =>
            cases NM with
            | false =>
              go_wp2_with fail
              refine (cT.out _).mono ?_; rintro e w4 ⟨rfl, rfl⟩
              go_wp2_with fail
              refine (cR.out _).mono ?_; rintro e w6 ⟨rfl, q6⟩
              replace QQ := Lib.hid (QQ.out.trans q6)
              replace BB := Lib.hid (BB.out.stays q6)
              clear q6 l0 l1 l2 l3 l4 l5 l6
              have l3 := BB.out.at 3 (.string nm) rfl
              have l4 := BB.out.at 4 (.int .i64 kd) rfl
              have l5 := BB.out.at 5 (.int .i64 m) rfl
              have l6 := BB.out.at 6 (.string t) rfl
              go_wp2_with fail
              refine (cN.out _).mono ?_; rintro e w4 ⟨rfl, rfl⟩
              go_wp2_with fail
              go_ret
              exact ⟨rfl, QQ.out⟩
            | true =>
              cases OK with
              | false =>
                go_wp2_with fail
                refine (cT.out _).mono ?_; rintro e w4 ⟨rfl, rfl⟩
                go_wp2_with fail
                refine (cR.out _).mono ?_; rintro e w6 ⟨rfl, q6⟩
                replace QQ := Lib.hid (QQ.out.trans q6)
                replace BB := Lib.hid (BB.out.stays q6)
                clear q6 l0 l1 l2 l3 l4 l5 l6
                have l3 := BB.out.at 3 (.string nm) rfl
                have l4 := BB.out.at 4 (.int .i64 kd) rfl
                have l5 := BB.out.at 5 (.int .i64 m) rfl
                have l6 := BB.out.at 6 (.string t) rfl
                go_wp2_with fail
                refine (cN.out _).mono ?_; rintro e w4 ⟨rfl, rfl⟩
                go_wp2_with fail
                refine (cK.out _).mono ?_; rintro e w5 ⟨rfl, q5⟩
                have Q5 := Lib.hid (QQ.out.trans q5)
                clear q5
                go_wp2_with fail
                go_ret
                exact ⟨rfl, Q5.out⟩
              | true =>
                go_wp2_with fail
                refine (cT.out _).mono ?_; rintro e w4 ⟨rfl, rfl⟩
                go_wp2_with fail
                refine (cR.out _).mono ?_; rintro e w6 ⟨rfl, q6⟩
                replace QQ := Lib.hid (QQ.out.trans q6)
                replace BB := Lib.hid (BB.out.stays q6)
                clear q6 l0 l1 l2 l3 l4 l5 l6
                have l3 := BB.out.at 3 (.string nm) rfl
                have l4 := BB.out.at 4 (.int .i64 kd) rfl
                have l5 := BB.out.at 5 (.int .i64 m) rfl
                have l6 := BB.out.at 6 (.string t) rfl
                go_wp2_with fail
                refine (cN.out _).mono ?_; rintro e w4 ⟨rfl, rfl⟩
                go_wp2_with fail
                refine (cK.out _).mono ?_; rintro e w5 ⟨rfl, q5⟩
                have Q5 := Lib.hid (QQ.out.trans q5)
                clear q5
                go_wp2_with fail
                go_ret
                exact ⟨rfl, Q5.out⟩

end Go.Proofs.YthekabflbpfjoaaGreatDoor.adr
