/- The law AddressOwn. -/
import Derived.Test.YthekabflbpfjoaaDoorAvz
import Derived.Test.YthekabflbpfjoaaDoorAvo
namespace Go.Proofs.YthekabflbpfjoaaDoor.adr
open Go.RowKit
open Go.Proofs.YthekabflbpfjoaaDoor

set_option maxRecDepth 100000 in
set_option maxHeartbeats 8000000 in
theorem own_any (A : Option Addr) (n c : Nat) (ms : List St) (r : Rs) (w : World) (hn : n = ms.length) (hI : In A ms w) (hm : Am ms r) (f : Fa w) :
    Calls Tryd.prog 6 #[rv (.slice A n c) r] w fun e w' => e = .returned (.bool true) ∧ Q w w' := by
  have hlim := hm.len
  have cA := wakes w f
  have cF : Hid (∀ w', Q w w' → Calls Tryd.prog 14 #[rv (.slice A n c) r] w' (FewEnds ms r w')) := Lib.hid (fun w' q => few_any A n c ms r w' hn (hI.stays q) hm)
  have cC : Hid (FewOk ms r → ∀ w', Q w w' → Calls Tryd.prog 13 #[rv (.slice A n c) r] w' fun e w'' => e = .returned (.int .i64 (chk ⟨ms, r⟩)) ∧ Q w' w'') := Lib.hid (fun fw w' q => check_any A n c ms r w' (q.fa f) hn (hI.stays q) (hm.ab fw) hlim)
  have cO : Hid (FewOk ms r → chk ⟨ms, r⟩ = 0 → ∀ w', Q w w' → Calls Tryd.prog 12 #[rv (.slice A n c) r] w' fun e w'' => e = .returned (.string ⟨(tSs ms ++ tR r).toArray⟩) ∧ Q w' w'') := Lib.hid (fun fw hc w' q => by
    have h := format_any A n c ms r w' (q.fa f) hn (hI.stays q) (hm.ab fw) hlim
    rw [fA_case, if_pos hc] at h
    exact h)
  have cS : Hid (chk ⟨ms, r⟩ = 0 → ∀ w', Q w w' → Calls Tryd.prog 15 #[.string ⟨(tSs ms ++ tR r).toArray⟩] w' fun e w'' => e = .returned (.tuple #[.string ⟨(tSs (ms.map bareS) ++ tR (bareR r)).toArray⟩, .int .i64 0]) ∧ Q w' w'') := Lib.hid (fun hc w' q => by
    obtain ⟨h16, hs, hr⟩ := chk_ok hc
    obtain ⟨h1, h2, h3⟩ := own_parse h16 hs hr
    have h := static_any ⟨(tSs ms ++ tR r).toArray⟩ w' (q.fa f) (by rw [Lib.size_eq]; have := own_len h16 hs hr; simp only at *; omega)
    simp only [h1, h2, h3, if_pos] at h
    rw [own_static h16 hs hr] at h
    exact h)
  have cW : Hid (chk ⟨ms, r⟩ = 0 → ∀ (p : ByteArray) w', Q w w' → p.size ≤ 1000000 → Wi (tSs ms ++ tR r) p.data.toList → Calls Tryd.prog 16 #[.string ⟨(tSs ms ++ tR r).toArray⟩, .string p] w' fun e w'' => e = .returned (.bool true) ∧ Q w' w'') := Lib.hid (fun hc p w' q hp hw => by
    obtain ⟨h16, hs, hr⟩ := chk_ok hc
    have h := within_any ⟨(tSs ms ++ tR r).toArray⟩ p w' (q.fa f) (by rw [Lib.size_eq]; have := own_len h16 hs hr; simp only at *; omega) hp
    refine h.mono ?_
    rintro e w'' ⟨B, rfl, hB, hq⟩
    rw [hB.out.2 hw]
    exact ⟨rfl, hq⟩)
  have cK : Hid (∀ (k : K) w', Q w w' → Kb k → Calls Tryd.prog 17 #[.agg #[.int .i64 k.kind, .int .i64 k.num, .string k.str]] w' fun e w'' => e = .returned (.string ⟨(fK k).toArray⟩) ∧ Q w' w'') := Lib.hid (fun k w' q => formatKey_any k w' (q.fa f))
  have HM := Lib.hid hm
  have HI := Lib.hid hI
  have HN := Lib.hid hn
  clear f hm hI hn
  unfold maxLen at hlim
  obtain ⟨d, ty, nm, ⟨kd, m, t⟩⟩ := r
  unfold rv at *
  simp only at *
  go_enter Tryd.func6, Tryd.ntmps6
  go_wp2_with fail
  refine (cF.out _ (Q.alloc _ _)).mono ?_; rintro e w1 ⟨B, rfl, hB, q1⟩
  have BB := Lib.hid ((Bk.new #[.slice A n c, .bool d, .string ty, .string nm, .int .i64 kd, .int .i64 m, .string t] 29 w).stays q1)
  have Q1 := Lib.hid ((Q.alloc w (.cells #[.slice A n c, .bool d, .string ty, .string nm, .int .i64 kd, .int .i64 m, .string t] 29)).trans q1)
  clear cF q1
  cases B with
  | false =>
    clear hB cC cO cS cW cK
    go_wp2_with fail
    refine (cA.out _ Q1.out).mono ?_; rintro e w2 ⟨rfl, q2⟩
    go_wp2_with fail
    go_ret
    exact ⟨rfl, Q1.out.trans q2⟩
  | true =>
    have FW := Lib.hid (hB.out rfl)
    clear hB
    have l0 := BB.out.at 0 (.slice A n c) rfl
    have l1 := BB.out.at 1 (.bool d) rfl
    have l2 := BB.out.at 2 (.string ty) rfl
    have l3 := BB.out.at 3 (.string nm) rfl
    have l4 := BB.out.at 4 (.int .i64 kd) rfl
    have l5 := BB.out.at 5 (.int .i64 m) rfl
    have l6 := BB.out.at 6 (.string t) rfl
    go_wp2_with fail
    refine (cC.out FW.out _ Q1.out).mono ?_; rintro e w2 ⟨rfl, q2⟩
    replace BB := Lib.hid (BB.out.stays q2)
    replace Q1 := Lib.hid (Q1.out.trans q2)
    clear cC q2 l0 l1 l2 l3 l4 l5 l6
    obtain ⟨E, hE⟩ : ∃ e, chk ⟨ms, ⟨d, ty, nm, ⟨kd, m, t⟩⟩⟩ = e := ⟨_, rfl⟩
    rw [hE]
    cases hE0 : (E != 0) with
    | true =>
      clear cO cS cW cK hE
      go_wp2_with fail
      refine (cA.out _ Q1.out).mono ?_; rintro e w3 ⟨rfl, q3⟩
      go_wp2_with fail
      go_ret
      exact ⟨rfl, Q1.out.trans q3⟩
    | false =>
      obtain rfl : E = 0 := by simpa using hE0
      have CO := Lib.hid (cO.out FW.out hE)
      have CS := Lib.hid (cS.out hE)
      have CW := Lib.hid (cW.out hE)
      clear cO cS cW hE0
      have HE := Lib.hid hE
      clear hE
      have l0 := BB.out.at 0 (.slice A n c) rfl
      have l1 := BB.out.at 1 (.bool d) rfl
      have l2 := BB.out.at 2 (.string ty) rfl
      have l3 := BB.out.at 3 (.string nm) rfl
      have l4 := BB.out.at 4 (.int .i64 kd) rfl
      have l5 := BB.out.at 5 (.int .i64 m) rfl
      have l6 := BB.out.at 6 (.string t) rfl
      go_wp2_with fail
      refine (CO.out _ Q1.out).mono ?_; rintro e w3 ⟨rfl, q3⟩
      replace BB := Lib.hid (BB.out.stays q3)
      replace Q1 := Lib.hid (Q1.out.trans q3)
      clear CO q3 l0 l1 l2 l3 l4 l5 l6
      go_wp2_with fail
      refine (CS.out _ Q1.out).mono ?_; rintro e w4 ⟨rfl, q4⟩
      replace BB := Lib.hid (BB.out.stays q4)
      replace Q1 := Lib.hid (Q1.out.trans q4)
      clear CS q4
      obtain ⟨h16, hs, hr⟩ := chk_ok HE.out
      have ol := own_len h16 hs hr
      have ol2 := own_len (ms := ms.map bareS) (r := bareR ⟨d, ty, nm, ⟨kd, m, t⟩⟩) (by rw [List.length_map]; exact h16) (bare_chkS ms hs) (bare_chkR hr)
      go_wp2_with fail
      refine (CW.out _ _ Q1.out (by rw [Lib.size_eq]; simp only; omega) (own_self h16 hs hr)).mono ?_; rintro e w5 ⟨rfl, q5⟩
      replace BB := Lib.hid (BB.out.stays q5)
      replace Q1 := Lib.hid (Q1.out.trans q5)
      clear q5
      go_wp2_with fail
      refine (CW.out _ _ Q1.out (by rw [Lib.size_eq]; simp only; omega) (own_bare h16 hs hr)).mono ?_; rintro e w6 ⟨rfl, q6⟩
      replace BB := Lib.hid (BB.out.stays q6)
      replace Q1 := Lib.hid (Q1.out.trans q6)
      clear q6
      go_wp2_with fail
      have WA := Lib.hid (fun (k : Nat) (h : k < ms.length) => own_wi_at (r := ⟨d, ty, nm, ⟨kd, m, t⟩⟩) h16 hs hr h)
      have WN := Lib.hid (fun (k : Nat) (h : k < ms.length) => own_wi_next (r := ⟨d, ty, nm, ⟨kd, m, t⟩⟩) h16 hs hr h)
      have HL : Hid (∀ k : Nat, (tP (ms.take k)).length ≤ 401152) := Lib.hid (fun k => tP_len _ (by rw [List.length_take]; omega) (chkS_take ms k hs))
      have HS := Lib.hid hs
      have hn16 : Hid (n ≤ 16) := Lib.hid (by rw [HN.out]; exact h16)
      clear ol ol2 h16 hs hr HE
      generalize tSs ms ++ tR ⟨d, ty, nm, ⟨kd, m, t⟩⟩ = S at *
      generalize tSs (ms.map bareS) ++ tR (bareR ⟨d, ty, nm, ⟨kd, m, t⟩⟩) = X at *
      go_loopw [6, 7] (fun p i wr => ∃ (k : Nat) (P : ByteArray), k ≤ n ∧ i = .int .i64 k ∧ p = .string P ∧ P.size ≤ 401152 ∧ Hid (Q w wr) ∧ Hid (Bk w.heap.size #[.slice A n c, .bool d, .string ty, .string nm, .int .i64 kd, .int .i64 m, .string t] 29 wr) ∧ Hid (P.data.toList = tP (ms.take k))) (fun _ i _ => n - (intOf i).toNat)
      case atStart => exact ⟨0, ⟨#[]⟩, Nat.zero_le _, rfl, rfl, by decide, Q1, BB, Lib.hid rfl⟩
      case round =>
        clear BB Q1
        obtain ⟨k, P, hk, rfl, rfl, hP, QQ, BB, HP⟩ := hrel
        have l0 := BB.out.at 0 (.slice A n c) rfl
        by_cases hlt : k < n
        · have hlt2 : k < ms.length := by rw [← HN.out]; exact hlt
          obtain ⟨b, o, rfl, hbb, hcc⟩ := HI.out (by intro e; rw [e] at hlt2; cases hlt2)
          obtain ⟨b', o', e', _, hcc'⟩ := (HI.out.stays QQ.out) (by intro e; rw [e] at hlt2; cases hlt2)
          simp only [Option.some.injEq, Addr.mk.injEq, and_true] at e'
          obtain ⟨rfl, rfl⟩ := e'
          obtain ⟨g0, _⟩ := hcc' k hlt2
          have hck := chkS_mem ms HS.out _ (List.getElem_mem hlt2)
          obtain ⟨hid, hok⟩ := chkN_ok hck
          have hns := id_size hid
          have hkb := Lib.hid (okK_Kb hok)
          have hfl := fK_len ms[k].key
          have wa := WA.out k hlt2
          have wn := Lib.hid (WN.out k hlt2)
          have nx := own_next hlt2
          have len1 := HL.out (k + 1)
          rw [← nx] at wn len1
          rw [← HP.out] at wa wn nx len1
          have cKk := Lib.hid (cK.out ms[k].key)
          have hk16 : (k : Int) ≤ 16 := by have := hn16.out; omega
          clear hbb hcc hid hok hck WA WN HL
          by_cases h0 : k = 0
          · have h0' : ¬ (0 : Int) < (k : Int) := by omega
            obtain ⟨P1, hP1⟩ : ∃ z, P ++ ⟨#[109, 111, 100, 117, 108, 101, 46]⟩ ++ ms[k].name = z := ⟨_, rfl⟩
            have jn : joinP k P.data.toList ms[k].name.data.toList = P1.data.toList := by
              rw [← hP1]
              unfold joinP
              rw [if_pos h0]
              simp [modB]
            rw [jn] at wa wn nx len1
            have sz1 : P1.size = P.size + 7 + ms[k].name.size := by rw [← hP1]; simp [ByteArray.size_append]; try rfl
            have f1 : ¬ 9223372036854775807 < P.size + 7 + ms[k].name.size := by omega
            have f2 : ¬ 9223372036854775807 < P.size + 7 := by omega
            have f3 : ¬ 9223372036854775807 < P.size + 1 := by omega
            have f4 : ¬ 9223372036854775807 < P.size + 1 + 7 := by omega
            have cW1 := Lib.hid (CW.out P1 wr QQ.out (by omega) wa)
            clear wa jn h0
            go_wp2_with fail
            refine cW1.out.mono ?_; rintro e v1 ⟨rfl, p1⟩
            clear hP1 cW1 f1 f2 f3 f4 l0 g0
            replace BB := Lib.hid (BB.out.stays p1)
            replace QQ := Lib.hid (QQ.out.trans p1)
            clear p1
            have l0 := BB.out.at 0 (.slice (some ⟨b, o, none⟩) n c) rfl
            obtain ⟨b', o', e', _, hcc⟩ := (HI.out.stays QQ.out) (by intro e; rw [e] at hlt2; cases hlt2)
            simp only [Option.some.injEq, Addr.mk.injEq, and_true] at e'
            obtain ⟨rfl, rfl⟩ := e'
            obtain ⟨_, g1, g2, g3⟩ := hcc k hlt2
            clear hcc
            have cK1 := Lib.hid (cKk.out v1 QQ.out hkb.out)
            clear cKk
            generalize fK ms[k].key = FK at *
            have f5 : ¬ 9223372036854775807 < P1.size + FK.length := by omega
            have f6 : ¬ 9223372036854775807 < P1.size + FK.toArray.size := by simp only [List.size_toArray]; omega
            have f7 : ¬ 9223372036854775807 < P1.size + (⟨FK.toArray⟩ : ByteArray).size := by rw [Lib.size_eq]; exact f5
            go_wp2_with fail
            refine cK1.out.mono ?_; rintro e v2 ⟨rfl, p2⟩
            replace BB := Lib.hid (BB.out.stays p2)
            replace QQ := Lib.hid (QQ.out.trans p2)
            clear p2 cK1 l0 g1 g2 g3
            obtain ⟨P2, hP2⟩ : ∃ z, P1 ++ (⟨FK.toArray⟩ : ByteArray) = z := ⟨_, rfl⟩
            have e2 : P2.data.toList = P1.data.toList ++ FK := by rw [← hP2]; simp
            rw [← e2] at wn nx len1
            have sz2 : P2.size ≤ 401152 := by rw [Lib.size_eq]; exact len1
            have cW2 := Lib.hid (CW.out P2 v2 QQ.out (by omega) wn.out)
            clear wn
            go_wp2_with fail
            refine cW2.out.mono ?_; rintro e v3 ⟨rfl, p3⟩
            replace BB := Lib.hid (BB.out.stays p3)
            replace QQ := Lib.hid (QQ.out.trans p3)
            clear p3 cW2
            have HP2 := Lib.hid nx
            clear nx
            go_wp2_with fail
            go_roundw
            case rel => exact ⟨k + 1, P2, hlt, by go_num, hP2 ▸ rfl, sz2, QQ, BB, HP2⟩
            case measure => simp [intOf]; omega
          · have h0' : (0 : Int) < (k : Int) := by omega
            obtain ⟨P1, hP1⟩ : ∃ z, (P ++ ⟨#[46]⟩) ++ ⟨#[109, 111, 100, 117, 108, 101, 46]⟩ ++ ms[k].name = z := ⟨_, rfl⟩
            have jn : joinP k P.data.toList ms[k].name.data.toList = P1.data.toList := by
              rw [← hP1]
              unfold joinP
              rw [if_neg h0]
              simp [modB, List.append_assoc]
            rw [jn] at wa wn nx len1
            have sz1 : P1.size = P.size + 1 + 7 + ms[k].name.size := by rw [← hP1]; simp [ByteArray.size_append]; try rfl
            have f1 : ¬ 9223372036854775807 < P.size + 1 + 7 + ms[k].name.size := by omega
            have f2 : ¬ 9223372036854775807 < P.size + 7 := by omega
            have f3 : ¬ 9223372036854775807 < P.size + 1 := by omega
            have f4 : ¬ 9223372036854775807 < P.size + 1 + 7 := by omega
            have cW1 := Lib.hid (CW.out P1 wr QQ.out (by omega) wa)
            clear wa jn h0
            go_wp2_with fail
            refine cW1.out.mono ?_; rintro e v1 ⟨rfl, p1⟩
            clear hP1 cW1 f1 f2 f3 f4 l0 g0
            replace BB := Lib.hid (BB.out.stays p1)
            replace QQ := Lib.hid (QQ.out.trans p1)
            clear p1
            have l0 := BB.out.at 0 (.slice (some ⟨b, o, none⟩) n c) rfl
            obtain ⟨b', o', e', _, hcc⟩ := (HI.out.stays QQ.out) (by intro e; rw [e] at hlt2; cases hlt2)
            simp only [Option.some.injEq, Addr.mk.injEq, and_true] at e'
            obtain ⟨rfl, rfl⟩ := e'
            obtain ⟨_, g1, g2, g3⟩ := hcc k hlt2
            clear hcc
            have cK1 := Lib.hid (cKk.out v1 QQ.out hkb.out)
            clear cKk
            generalize fK ms[k].key = FK at *
            have f5 : ¬ 9223372036854775807 < P1.size + FK.length := by omega
            have f6 : ¬ 9223372036854775807 < P1.size + FK.toArray.size := by simp only [List.size_toArray]; omega
            have f7 : ¬ 9223372036854775807 < P1.size + (⟨FK.toArray⟩ : ByteArray).size := by rw [Lib.size_eq]; exact f5
            go_wp2_with fail
            refine cK1.out.mono ?_; rintro e v2 ⟨rfl, p2⟩
            replace BB := Lib.hid (BB.out.stays p2)
            replace QQ := Lib.hid (QQ.out.trans p2)
            clear p2 cK1 l0 g1 g2 g3
            obtain ⟨P2, hP2⟩ : ∃ z, P1 ++ (⟨FK.toArray⟩ : ByteArray) = z := ⟨_, rfl⟩
            have e2 : P2.data.toList = P1.data.toList ++ FK := by rw [← hP2]; simp
            rw [← e2] at wn nx len1
            have sz2 : P2.size ≤ 401152 := by rw [Lib.size_eq]; exact len1
            have cW2 := Lib.hid (CW.out P2 v2 QQ.out (by omega) wn.out)
            clear wn
            go_wp2_with fail
            refine cW2.out.mono ?_; rintro e v3 ⟨rfl, p3⟩
            replace BB := Lib.hid (BB.out.stays p3)
            replace QQ := Lib.hid (QQ.out.trans p3)
            clear p3 cW2
            have HP2 := Lib.hid nx
            clear nx
            go_wp2_with fail
            go_roundw
            case rel => exact ⟨k + 1, P2, hlt, by go_num, hP2 ▸ rfl, sz2, QQ, BB, HP2⟩
            case measure => simp [intOf]; omega
        · obtain rfl : n = k := by omega
          clear HI WA WN HL CW cK HP
          go_wp2_with fail
          refine (cA.out _ QQ.out).mono ?_; rintro e v1 ⟨rfl, p1⟩
          go_wp2_with fail
          go_ret
          exact ⟨rfl, QQ.out.trans p1⟩

end Go.Proofs.YthekabflbpfjoaaDoor.adr
