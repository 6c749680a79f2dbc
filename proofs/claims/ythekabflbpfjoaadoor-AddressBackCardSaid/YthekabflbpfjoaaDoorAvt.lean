/- The law AddressTexts. -/
import Derived.Test.YthekabflbpfjoaaDoorAvg
namespace Go.Proofs.YthekabflbpfjoaaDoor.adr
open Go.RowKit
open Go.Proofs.YthekabflbpfjoaaDoor

theorem parsed_text {l : List UInt8} (h : pErr l = 0) : fA ⟨pMods l, pRes l⟩ = l ∧ chk ⟨pMods l, pRes l⟩ = 0 := by
  obtain ⟨h1, h2⟩ := parsed_ok h
  have h3 := pMods_len l
  have hc : chk ⟨pMods l, pRes l⟩ = 0 := by
    unfold chk
    rw [if_neg (by simp only; omega), h1, if_pos rfl]
    exact h2
  refine ⟨?_, hc⟩
  rw [fA_case, if_pos hc]
  unfold pErr at h
  unfold pMods pRes
  split
  · rename_i ms r hf
    rw [hf] at h
    simp only at h
    split at h
    · cases h
    · rename_i hx
      rw [if_neg hx, if_neg hx]
      exact (full_res_ok hf).2.2.symm
  · rename_i hx
    split at h
    · rename_i ms r hf
      exact absurd hf (hx ms r)
    · cases h

set_option maxRecDepth 100000 in
set_option maxHeartbeats 8000000 in
theorem texts_x (s : ByteArray) (w : World) (hs : s.size ≤ maxLen) (f : Fa w)
  (cA : Hid (∀ w', Q w w' → Calls Tryd.prog 9 #[] w' fun e w'' => e = .returned (.bool true) ∧ Q w' w'')) :
    Calls Tryd.prog 4 #[.string s] w fun e w' => e = .returned (.bool true) ∧ Q w w' := by
  unfold maxLen at hs
  by_cases h : (3000 : Int) < (s.size : Int)
  · go_enter Tryd.func4, Tryd.ntmps4
    go_wp2_with fail
    refine (cA.out _ (Q.refl _)).mono ?_; rintro e w1 ⟨rfl, q1⟩
    go_wp2_with fail
    go_ret
    exact ⟨rfl, q1⟩
  have cP := Lib.hid (parse_any s w f (by omega))
  have hML := pMods_len s.data.toList
  have cF : Hid (∀ (A : Option Addr) (n c : Nat) (ms : List St) (r : Rs) (w' : World), Q w w' → n = ms.length → In A ms w' → Ab ms r → ms.length ≤ maxLen → Calls Tryd.prog 12 #[.agg #[.slice A n c, .bool r.data, .string r.type, .string r.name, .int .i64 r.key.kind, .int .i64 r.key.num, .string r.key.str]] w' fun e w'' => e = .returned (.string ⟨(fA ⟨ms, r⟩).toArray⟩) ∧ Q w' w'') := Lib.hid (fun A n c ms r w' q => format_any A n c ms r w' (q.fa f))
  have cC : Hid (∀ (A : Option Addr) (n c : Nat) (ms : List St) (r : Rs) (w' : World), Q w w' → n = ms.length → In A ms w' → Ab ms r → ms.length ≤ maxLen → Calls Tryd.prog 13 #[.agg #[.slice A n c, .bool r.data, .string r.type, .string r.name, .int .i64 r.key.kind, .int .i64 r.key.num, .string r.key.str]] w' fun e w'' => e = .returned (.int .i64 (chk ⟨ms, r⟩)) ∧ Q w' w'') := Lib.hid (fun A n c ms r w' q => check_any A n c ms r w' (q.fa f))
  have cS := Lib.hid (fun (A : Option Addr) (n c : Nat) (w' : World) (hn : n = 0) => same_any A none n c 0 0 [] [] Rs.zero Rs.zero w' hn rfl (In.nil _ _) (In.nil _ _) (by rw [hn]; exact Nat.zero_le _) (Nat.zero_le _))
  have hP := Lib.hid (fun h => parsed_text (l := s.data.toList) h)
  have hO := Lib.hid (fun h => parsed_ok (l := s.data.toList) h)
  have hZ := Lib.hid (fun h => err_zero (l := s.data.toList) h)
  clear f
  obtain ⟨E, hE0⟩ : ∃ e, pErr s.data.toList = e := ⟨_, rfl⟩
  obtain ⟨MS, hMS0⟩ : ∃ e, pMods s.data.toList = e := ⟨_, rfl⟩
  obtain ⟨RS, hRS0⟩ : ∃ e, pRes s.data.toList = e := ⟨_, rfl⟩
  rw [hE0] at cP hP hO hZ
  rw [hMS0] at cP hP hML hO hZ
  rw [hRS0] at cP hP hO hZ
  clear hE0 hMS0 hRS0
  cases hEE : (E != 0) with
  | true =>
    obtain ⟨rfl, rfl⟩ := hZ.out (by simpa using hEE)
    unfold rv Rs.zero K.zero at *
    simp only at *
    clear hZ hP hO cF cC
    go_enter Tryd.func4, Tryd.ntmps4
    go_wp2_with fail
    refine cP.out.mono ?_; rintro e w1 ⟨A, n, c, rfl, hv, q1⟩
    obtain rfl : n = 0 := hv.len
    have Q1 := Lib.hid (q1.trans (Q.alloc w1 (.cells #[.slice A 0 c, .bool false, .string ⟨#[]⟩, .string ⟨#[]⟩, .int .i64 0, .int .i64 0, .string ⟨#[]⟩] 29)))
    have cT := Lib.hid (cS.out A 0 c (w1.alloc (.cells #[.slice A 0 c, .bool false, .string ⟨#[]⟩, .string ⟨#[]⟩, .int .i64 0, .int .i64 0, .string ⟨#[]⟩] 29)) rfl)
    clear hv q1 cP cS
    go_wp2_with fail
    refine cT.out.mono ?_; rintro e w2 ⟨B, rfl, hB, q2⟩
    obtain rfl : B = true := hB.out.2 ⟨rfl, rfl⟩
    have Q2 := Lib.hid (Q1.out.trans q2)
    clear q2 cT hB
    go_wp2_with fail
    refine (cA.out _ Q2.out).mono ?_; rintro e w3 ⟨rfl, q3⟩
    go_wp2_with fail
    go_ret
    exact ⟨rfl, Q2.out.trans q3⟩
  | false =>
    have e0 : E = 0 := by simpa using hEE
    subst e0
    obtain ⟨t1, t2⟩ := hP.out rfl
    obtain ⟨o1, o2⟩ := hO.out rfl
    have hab := Lib.hid (Ab.of o1 o2)
    have hlim : Hid (MS.length ≤ maxLen) := Lib.hid (by unfold maxLen; omega)
    obtain ⟨d, ty, nm, kd, m, t⟩ := RS
    clear hZ hP hO cS o1 o2 hML
    go_enter Tryd.func4, Tryd.ntmps4
    go_wp2_with fail
    refine cP.out.mono ?_; rintro e w1 ⟨A, n, c, rfl, hv, q1⟩
    have hn := Lib.hid hv.len
    have HI := Lib.hid (hv.in.stays (Q.alloc w1 (.cells #[.slice A n c, .bool d, .string ty, .string nm, .int .i64 kd, .int .i64 m, .string t] 29)))
    have Q1 := Lib.hid (q1.trans (Q.alloc w1 (.cells #[.slice A n c, .bool d, .string ty, .string nm, .int .i64 kd, .int .i64 m, .string t] 29)))
    have B3 := Lib.hid (Bk.new #[.slice A n c, .bool d, .string ty, .string nm, .int .i64 kd, .int .i64 m, .string t] 29 w1)
    have cX := Lib.hid (cF.out A n c MS ⟨d, ty, nm, ⟨kd, m, t⟩⟩ _ Q1.out hn.out HI.out hab.out hlim.out)
    rw [t1, ba_mk] at cX
    clear hv q1 cP cF
    unfold rv
    simp only at *
    go_wp2_with fail
    refine cX.out.mono ?_; rintro e w2 ⟨rfl, q2⟩
    replace B3 := Lib.hid (B3.out.stays q2)
    replace Q1 := Lib.hid (Q1.out.trans q2)
    replace HI := Lib.hid (HI.out.stays q2)
    clear q2 cX
    have u0 := B3.out.at 0 (.slice A n c) rfl
    have u1 := B3.out.at 1 (.bool d) rfl
    have u2 := B3.out.at 2 (.string ty) rfl
    have u3 := B3.out.at 3 (.string nm) rfl
    have u4 := B3.out.at 4 (.int .i64 kd) rfl
    have u5 := B3.out.at 5 (.int .i64 m) rfl
    have u6 := B3.out.at 6 (.string t) rfl
    have cX := Lib.hid (cC.out A n c MS ⟨d, ty, nm, ⟨kd, m, t⟩⟩ w2 Q1.out hn.out HI.out hab.out hlim.out)
    rw [t2] at cX
    clear cC B3
    simp only at cX
    go_wp2_with fail
    refine cX.out.mono ?_; rintro e w3 ⟨rfl, q3⟩
    replace Q1 := Lib.hid (Q1.out.trans q3)
    clear q3 cX
    go_wp2_with fail
    refine (cA.out _ Q1.out).mono ?_; rintro e w4 ⟨rfl, q4⟩
    go_wp2_with fail
    go_ret
    exact ⟨rfl, Q1.out.trans q4⟩

end Go.Proofs.YthekabflbpfjoaaDoor.adr
