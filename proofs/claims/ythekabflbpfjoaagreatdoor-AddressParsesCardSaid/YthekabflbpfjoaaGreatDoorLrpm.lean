/- The law AddressParses. -/
import Derived.Test.YthekabflbpfjoaaGreatDoorRspm
import Derived.Test.YthekabflbpfjoaaGreatDoorAvym
namespace Go.Proofs.YthekabflbpfjoaaGreatDoor.adr
open Go.RowKit
open Go.Proofs.YthekabflbpfjoaaGreatDoor

set_option maxRecDepth 100000 in
set_option maxHeartbeats 16000000 in
theorem parsesLaw_any (s : ByteArray) (w : World) (hs : s.size ≤ maxLen) (f : Fa w) :
    Calls Tryz.prog 4 #[.string s] w fun e w' => e = .returned (.bool true) ∧ Q w w' := by
  have cW := wakes w f
  unfold maxLen at hs
  by_cases h3 : (3000 : Int) < (s.size : Int)
  · go_enter Tryz.func4, Tryz.ntmps4
    go_wp2_with fail
    refine (cW.out _ (Q.refl _)).mono ?_; rintro e w1 ⟨rfl, q1⟩
    go_wp2_with fail
    go_ret
    exact ⟨rfl, q1⟩
  have hs3 : s.size ≤ 3000 := by omega
  have cA : Hid (∀ w', Q w w' → Calls Tryz.prog 15 #[.string s] w' fun e w'' => ∃ A n c, e = .returned (.tuple #[rv (.slice A n c) (pRes s.data.toList), .int .i64 (pErr s.data.toList)]) ∧ Sr w'.heap.size (.slice A n c) (pMods s.data.toList) w'' ∧ Q w' w'') := Lib.hid (fun w' q => parse_any s w' (q.fa f) (by omega))
  have cB : Hid (∀ w', Calls Tryz.prog 16 #[.string s] w' fun e w'' => ∃ A n c, e = .returned (.tuple #[rv (.slice A n c) (pRes s.data.toList), .int .i64 (pErr s.data.toList)]) ∧ Sr w'.heap.size (.slice A n c) (pMods s.data.toList) w'' ∧ Q w' w'') := Lib.hid (fun w' => refParse_any s w' hs3)
  have cC : Hid (∀ w', Q w w' → Calls Tryz.prog 17 #[.string s] w' fun e w'' => e = .returned (.tuple #[.string ⟨(if pErr s.data.toList = 0 then fA ⟨(pMods s.data.toList).map bareS, bareR (pRes s.data.toList)⟩ else []).toArray⟩, .int .i64 (pErr s.data.toList)]) ∧ Q w' w'') := Lib.hid (fun w' q => static_any s w' (q.fa f) (by omega))
  have cD : Hid (∀ w', Calls Tryz.prog 18 #[.string s] w' fun e w'' => e = .returned (.tuple #[.string ⟨(if pErr s.data.toList = 0 then fA ⟨(pMods s.data.toList).map bareS, bareR (pRes s.data.toList)⟩ else []).toArray⟩, .int .i64 (pErr s.data.toList)]) ∧ Q w' w'') := Lib.hid (fun w' => refStatic_any s w' hs3)
  have cS : Hid (∀ (A A' : Option Addr) (n c n' c' : Nat) (w' : World), n = (pMods s.data.toList).length → n' = (pMods s.data.toList).length → In A (pMods s.data.toList) w' → In A' (pMods s.data.toList) w' → Calls Tryz.prog 19 #[rv (.slice A n c) (pRes s.data.toList), rv (.slice A' n' c') (pRes s.data.toList)] w' fun e w'' => e = .returned (.bool true) ∧ Q w' w'') := Lib.hid (fun A A' n c n' c' w' h1 h2 h3 h4 => by
    have hl : (pMods s.data.toList).length ≤ maxLen := by have := pMods_len s.data.toList; unfold maxLen; omega
    refine (same_any A A' n c n' c' _ _ _ _ w' h1 h2 h3 h4 (by rw [h1]; exact hl) (by rw [h2]; exact hl)).mono ?_
    rintro e w'' ⟨B, rfl, hB, hq⟩
    rw [hB.out.2 ⟨rfl, rfl⟩]
    exact ⟨rfl, hq⟩)
  clear f hs3 hs
  generalize s.data.toList = L at *
  obtain ⟨ST, hST⟩ : ∃ z : ByteArray, (⟨(if pErr L = 0 then fA ⟨(pMods L).map bareS, bareR (pRes L)⟩ else []).toArray⟩ : ByteArray) = z := ⟨_, rfl⟩
  rw [hST] at cC cD
  clear hST
  generalize pErr L = E at *
  generalize pMods L = MS at *
  generalize pRes L = RS at *
  obtain ⟨d, ty, nm, kd, m, t⟩ := RS
  unfold rv at *
  simp only at *
  go_enter Tryz.func4, Tryz.ntmps4
  go_wp2_with fail
  refine (cA.out _ (Q.refl _)).mono ?_; rintro e w1 ⟨A, n, c, rfl, hv, q1⟩
  have B3 := Lib.hid (Bk.new #[.slice A n c, .bool d, .string ty, .string nm, .int .i64 kd, .int .i64 m, .string t] 27 w1)
  have qa := Q.alloc w1 (.cells #[.slice A n c, .bool d, .string ty, .string nm, .int .i64 kd, .int .i64 m, .string t] 27)
  have HN := Lib.hid hv.len
  have HI := Lib.hid (hv.in.stays qa)
  have QQ := Lib.hid (q1.trans qa)
  clear hv q1 qa cA
  go_wp2_with fail
  refine (cB.out _).mono ?_; rintro e w2 ⟨A2, n2, c2, rfl, hv, q2⟩
  have B5 := Lib.hid (Bk.new #[.slice A2 n2 c2, .bool d, .string ty, .string nm, .int .i64 kd, .int .i64 m, .string t] 27 w2)
  have qa := Q.alloc w2 (.cells #[.slice A2 n2 c2, .bool d, .string ty, .string nm, .int .i64 kd, .int .i64 m, .string t] 27)
  have HN2 := Lib.hid hv.len
  have HI2 := Lib.hid (hv.in.stays qa)
  replace HI := Lib.hid (HI.out.stays (q2.trans qa))
  replace B3 := Lib.hid (B3.out.stays (q2.trans qa))
  replace QQ := Lib.hid (QQ.out.trans (q2.trans qa))
  clear hv q2 qa cB
  go_wp2_with fail
  refine (cC.out _ QQ.out).mono ?_; rintro e w3 ⟨rfl, q3⟩
  replace HI := Lib.hid (HI.out.stays q3)
  replace HI2 := Lib.hid (HI2.out.stays q3)
  replace B3 := Lib.hid (B3.out.stays q3)
  replace B5 := Lib.hid (B5.out.stays q3)
  replace QQ := Lib.hid (QQ.out.trans q3)
  clear q3 cC
  go_wp2_with fail
  refine (cD.out _).mono ?_; rintro e w4 ⟨rfl, q4⟩
  replace HI := Lib.hid (HI.out.stays q4)
  replace HI2 := Lib.hid (HI2.out.stays q4)
  replace B3 := Lib.hid (B3.out.stays q4)
  replace B5 := Lib.hid (B5.out.stays q4)
  replace QQ := Lib.hid (QQ.out.trans q4)
  clear q4 cD
  have cX := Lib.hid (cS.out A A2 n c n2 c2 w4 HN.out HN2.out HI.out HI2.out)
  have x0 := B3.out.at 0 (.slice A n c) rfl
  have x1 := B3.out.at 1 (.bool d) rfl
  have x2 := B3.out.at 2 (.string ty) rfl
  have x3 := B3.out.at 3 (.string nm) rfl
  have x4 := B3.out.at 4 (.int .i64 kd) rfl
  have x5 := B3.out.at 5 (.int .i64 m) rfl
  have x6 := B3.out.at 6 (.string t) rfl
  have y0 := B5.out.at 0 (.slice A2 n2 c2) rfl
  have y1 := B5.out.at 1 (.bool d) rfl
  have y2 := B5.out.at 2 (.string ty) rfl
  have y3 := B5.out.at 3 (.string nm) rfl
  have y4 := B5.out.at 4 (.int .i64 kd) rfl
  have y5 := B5.out.at 5 (.int .i64 m) rfl
  have y6 := B5.out.at 6 (.string t) rfl
  clear B3 B5 HN HN2 HI HI2 cS
  go_wp2_with fail
  refine cX.out.mono ?_; rintro e w5 ⟨rfl, q5⟩
  replace QQ := Lib.hid (QQ.out.trans q5)
  clear x0 x1 x2 x3 x4 x5 x6 y0 y1 y2 y3 y4 y5 y6 cX q5
  go_wp2_with fail
  refine (cW.out _ QQ.out).mono ?_; rintro e w6 ⟨rfl, q6⟩
  go_wp2_with fail
  go_ret
  exact ⟨rfl, QQ.out.trans q6⟩

end Go.Proofs.YthekabflbpfjoaaGreatDoor.adr
