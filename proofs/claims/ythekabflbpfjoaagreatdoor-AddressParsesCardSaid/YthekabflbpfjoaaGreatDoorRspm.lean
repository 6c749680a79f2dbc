/- The reference's Static. -/
import Derived.Test.YthekabflbpfjoaaGreatDoorRprm
import Derived.Test.YthekabflbpfjoaaGreatDoorRbam
import Derived.Test.YthekabflbpfjoaaGreatDoorRfmam
namespace Go.Proofs.YthekabflbpfjoaaGreatDoor.adr
open Go.RowKit
open Go.Proofs.YthekabflbpfjoaaGreatDoor

set_option maxRecDepth 100000 in
set_option maxHeartbeats 16000000 in
theorem refStatic_any (s : ByteArray) (w : World) (hs : s.size ≤ 3000) :
    Calls Tryz.prog 18 #[.string s] w fun e w' => e = .returned (.tuple #[.string ⟨(if pErr s.data.toList = 0 then fA ⟨(pMods s.data.toList).map bareS, bareR (pRes s.data.toList)⟩ else []).toArray⟩, .int .i64 (pErr s.data.toList)]) ∧ Q w w' := by
  have cA : Hid (∀ w', Calls Tryz.prog 16 #[.string s] w' (PsE s.data.toList w')) := Lib.hid (fun w' => refParse_any s w' hs)
  have cB : Hid (∀ (A : Option Addr) (n c : Nat) (w' : World), n = (pMods s.data.toList).length → In A (pMods s.data.toList) w' → Calls Tryz.prog 42 #[rv (.slice A n c) (pRes s.data.toList)] w' (BaE n (pMods s.data.toList) (pRes s.data.toList) w')) := Lib.hid (fun A n c w' h1 h2 => refBare_any A n c _ _ w' h1 h2 (pMods_len _))
  have cF : Hid (pErr s.data.toList = 0 → ∀ (A : Option Addr) (n c : Nat) (w' : World), n = (pMods s.data.toList).length → In A ((pMods s.data.toList).map bareS) w' → Calls Tryz.prog 12 #[rv (.slice A n c) (bareR (pRes s.data.toList))] w' fun e w'' => e = .returned (.string ⟨(fA ⟨(pMods s.data.toList).map bareS, bareR (pRes s.data.toList)⟩).toArray⟩) ∧ Q w' w'') := Lib.hid (fun he A n c w' h1 h2 => by
    obtain ⟨o1, o2⟩ := parsed_ok he
    exact refFormat_any A n c _ _ w' (by rw [List.length_map]; exact h1) h2 (Ab.of (bare_chkS _ o1) (bare_chkR o2)) (by rw [List.length_map]; have := pMods_len s.data.toList; unfold maxLen; omega))
  unfold PsE at cA
  generalize s.data.toList = L at *
  obtain ⟨E, hE0⟩ : ∃ e, pErr L = e := ⟨_, rfl⟩
  obtain ⟨MS, hMS0⟩ : ∃ e, pMods L = e := ⟨_, rfl⟩
  obtain ⟨RS, hRS0⟩ : ∃ e, pRes L = e := ⟨_, rfl⟩
  rw [hE0, hMS0, hRS0] at cA cF ⊢
  rw [hMS0, hRS0] at cB
  clear hE0 hMS0 hRS0
  generalize fA ⟨MS.map bareS, bareR RS⟩ = FT at *
  obtain ⟨d, ty, nm, kd, m, t⟩ := RS
  unfold rv bareR at *
  simp only at *
  cases hEE : (E != 0) with
  | true =>
    have e0 : ¬ E = 0 := by simpa using hEE
    rw [if_neg e0]
    clear e0 cB cF
    go_enter Tryz.func18, Tryz.ntmps18
    go_wp2_with fail
    refine (cA.out _).mono ?_; rintro e w1 ⟨A, n, c, rfl, hv, q1⟩
    have Q1 := Lib.hid q1
    clear hv q1 cA
    go_wp2_with fail
    go_ret2
    exact ⟨rfl, Q1.out.trans (Q.alloc _ _)⟩
  | false =>
    have e0 : E = 0 := by simpa using hEE
    subst e0
    rw [if_pos rfl]
    go_enter Tryz.func18, Tryz.ntmps18
    go_wp2_with fail
    refine (cA.out _).mono ?_; rintro e w1 ⟨A, n, c, rfl, hv, q1⟩
    have qa := Q.alloc w1 (.cells #[.slice A n c, .bool d, .string ty, .string nm, .int .i64 kd, .int .i64 m, .string t] 27)
    have cX := Lib.hid (cB.out A n c _ hv.len (hv.in.stays qa))
    have hn := Lib.hid hv.len
    have QQ := Lib.hid (q1.trans qa)
    clear hv q1 qa cA cB
    go_wp2_with fail
    refine cX.out.mono ?_; rintro e w2 ⟨A2, c2, rfl, hi, q2⟩
    have cY := Lib.hid (cF.out (by first | rfl | trivial) A2 n c2 w2 hn.out hi)
    replace QQ := Lib.hid (QQ.out.trans q2)
    clear cX cF hi q2 hn
    unfold rv bareR at *
    simp only at *
    go_wp2_with fail
    refine cY.out.mono ?_; rintro e w3 ⟨rfl, q3⟩
    go_wp2_with fail
    go_ret2
    exact ⟨rfl, QQ.out.trans q3⟩

end Go.Proofs.YthekabflbpfjoaaGreatDoor.adr
