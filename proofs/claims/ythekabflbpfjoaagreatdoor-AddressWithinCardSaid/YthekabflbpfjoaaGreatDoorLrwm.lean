/- The law AddressWithin. -/
import Derived.Test.YthekabflbpfjoaaGreatDoorRwim
import Derived.Test.YthekabflbpfjoaaGreatDoorAvym
namespace Go.Proofs.YthekabflbpfjoaaGreatDoor.adr
open Go.RowKit
open Go.Proofs.YthekabflbpfjoaaGreatDoor

set_option maxRecDepth 100000 in
set_option maxHeartbeats 16000000 in
theorem withinLaw_any (s p : ByteArray) (w : World) (hs : s.size ≤ maxLen) (hp : p.size ≤ maxLen) (f : Fa w) :
    Calls Tryz.prog 6 #[.string s, .string p] w fun e w' => e = .returned (.bool true) ∧ Q w w' := by
  have cW := wakes w f
  unfold maxLen at hs hp
  by_cases h3 : (3000 : Int) < (s.size : Int)
  · go_enter Tryz.func6, Tryz.ntmps6
    go_wp2_with fail
    refine (cW.out _ (Q.refl _)).mono ?_; rintro e w1 ⟨rfl, q1⟩
    go_wp2_with fail
    go_ret
    exact ⟨rfl, q1⟩
  by_cases h4 : (3000 : Int) < (p.size : Int)
  · go_enter Tryz.func6, Tryz.ntmps6
    go_wp2_with fail
    refine (cW.out _ (Q.refl _)).mono ?_; rintro e w1 ⟨rfl, q1⟩
    go_wp2_with fail
    go_ret
    exact ⟨rfl, q1⟩
  have hs3 : s.size ≤ 3000 := by omega
  have hp3 : p.size ≤ 3000 := by omega
  have key : ∃ B : Bool, (B = true ↔ Wi s.data.toList p.data.toList) := by
    by_cases hx : Wi s.data.toList p.data.toList
    · exact ⟨true, ⟨fun _ => hx, fun _ => rfl⟩⟩
    · exact ⟨false, ⟨(fun h => by cases h), fun h => absurd h hx⟩⟩
  obtain ⟨B, hB⟩ := key
  have cA : Hid (∀ w', Q w w' → Calls Tryz.prog 22 #[.string s, .string p] w' fun e w'' => e = .returned (.bool B) ∧ Q w' w'') := Lib.hid (fun w' q => by
    refine (within_any s p w' (q.fa f) (by omega) (by omega)).mono ?_
    rintro e w'' ⟨B', rfl, hB', hq⟩
    have : B' = B := by rw [Bool.eq_iff_iff, hB'.out, hB]
    rw [this]
    exact ⟨rfl, hq⟩)
  have cB : Hid (∀ w', Calls Tryz.prog 23 #[.string s, .string p] w' fun e w'' => e = .returned (.bool B) ∧ Q w' w'') := Lib.hid (fun w' => by
    refine (refWithin_any s p w' hs3 hp3).mono ?_
    rintro e w'' ⟨B', rfl, hB', hq⟩
    have : B' = B := by rw [Bool.eq_iff_iff, hB'.out, hB]
    rw [this]
    exact ⟨rfl, hq⟩)
  clear f hs3 hp3 hs hp hB
  cases B
  all_goals
    go_enter Tryz.func6, Tryz.ntmps6
    go_wp2_with fail
    refine (cA.out _ (Q.refl _)).mono ?_; rintro e w1 ⟨rfl, q1⟩
    have QQ := Lib.hid q1
    clear q1 cA
    go_wp2_with fail
    refine (cB.out _).mono ?_; rintro e w2 ⟨rfl, q2⟩
    replace QQ := Lib.hid (QQ.out.trans q2)
    clear q2 cB
    go_wp2_with fail
    refine (cW.out _ QQ.out).mono ?_; rintro e w3 ⟨rfl, q3⟩
    go_wp2_with fail
    go_ret
    exact ⟨rfl, QQ.out.trans q3⟩

end Go.Proofs.YthekabflbpfjoaaGreatDoor.adr
