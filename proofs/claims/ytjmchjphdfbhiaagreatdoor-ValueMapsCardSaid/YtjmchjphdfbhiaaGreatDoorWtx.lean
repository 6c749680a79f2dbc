/- The reference's shaped; The reference's text, and its Valid of numbers. -/
import Derived.Test.YtjmchjphdfbhiaaGreatDoorVfi
import Derived.Test.YtjmchjphdfbhiaaGreatDoorRval
namespace Go.Proofs.YtjmchjphdfbhiaaGreatDoor.val
open Go.RowKit
open Go.Proofs.YtjmchjphdfbhiaaGreatDoor
set_option maxRecDepth 100000 in
set_option maxHeartbeats 4000000 in
theorem shaped_0 (n : Int) (s : ByteArray) (A3 A4 : Option Addr) (nl cl nk ck : Nat) (w : World) (b1 b2 b3 b4 b5 b6 : Bool) (h1 : (n == 0) = b1) (h2 : (s.toList == []) = b2) (h3 : ((nl : Int) == 0) = b3) (h4 : ((nk : Int) == 0) = b4) (h5 : (n == 1) = b5) (h6 : ((nk : Int) == (nl : Int)) = b6) :
    Calls Tryz.prog 92 #[.agg #[.int .i64 0, .int .i64 n, .string s, .slice A3 nl cl, .slice A4 nk ck]] w fun e w' => e = .returned (.bool (b1 && b2 && b3 && b4)) ∧ Q w w' := by
  have _u := And.intro h1 (And.intro h2 (And.intro h3 (And.intro h4 (And.intro h5 h6))))
  clear _u
  go_enter Tryz.func92, Tryz.ntmps92
  go_wp2_with fail
  all_goals
    go_ret
    refine ⟨?_, Q.box _ _⟩
    simp_all
set_option maxRecDepth 100000 in
set_option maxHeartbeats 4000000 in
theorem shaped_1 (n : Int) (s : ByteArray) (A3 A4 : Option Addr) (nl cl nk ck : Nat) (w : World) (b1 b2 b3 b4 b5 b6 : Bool) (h1 : (n == 0) = b1) (h2 : (s.toList == []) = b2) (h3 : ((nl : Int) == 0) = b3) (h4 : ((nk : Int) == 0) = b4) (h5 : (n == 1) = b5) (h6 : ((nk : Int) == (nl : Int)) = b6) :
    Calls Tryz.prog 92 #[.agg #[.int .i64 1, .int .i64 n, .string s, .slice A3 nl cl, .slice A4 nk ck]] w fun e w' => e = .returned (.bool ((b1 || b5) && b2 && b3 && b4)) ∧ Q w w' := by
  have _u := And.intro h1 (And.intro h2 (And.intro h3 (And.intro h4 (And.intro h5 h6))))
  clear _u
  go_enter Tryz.func92, Tryz.ntmps92
  go_wp2_with fail
  all_goals
    go_ret
    refine ⟨?_, Q.box _ _⟩
    simp_all
set_option maxRecDepth 100000 in
set_option maxHeartbeats 4000000 in
theorem shaped_2 (n : Int) (s : ByteArray) (A3 A4 : Option Addr) (nl cl nk ck : Nat) (w : World) (b1 b2 b3 b4 b5 b6 : Bool) (h1 : (n == 0) = b1) (h2 : (s.toList == []) = b2) (h3 : ((nl : Int) == 0) = b3) (h4 : ((nk : Int) == 0) = b4) (h5 : (n == 1) = b5) (h6 : ((nk : Int) == (nl : Int)) = b6) :
    Calls Tryz.prog 92 #[.agg #[.int .i64 2, .int .i64 n, .string s, .slice A3 nl cl, .slice A4 nk ck]] w fun e w' => e = .returned (.bool (b2 && b3 && b4)) ∧ Q w w' := by
  have _u := And.intro h1 (And.intro h2 (And.intro h3 (And.intro h4 (And.intro h5 h6))))
  clear _u
  go_enter Tryz.func92, Tryz.ntmps92
  go_wp2_with fail
  all_goals
    go_ret
    refine ⟨?_, Q.box _ _⟩
    simp_all
set_option maxRecDepth 100000 in
set_option maxHeartbeats 4000000 in
theorem shaped_3 (n : Int) (s : ByteArray) (A3 A4 : Option Addr) (nl cl nk ck : Nat) (w : World) (b1 b2 b3 b4 b5 b6 : Bool) (h1 : (n == 0) = b1) (h2 : (s.toList == []) = b2) (h3 : ((nl : Int) == 0) = b3) (h4 : ((nk : Int) == 0) = b4) (h5 : (n == 1) = b5) (h6 : ((nk : Int) == (nl : Int)) = b6) :
    Calls Tryz.prog 92 #[.agg #[.int .i64 3, .int .i64 n, .string s, .slice A3 nl cl, .slice A4 nk ck]] w fun e w' => e = .returned (.bool (b1 && b3 && b4)) ∧ Q w w' := by
  have _u := And.intro h1 (And.intro h2 (And.intro h3 (And.intro h4 (And.intro h5 h6))))
  clear _u
  go_enter Tryz.func92, Tryz.ntmps92
  go_wp2_with fail
  all_goals
    go_ret
    refine ⟨?_, Q.box _ _⟩
    simp_all
set_option maxRecDepth 100000 in
set_option maxHeartbeats 4000000 in
theorem shaped_4 (n : Int) (s : ByteArray) (A3 A4 : Option Addr) (nl cl nk ck : Nat) (w : World) (b1 b2 b3 b4 b5 b6 : Bool) (h1 : (n == 0) = b1) (h2 : (s.toList == []) = b2) (h3 : ((nl : Int) == 0) = b3) (h4 : ((nk : Int) == 0) = b4) (h5 : (n == 1) = b5) (h6 : ((nk : Int) == (nl : Int)) = b6) :
    Calls Tryz.prog 92 #[.agg #[.int .i64 4, .int .i64 n, .string s, .slice A3 nl cl, .slice A4 nk ck]] w fun e w' => e = .returned (.bool (b1 && b2 && b4)) ∧ Q w w' := by
  have _u := And.intro h1 (And.intro h2 (And.intro h3 (And.intro h4 (And.intro h5 h6))))
  clear _u
  go_enter Tryz.func92, Tryz.ntmps92
  go_wp2_with fail
  all_goals
    go_ret
    refine ⟨?_, Q.box _ _⟩
    simp_all
set_option maxRecDepth 100000 in
set_option maxHeartbeats 4000000 in
theorem shaped_5 (n : Int) (s : ByteArray) (A3 A4 : Option Addr) (nl cl nk ck : Nat) (w : World) (b1 b2 b3 b4 b5 b6 : Bool) (h1 : (n == 0) = b1) (h2 : (s.toList == []) = b2) (h3 : ((nl : Int) == 0) = b3) (h4 : ((nk : Int) == 0) = b4) (h5 : (n == 1) = b5) (h6 : ((nk : Int) == (nl : Int)) = b6) :
    Calls Tryz.prog 92 #[.agg #[.int .i64 5, .int .i64 n, .string s, .slice A3 nl cl, .slice A4 nk ck]] w fun e w' => e = .returned (.bool (b1 && b2 && b6)) ∧ Q w w' := by
  have _u := And.intro h1 (And.intro h2 (And.intro h3 (And.intro h4 (And.intro h5 h6))))
  clear _u
  go_enter Tryz.func92, Tryz.ntmps92
  go_wp2_with fail
  all_goals
    go_ret
    refine ⟨?_, Q.box _ _⟩
    simp_all
set_option maxRecDepth 100000 in
set_option maxHeartbeats 4000000 in
theorem shaped_6 (n : Int) (s : ByteArray) (A3 A4 : Option Addr) (nl cl nk ck : Nat) (w : World) (b1 b2 b3 b4 b5 b6 : Bool) (h1 : (n == 0) = b1) (h2 : (s.toList == []) = b2) (h3 : ((nl : Int) == 0) = b3) (h4 : ((nk : Int) == 0) = b4) (h5 : (n == 1) = b5) (h6 : ((nk : Int) == (nl : Int)) = b6) :
    Calls Tryz.prog 92 #[.agg #[.int .i64 6, .int .i64 n, .string s, .slice A3 nl cl, .slice A4 nk ck]] w fun e w' => e = .returned (.bool (b1 && b2 && b3 && b4)) ∧ Q w w' := by
  have _u := And.intro h1 (And.intro h2 (And.intro h3 (And.intro h4 (And.intro h5 h6))))
  clear _u
  go_enter Tryz.func92, Tryz.ntmps92
  go_wp2_with fail
  all_goals
    go_ret
    refine ⟨?_, Q.box _ _⟩
    simp_all
set_option maxRecDepth 100000 in
set_option maxHeartbeats 4000000 in
theorem shaped_low (k : Int) (n : Int) (s : ByteArray) (A3 A4 : Option Addr) (nl cl nk ck : Nat) (w : World) (b1 b2 b3 b4 b5 b6 : Bool) (h1 : (n == 0) = b1) (h2 : (s.toList == []) = b2) (h3 : ((nl : Int) == 0) = b3) (h4 : ((nk : Int) == 0) = b4) (h5 : (n == 1) = b5) (h6 : ((nk : Int) == (nl : Int)) = b6) (g1 : (k == 1) = false) (g2 : (k == 2) = false) (g3 : (k == 3) = false) (g4 : (k == 4) = false) (g5 : (k == 5) = false) (g6 : (k != 5) = true) (g7 : decide (0 ≤ k) = false) :
    Calls Tryz.prog 92 #[.agg #[.int .i64 k, .int .i64 n, .string s, .slice A3 nl cl, .slice A4 nk ck]] w fun e w' => e = .returned (.bool (false)) ∧ Q w w' := by
  have _u := And.intro h1 (And.intro h2 (And.intro h3 (And.intro h4 (And.intro h5 h6))))
  clear _u
  go_enter Tryz.func92, Tryz.ntmps92
  go_wp2_with fail
  all_goals
    go_ret
    refine ⟨?_, Q.box _ _⟩
    simp_all
set_option maxRecDepth 100000 in
set_option maxHeartbeats 4000000 in
theorem shaped_high (k : Int) (n : Int) (s : ByteArray) (A3 A4 : Option Addr) (nl cl nk ck : Nat) (w : World) (b1 b2 b3 b4 b5 b6 : Bool) (h1 : (n == 0) = b1) (h2 : (s.toList == []) = b2) (h3 : ((nl : Int) == 0) = b3) (h4 : ((nk : Int) == 0) = b4) (h5 : (n == 1) = b5) (h6 : ((nk : Int) == (nl : Int)) = b6) (g1 : (k == 1) = false) (g2 : (k == 2) = false) (g3 : (k == 3) = false) (g4 : (k == 4) = false) (g5 : (k == 5) = false) (g6 : (k != 5) = true) (g7 : decide (0 ≤ k) = true) (g8 : decide (k ≤ 6) = false) :
    Calls Tryz.prog 92 #[.agg #[.int .i64 k, .int .i64 n, .string s, .slice A3 nl cl, .slice A4 nk ck]] w fun e w' => e = .returned (.bool (false)) ∧ Q w w' := by
  have _u := And.intro h1 (And.intro h2 (And.intro h3 (And.intro h4 (And.intro h5 h6))))
  clear _u
  go_enter Tryz.func92, Tryz.ntmps92
  go_wp2_with fail
  all_goals
    go_ret
    refine ⟨?_, Q.box _ _⟩
    simp_all
theorem shaped_any (v : V) (c3 c4 : Value) (w w0 : World) (h3 : Is c3 v.items w0) (h4 : Ks c4 v.keys w0) :
    Calls Tryz.prog 92 #[.agg #[.int .i64 v.kind, .int .i64 v.num, .string v.str, c3, c4]] w fun e w' => e = .returned (.bool (shB v.kind v.num v.str v.items v.keys)) ∧ Q w w' := by
  obtain ⟨A3, k3, rfl, -⟩ := h3.shape
  obtain ⟨A4, k4, rfl, -⟩ := h4.shape
  obtain ⟨k, n, s, l, ks⟩ := v
  show Calls _ _ #[.agg #[.int .i64 k, .int .i64 n, .string s, .slice A3 l.length k3, .slice A4 ks.length k4]] _ _
  have e3 : ((l.length : Int) == 0) = decide (l.length = 0) := by rw [int_beq]; exact decide_eq_decide.2 (by omega)
  have e4 : ((ks.length : Int) == 0) = decide (ks.length = 0) := by rw [int_beq]; exact decide_eq_decide.2 (by omega)
  have e6 : ((ks.length : Int) == (l.length : Int)) = decide (ks.length = l.length) := by rw [int_beq]; exact decide_eq_decide.2 (by omega)
  have e : ∀ b, b = shB k n s l ks → (∀ e w', (e = Ending.returned (.bool b) ∧ Q w w') → (e = Ending.returned (.bool (shB (V.mk k n s l ks).kind (V.mk k n s l ks).num (V.mk k n s l ks).str (V.mk k n s l ks).items (V.mk k n s l ks).keys)) ∧ Q w w')) := by
    rintro b rfl e w' h
    exact h
  by_cases g0 : k = 0
  · subst g0
    exact (shaped_0 n s A3 A4 _ k3 _ k4 w _ _ _ _ _ _ (int_beq _ _) (size_nil s) e3 e4 (int_beq _ _) e6).mono (e _ (by simp [shB, Bool.and_assoc]))
  by_cases g1 : k = 1
  · subst g1
    exact (shaped_1 n s A3 A4 _ k3 _ k4 w _ _ _ _ _ _ (int_beq _ _) (size_nil s) e3 e4 (int_beq _ _) e6).mono (e _ (by simp [shB, Bool.and_assoc]))
  by_cases g2 : k = 2
  · subst g2
    exact (shaped_2 n s A3 A4 _ k3 _ k4 w _ _ _ _ _ _ (int_beq _ _) (size_nil s) e3 e4 (int_beq _ _) e6).mono (e _ (by simp [shB, Bool.and_assoc]))
  by_cases g3 : k = 3
  · subst g3
    exact (shaped_3 n s A3 A4 _ k3 _ k4 w _ _ _ _ _ _ (int_beq _ _) (size_nil s) e3 e4 (int_beq _ _) e6).mono (e _ (by simp [shB, Bool.and_assoc]))
  by_cases g4 : k = 4
  · subst g4
    exact (shaped_4 n s A3 A4 _ k3 _ k4 w _ _ _ _ _ _ (int_beq _ _) (size_nil s) e3 e4 (int_beq _ _) e6).mono (e _ (by simp [shB, Bool.and_assoc]))
  by_cases g5 : k = 5
  · subst g5
    exact (shaped_5 n s A3 A4 _ k3 _ k4 w _ _ _ _ _ _ (int_beq _ _) (size_nil s) e3 e4 (int_beq _ _) e6).mono (e _ (by simp [shB, Bool.and_assoc]))
  by_cases g6 : k = 6
  · subst g6
    exact (shaped_6 n s A3 A4 _ k3 _ k4 w _ _ _ _ _ _ (int_beq _ _) (size_nil s) e3 e4 (int_beq _ _) e6).mono (e _ (by simp [shB, Bool.and_assoc]))
  by_cases g : 0 ≤ k
  · have g' : ¬ k ≤ 6 := by omega
    refine (shaped_high k n s A3 A4 _ k3 _ k4 w _ _ _ _ _ _ (int_beq _ _) (size_nil s) e3 e4 (int_beq _ _) e6 (by simpa using g1) (by simpa using g2) (by simpa using g3) (by simpa using g4) (by simpa using g5) (by simpa using g5) (decide_eq_true g) (decide_eq_false g')).mono (e _ ?_)
    unfold shB
    rw [decide_eq_false g']
    simp
  · refine (shaped_low k n s A3 A4 _ k3 _ k4 w _ _ _ _ _ _ (int_beq _ _) (size_nil s) e3 e4 (int_beq _ _) e6 (by simpa using g1) (by simpa using g2) (by simpa using g3) (by simpa using g4) (by simpa using g5) (by simpa using g5) (decide_eq_false g)).mono (e _ ?_)
    unfold shB
    rw [decide_eq_false g]
    simp

end Go.Proofs.YtjmchjphdfbhiaaGreatDoor.val

namespace Go.Proofs.YtjmchjphdfbhiaaGreatDoor.val
open Go.RowKit
open Go.Proofs.YtjmchjphdfbhiaaGreatDoor
theorem text_any (s : ByteArray) (w : World) : Calls Tryz.prog 94 #[.string s] w fun e w' => e = .returned (.int .i64 (textE s)) ∧ Q w w' := by
  by_cases h : 4096 < s.size
  · unfold textE
    rw [if_pos h]
    have h' : decide ((4096 : Int) < (s.size : Int)) = true := decide_eq_true (by omega)
    clear h
    go_enter Tryz.func94, Tryz.ntmps94
    go_wp2_with fail
    go_ret
    exact ⟨rfl, Q.refl _⟩
  · have cV := Lib.hid (fun w' => lit.ref_valid s w' (by omega))
    have hb : lit.okL s.data.toList = Lib.validD s.data.toList := by
      unfold lit.okL
      rw [decide_eq_true (show s.data.toList.length ≤ 4096 by simp; omega), Bool.true_and]
    rw [hb] at cV
    unfold textE
    rw [if_neg h]
    have h' : decide ((4096 : Int) < (s.size : Int)) = false := decide_eq_false (by omega)
    obtain ⟨R, hR⟩ : ∃ R, Lib.validD s.data.toList = R := ⟨_, rfl⟩
    rw [hR] at cV ⊢
    clear h hb hR
    cases R
    · go_enter Tryz.func94, Tryz.ntmps94
      go_wp2_with fail
      refine (cV.out _).mono ?_
      rintro e w1 ⟨rfl, q1⟩
      go_wp2_with fail
      go_ret
      exact ⟨rfl, q1⟩
    · go_enter Tryz.func94, Tryz.ntmps94
      go_wp2_with fail
      refine (cV.out _).mono ?_
      rintro e w1 ⟨rfl, q1⟩
      go_wp2_with fail
      go_ret
      exact ⟨rfl, q1⟩
theorem rvalid_any (n : Int) (w : World) : Calls Tryz.prog 93 #[.int .i64 n] w fun e w' => e = .returned (.bool (decide (-9007199254740992 ≤ n ∧ n ≤ 9007199254740992))) ∧ Q w w' := by
  rw [Bool.decide_and]
  obtain ⟨a, ha⟩ : ∃ a, decide (-9007199254740992 ≤ n) = a := ⟨_, rfl⟩
  obtain ⟨b, hb⟩ : ∃ b, decide (n ≤ 9007199254740992) = b := ⟨_, rfl⟩
  rw [ha, hb]
  cases a
  · go_enter Tryz.func93, Tryz.ntmps93
    go_wp2_with fail
    go_ret
    exact ⟨rfl, Q.refl _⟩
  · cases b
    · go_enter Tryz.func93, Tryz.ntmps93
      go_wp2_with fail
      go_ret
      exact ⟨rfl, Q.refl _⟩
    · go_enter Tryz.func93, Tryz.ntmps93
      go_wp2_with fail
      go_ret
      exact ⟨rfl, Q.refl _⟩

end Go.Proofs.YtjmchjphdfbhiaaGreatDoor.val
