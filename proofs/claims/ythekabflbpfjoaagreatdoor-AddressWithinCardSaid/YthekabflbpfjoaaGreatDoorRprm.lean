/- The reference's Parse and ParsePlace. -/
import Derived.Test.YthekabflbpfjoaaGreatDoorRplm
import Derived.Test.YthekabflbpfjoaaGreatDoorAvam
namespace Go.Proofs.YthekabflbpfjoaaGreatDoor.adr
open Go.RowKit
open Go.Proofs.YthekabflbpfjoaaGreatDoor

theorem Sr.len0 {B : Nat} {A : Option Addr} {n c : Nat} {ms : List St} {w : World} (h : Sr B (.slice A n c) ms w) : n = ms.length := by
  obtain ⟨a, c', e⟩ := h.shape
  simp only [Value.slice.injEq] at e
  exact e.2.1
/-- The cells of a place that was read: what Parse looks at. -/
def Pr (l : List UInt8) (B : Nat) (A : Option Addr) (n c : Nat) (r : Rs) (wh ok : Bool) (w : World) : Prop :=
  match full l with
  | none => ok = false ∧ r = Rs.zero ∧ n = 0
  | some (ms, x) => ok = true ∧ Sr B (.slice A n c) ms w ∧ r = x.getD Rs.zero ∧ wh = x.isSome
theorem Pr.cases {l : List UInt8} {B : Nat} {A : Option Addr} {n c : Nat} {r : Rs} {wh ok : Bool} {w : World} (h : Pr l B A n c r wh ok w) :
    (ok = false ∧ pErr l = 2) ∨ (ok = true ∧ wh = false ∧ pErr l = 2) ∨ (ok = true ∧ wh = true ∧ 16 < n ∧ pErr l = 4) ∨ (ok = true ∧ wh = true ∧ n ≤ 16 ∧ pErr l = 0 ∧ pRes l = r ∧ Sr B (.slice A n c) (pMods l) w) := by
  unfold Pr at h
  unfold pErr pRes pMods
  cases hf : full l with
  | none =>
    rw [hf] at h
    exact .inl ⟨h.1, rfl⟩
  | some y =>
    obtain ⟨ms, x⟩ := y
    rw [hf] at h
    obtain ⟨h1, h2, h3, h4⟩ := h
    have hn := h2.len0
    cases x with
    | none => exact .inr (.inl ⟨h1, h4, rfl⟩)
    | some r' =>
      right; right
      simp only
      by_cases h16 : 16 < ms.length
      · rw [if_pos h16]
        exact .inl ⟨h1, h4, by omega, rfl⟩
      · rw [if_neg h16, if_neg h16, if_neg h16]
        exact .inr ⟨h1, h4, by omega, rfl, h3.symm, h2⟩
theorem Pr.stays {l : List UInt8} {B : Nat} {A : Option Addr} {n c : Nat} {r : Rs} {wh ok : Bool} {w w' : World} (h : Pr l B A n c r wh ok w) (q : Q w w') : Pr l B A n c r wh ok w' := by
  unfold Pr at h ⊢
  split at h
  · exact h
  · exact ⟨h.1, h.2.1.stays q, h.2.2⟩

theorem Sr.low {B B' : Nat} {v : Value} {l : List St} {w : World} (h : Sr B v l w) (hB : B' ≤ B) : Sr B' v l w := by
  refine ⟨h.1, ?_⟩
  rcases h.2 with h2 | ⟨g, cap, cur, hv, hb, hrest⟩
  · exact .inl h2
  · exact .inr ⟨g, cap, cur, hv, Nat.le_trans hB hb, hrest⟩
/-- What Parse hands back. -/
def PsE (l : List UInt8) (w : World) (e : Ending) (w' : World) : Prop := ∃ A n c, e = .returned (.tuple #[rv (.slice A n c) (pRes l), .int .i64 (pErr l)]) ∧ Sr w.heap.size (.slice A n c) (pMods l) w' ∧ Q w w'

set_option maxRecDepth 100000 in
set_option maxHeartbeats 16000000 in
theorem refParse_any (s : ByteArray) (w : World) (hs : s.size ≤ 3000) :
    Calls Tryz.prog 16 #[.string s] w (PsE s.data.toList w) := by
  have cP : Hid (∀ w', Calls Tryz.prog 41 #[.string s] w' fun e w'' => PlE s.data.toList w' e w'') := Lib.hid (fun w' => refPlace_any s w' hs)
  generalize s.data.toList = l at *
  go_enter Tryz.func16, Tryz.ntmps16
  go_wp2_with fail
  refine (cP.out _).mono ?_; rintro e w1 ⟨A, n, c, ⟨d, ty, nm, kd, m, t⟩, wh, ok, rfl, hpr, q1⟩
  have HPR := Pr.cases hpr
  have hszz := (Q.alloc w (.cells #[.slice none 0 0, .bool false, .string ⟨#[]⟩, .string ⟨#[]⟩, .int .i64 0, .int .i64 0, .string ⟨#[]⟩] 27)).size
  have ZB : Hid (Zb w.heap.size (w1.alloc (.cells #[.slice A n c, .bool d, .string ty, .string nm, .int .i64 kd, .int .i64 m, .string t, .bool wh] 63))) := Lib.hid (((Bk.new _ _ w).stays q1).stays (Q.alloc _ _))
  have QQ := Lib.hid (((Q.alloc w (.cells #[.slice none 0 0, .bool false, .string ⟨#[]⟩, .string ⟨#[]⟩, .int .i64 0, .int .i64 0, .string ⟨#[]⟩] 27)).trans q1).trans (Q.alloc w1 (.cells #[.slice A n c, .bool d, .string ty, .string nm, .int .i64 kd, .int .i64 m, .string t, .bool wh] 63)))
  have B4 : Hid (Pl w1.heap.size (.slice A n c) (.bool d) (.string ty) (.string nm) (.int .i64 kd) (.int .i64 m) (.string t) (.bool wh) (w1.alloc (.cells #[.slice A n c, .bool d, .string ty, .string nm, .int .i64 kd, .int .i64 m, .string t, .bool wh] 63))) := Lib.hid (Bk.new _ _ _)
  clear cP q1 hpr
  simp only
  obtain ⟨w2, hw2⟩ : ∃ W, w1.alloc (.cells #[.slice A n c, .bool d, .string ty, .string nm, .int .i64 kd, .int .i64 m, .string t, .bool wh] 63) = W := ⟨_, rfl⟩
  rw [hw2] at ZB QQ B4
  obtain ⟨l0, l1, l2, l3, l4, l5, l6, l7⟩ := B4.out.cells
  rcases HPR with ⟨rfl, hE⟩ | ⟨rfl, rfl, hE⟩ | ⟨rfl, rfl, h16, hE⟩ | ⟨rfl, rfl, h16, hE, hR, hv⟩
  · clear B4 hszz
    obtain ⟨a0, a1, a2, a3, a4, a5, a6, z0, z1, z2, z3, z4, z5, z6⟩ := ZB.out.out
    have bp := Lib.hid (Bk.put7 ZB.out (.slice none 0 0) (.bool false) (.string ⟨#[]⟩) (.string ⟨#[]⟩) (.int .i64 0) (.int .i64 0) (.string ⟨#[]⟩))
    have KP := Lib.hid (QQ.out.put7 (Nat.le_refl _) (.slice none 0 0) (.bool false) (.string ⟨#[]⟩) (.string ⟨#[]⟩) (.int .i64 0) (.int .i64 0) (.string ⟨#[]⟩))
    clear ZB QQ
    go_wp2_with fail
    have y0 := bp.out.at 0 (.slice none 0 0) rfl
    have y1 := bp.out.at 1 (.bool false) rfl
    have y2 := bp.out.at 2 (.string ⟨#[]⟩) rfl
    have y3 := bp.out.at 3 (.string ⟨#[]⟩) rfl
    have y4 := bp.out.at 4 (.int .i64 0) rfl
    have y5 := bp.out.at 5 (.int .i64 0) rfl
    have y6 := bp.out.at 6 (.string ⟨#[]⟩) rfl
    refine bodyPost_ret (by simp [results, Tryz.results16, go_sem, y0, y1, y2, y3, y4, y5, y6]; try rfl) rfl ?_
    have hz := err_zero (l := l) (by rw [hE]; decide)
    refine ⟨none, 0, 0, ?_, ?_, KP.out⟩
    · rw [hE, hz.2]; rfl
    · rw [hz.1]; exact Sr.nil _ _
  · subst hw2
    clear B4 hszz
    obtain ⟨a0, a1, a2, a3, a4, a5, a6, z0, z1, z2, z3, z4, z5, z6⟩ := ZB.out.out
    have bp := Lib.hid (Bk.put7 ZB.out (.slice none 0 0) (.bool false) (.string ⟨#[]⟩) (.string ⟨#[]⟩) (.int .i64 0) (.int .i64 0) (.string ⟨#[]⟩))
    have KP := Lib.hid (QQ.out.put7 (Nat.le_refl _) (.slice none 0 0) (.bool false) (.string ⟨#[]⟩) (.string ⟨#[]⟩) (.int .i64 0) (.int .i64 0) (.string ⟨#[]⟩))
    clear ZB QQ
    go_wp2_with fail
    have y0 := bp.out.at 0 (.slice none 0 0) rfl
    have y1 := bp.out.at 1 (.bool false) rfl
    have y2 := bp.out.at 2 (.string ⟨#[]⟩) rfl
    have y3 := bp.out.at 3 (.string ⟨#[]⟩) rfl
    have y4 := bp.out.at 4 (.int .i64 0) rfl
    have y5 := bp.out.at 5 (.int .i64 0) rfl
    have y6 := bp.out.at 6 (.string ⟨#[]⟩) rfl
    refine bodyPost_ret (by simp [results, Tryz.results16, go_sem, y0, y1, y2, y3, y4, y5, y6]; try rfl) rfl ?_
    have hz := err_zero (l := l) (by rw [hE]; decide)
    refine ⟨none, 0, 0, ?_, ?_, KP.out⟩
    · rw [hE, hz.2]; rfl
    · rw [hz.1]; exact Sr.nil _ _
  · have g16 : (16 : Int) < (n : Int) := by omega
    clear B4 h16 hszz
    obtain ⟨a0, a1, a2, a3, a4, a5, a6, z0, z1, z2, z3, z4, z5, z6⟩ := ZB.out.out
    have bp := Lib.hid (Bk.put7 ZB.out (.slice none 0 0) (.bool false) (.string ⟨#[]⟩) (.string ⟨#[]⟩) (.int .i64 0) (.int .i64 0) (.string ⟨#[]⟩))
    have KP := Lib.hid (QQ.out.put7 (Nat.le_refl _) (.slice none 0 0) (.bool false) (.string ⟨#[]⟩) (.string ⟨#[]⟩) (.int .i64 0) (.int .i64 0) (.string ⟨#[]⟩))
    clear ZB QQ
    go_wp2_with fail
    have y0 := bp.out.at 0 (.slice none 0 0) rfl
    have y1 := bp.out.at 1 (.bool false) rfl
    have y2 := bp.out.at 2 (.string ⟨#[]⟩) rfl
    have y3 := bp.out.at 3 (.string ⟨#[]⟩) rfl
    have y4 := bp.out.at 4 (.int .i64 0) rfl
    have y5 := bp.out.at 5 (.int .i64 0) rfl
    have y6 := bp.out.at 6 (.string ⟨#[]⟩) rfl
    refine bodyPost_ret (by simp [results, Tryz.results16, go_sem, y0, y1, y2, y3, y4, y5, y6]; try rfl) rfl ?_
    have hz := err_zero (l := l) (by rw [hE]; decide)
    refine ⟨none, 0, 0, ?_, ?_, KP.out⟩
    · rw [hE, hz.2]; rfl
    · rw [hz.1]; exact Sr.nil _ _
  · have g16 : ¬ (16 : Int) < (n : Int) := by omega
    have HR := Lib.hid hR
    have SV := (hv.stays (Q.alloc w1 (.cells #[.slice A n c, .bool d, .string ty, .string nm, .int .i64 kd, .int .i64 m, .string t, .bool true] 63))).low hszz
    rw [hw2] at SV
    have SP := Lib.hid (SV.put7 ZB.out (.slice A n c) (.bool d) (.string ty) (.string nm) (.int .i64 kd) (.int .i64 m) (.string t))
    clear B4 h16 hR hv SV hszz
    obtain ⟨a0, a1, a2, a3, a4, a5, a6, z0, z1, z2, z3, z4, z5, z6⟩ := ZB.out.out
    have bp := Lib.hid (Bk.put7 ZB.out (.slice A n c) (.bool d) (.string ty) (.string nm) (.int .i64 kd) (.int .i64 m) (.string t))
    have KP := Lib.hid (QQ.out.put7 (Nat.le_refl _) (.slice A n c) (.bool d) (.string ty) (.string nm) (.int .i64 kd) (.int .i64 m) (.string t))
    clear ZB QQ
    go_wp2_with fail
    have y0 := bp.out.at 0 (.slice A n c) rfl
    have y1 := bp.out.at 1 (.bool d) rfl
    have y2 := bp.out.at 2 (.string ty) rfl
    have y3 := bp.out.at 3 (.string nm) rfl
    have y4 := bp.out.at 4 (.int .i64 kd) rfl
    have y5 := bp.out.at 5 (.int .i64 m) rfl
    have y6 := bp.out.at 6 (.string t) rfl
    refine bodyPost_ret (by simp [results, Tryz.results16, go_sem, y0, y1, y2, y3, y4, y5, y6]; try rfl) rfl ?_
    refine ⟨A, n, c, ?_, SP.out, KP.out⟩
    rw [hE, HR.out]
    rfl

end Go.Proofs.YthekabflbpfjoaaGreatDoor.adr
