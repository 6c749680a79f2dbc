/- The reference's ParsePlace. -/
import Derived.Test.YthekabflbpfjoaaGreatDoorRprm
import Derived.Test.YthekabflbpfjoaaGreatDoorAvgm
namespace Go.Proofs.YthekabflbpfjoaaGreatDoor.adr
open Go.RowKit
open Go.Proofs.YthekabflbpfjoaaGreatDoor

/-- A place of at most 16 steps. -/
def pq (l : List UInt8) : Option (List St × Option Rs) :=
  match full l with
  | none => none
  | some x => if x.1.length ≤ 16 then some x else none
/-- What ParsePlace hands back. -/
def PpE (l : List UInt8) (w : World) (e : Ending) (w' : World) : Prop := ∃ (A : Option Addr) (n c : Nat) (r : Rs) (wh ok : Bool), e = .returned (.tuple #[.agg #[.slice A n c, .bool r.data, .string r.type, .string r.name, .int .i64 r.key.kind, .int .i64 r.key.num, .string r.key.str, .bool wh], .bool ok]) ∧
  (match pq l with | none => ok = false | some (ms, x) => ok = true ∧ Sr w.heap.size (.slice A n c) ms w' ∧ r = x.getD Rs.zero ∧ wh = x.isSome) ∧ Q w w'
theorem PpE.no {l : List UInt8} {w w' : World} (h : pq l = none) (q : Q w w') : PpE l w (.returned (.tuple #[.agg #[.slice none 0 0, .bool false, .string ⟨#[]⟩, .string ⟨#[]⟩, .int .i64 0, .int .i64 0, .string ⟨#[]⟩, .bool false], .bool false])) w' :=
  ⟨none, 0, 0, Rs.zero, false, false, rfl, by rw [h], q⟩
theorem PpE.yes {l : List UInt8} {w w' : World} {A : Option Addr} {n c : Nat} {ms : List St} {x : Option Rs} {d : Bool} {ty nm : ByteArray} {kd m : Int} {t : ByteArray} {wh : Bool} (h : pq l = some (ms, x)) (hr : (⟨d, ty, nm, ⟨kd, m, t⟩⟩ : Rs) = x.getD Rs.zero) (hw : wh = x.isSome) (hv : Sr w.heap.size (.slice A n c) ms w') (q : Q w w') : PpE l w (.returned (.tuple #[.agg #[.slice A n c, .bool d, .string ty, .string nm, .int .i64 kd, .int .i64 m, .string t, .bool wh], .bool true])) w' :=
  ⟨A, n, c, ⟨d, ty, nm, ⟨kd, m, t⟩⟩, wh, true, rfl, by rw [h]; exact ⟨rfl, hv, hr, hw⟩, q⟩
theorem Pr.pq {l : List UInt8} {B : Nat} {A : Option Addr} {n c : Nat} {r : Rs} {wh ok : Bool} {w : World} (h : Pr l B A n c r wh ok w) :
    (ok = false ∧ pq l = none) ∨ (ok = true ∧ 16 < n ∧ pq l = none) ∨ (ok = true ∧ n ≤ 16 ∧ ∃ ms x, pq l = some (ms, x) ∧ Sr B (.slice A n c) ms w ∧ r = x.getD Rs.zero ∧ wh = x.isSome) := by
  unfold Pr at h
  unfold adr.pq
  cases hf : full l with
  | none =>
    rw [hf] at h
    exact .inl ⟨h.1, rfl⟩
  | some y =>
    obtain ⟨ms, x⟩ := y
    rw [hf] at h
    obtain ⟨h1, h2, h3, h4⟩ := h
    have hn := h2.len0
    right
    simp only
    by_cases h16 : ms.length ≤ 16
    · rw [if_pos h16]
      exact .inr ⟨h1, by omega, ms, x, rfl, h2, h3, h4⟩
    · rw [if_neg h16]
      exact .inl ⟨h1, by omega, rfl⟩

set_option maxRecDepth 100000 in
set_option maxHeartbeats 16000000 in
theorem refParsePlace_any (s : ByteArray) (w : World) (hs : s.size ≤ 3000) :
    Calls Tryz.prog 53 #[.string s] w (PpE s.data.toList w) := by
  have cP : Hid (∀ w', Calls Tryz.prog 41 #[.string s] w' fun e w'' => PlE s.data.toList w' e w'') := Lib.hid (fun w' => refPlace_any s w' hs)
  generalize s.data.toList = l at *
  go_enter Tryz.func53, Tryz.ntmps53
  go_wp2_with fail
  refine (cP.out _).mono ?_; rintro e w1 ⟨A, n, c, ⟨d, ty, nm, kd, m, t⟩, wh, ok, rfl, hpr, q1⟩
  have HPR := Pr.pq hpr
  have hszz := (Q.alloc w (.cells #[.slice none 0 0, .bool false, .string ⟨#[]⟩, .string ⟨#[]⟩, .int .i64 0, .int .i64 0, .string ⟨#[]⟩, .bool false] 63)).size
  have B2 : Hid (Pl w.heap.size (.slice none 0 0) (.bool false) (.string ⟨#[]⟩) (.string ⟨#[]⟩) (.int .i64 0) (.int .i64 0) (.string ⟨#[]⟩) (.bool false) (w1.alloc (.cells #[.slice A n c, .bool d, .string ty, .string nm, .int .i64 kd, .int .i64 m, .string t, .bool wh] 63))) := Lib.hid (((Bk.new _ _ w).stays q1).stays (Q.alloc _ _))
  have QQ := Lib.hid (((Q.alloc w (.cells #[.slice none 0 0, .bool false, .string ⟨#[]⟩, .string ⟨#[]⟩, .int .i64 0, .int .i64 0, .string ⟨#[]⟩, .bool false] 63)).trans q1).trans (Q.alloc w1 (.cells #[.slice A n c, .bool d, .string ty, .string nm, .int .i64 kd, .int .i64 m, .string t, .bool wh] 63)))
  have B4 : Hid (Pl w1.heap.size (.slice A n c) (.bool d) (.string ty) (.string nm) (.int .i64 kd) (.int .i64 m) (.string t) (.bool wh) (w1.alloc (.cells #[.slice A n c, .bool d, .string ty, .string nm, .int .i64 kd, .int .i64 m, .string t, .bool wh] 63))) := Lib.hid (Bk.new _ _ _)
  clear cP q1 hpr
  simp only
  obtain ⟨l0, l1, l2, l3, l4, l5, l6, l7⟩ := B4.out.cells
  rcases HPR with ⟨rfl, hE⟩ | ⟨rfl, h16, hE⟩ | ⟨rfl, h16, ms, x, hE, hv, hr, hw⟩
  · have HE := Lib.hid hE
    clear B4 hszz hE
    obtain ⟨a0, a1, a2, a3, a4, a5, a6, a7⟩ := B2.out.cells
    obtain ⟨z0, z1, z2, z3, z4, z5, z6, z7⟩ := B2.out.marks
    have bp := Lib.hid (B2.out.put8 (.slice none 0 0) (.bool false) (.string ⟨#[]⟩) (.string ⟨#[]⟩) (.int .i64 0) (.int .i64 0) (.string ⟨#[]⟩) (.bool false))
    have KP := Lib.hid (QQ.out.put8 (Nat.le_refl _) (.slice none 0 0) (.bool false) (.string ⟨#[]⟩) (.string ⟨#[]⟩) (.int .i64 0) (.int .i64 0) (.string ⟨#[]⟩) (.bool false))
    clear B2 QQ
    go_wp2_with fail
    obtain ⟨y0, y1, y2, y3, y4, y5, y6, y7⟩ := bp.out.cells
    refine bodyPost_ret (by simp [results, Tryz.results53, go_sem, y0, y1, y2, y3, y4, y5, y6, y7]; try rfl) rfl ?_
    exact PpE.no HE.out KP.out
  · have g16 : (16 : Int) < (n : Int) := by omega
    have HE := Lib.hid hE
    clear B4 hszz hE h16
    obtain ⟨a0, a1, a2, a3, a4, a5, a6, a7⟩ := B2.out.cells
    obtain ⟨z0, z1, z2, z3, z4, z5, z6, z7⟩ := B2.out.marks
    have bp := Lib.hid (B2.out.put8 (.slice none 0 0) (.bool false) (.string ⟨#[]⟩) (.string ⟨#[]⟩) (.int .i64 0) (.int .i64 0) (.string ⟨#[]⟩) (.bool false))
    have KP := Lib.hid (QQ.out.put8 (Nat.le_refl _) (.slice none 0 0) (.bool false) (.string ⟨#[]⟩) (.string ⟨#[]⟩) (.int .i64 0) (.int .i64 0) (.string ⟨#[]⟩) (.bool false))
    clear B2 QQ
    go_wp2_with fail
    obtain ⟨y0, y1, y2, y3, y4, y5, y6, y7⟩ := bp.out.cells
    refine bodyPost_ret (by simp [results, Tryz.results53, go_sem, y0, y1, y2, y3, y4, y5, y6, y7]; try rfl) rfl ?_
    exact PpE.no HE.out KP.out
  · have g16 : ¬ (16 : Int) < (n : Int) := by omega
    have HE := Lib.hid hE
    have HR := Lib.hid hr
    have HW := Lib.hid hw
    have SV := (hv.stays (Q.alloc w1 (.cells #[.slice A n c, .bool d, .string ty, .string nm, .int .i64 kd, .int .i64 m, .string t, .bool wh] 63))).low hszz
    have SP := Lib.hid (SV.put8 B2.out (.slice A n c) (.bool d) (.string ty) (.string nm) (.int .i64 kd) (.int .i64 m) (.string t) (.bool wh))
    clear B4 h16 hr hw hE hv SV hszz
    obtain ⟨a0, a1, a2, a3, a4, a5, a6, a7⟩ := B2.out.cells
    obtain ⟨z0, z1, z2, z3, z4, z5, z6, z7⟩ := B2.out.marks
    have bp := Lib.hid (B2.out.put8 (.slice A n c) (.bool d) (.string ty) (.string nm) (.int .i64 kd) (.int .i64 m) (.string t) (.bool wh))
    have KP := Lib.hid (QQ.out.put8 (Nat.le_refl _) (.slice A n c) (.bool d) (.string ty) (.string nm) (.int .i64 kd) (.int .i64 m) (.string t) (.bool wh))
    clear B2 QQ
    go_wp2_with fail
    obtain ⟨y0, y1, y2, y3, y4, y5, y6, y7⟩ := bp.out.cells
    refine bodyPost_ret (by simp [results, Tryz.results53, go_sem, y0, y1, y2, y3, y4, y5, y6, y7]; try rfl) rfl ?_
    exact PpE.yes HE.out HR.out HW.out SP.out KP.out

end Go.Proofs.YthekabflbpfjoaaGreatDoor.adr
