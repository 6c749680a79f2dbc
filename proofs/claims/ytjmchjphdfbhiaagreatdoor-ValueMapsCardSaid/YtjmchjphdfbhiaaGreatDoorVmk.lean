/- List, Null, Unknown, Bool, Number, String. -/
import Derived.Test.YtjmchjphdfbhiaaGreatDoorVco
namespace Go.Proofs.YtjmchjphdfbhiaaGreatDoor.val
open Go.RowKit
open Go.Proofs.YtjmchjphdfbhiaaGreatDoor
open Go.Proofs.YtjmchjphdfbhiaaGreatDoor.val.cp (Fit set5 set5_block set5_world set5_at)
/-- What a function that makes a value hands back. -/
def Made (v : V) (w : World) (e : Ending) (w' : World) : Prop := ∃ s3 s4, e = .returned (.agg #[.int .i64 v.kind, .int .i64 v.num, .string v.str, s3, s4]) ∧ Is s3 v.items w' ∧ Ks s4 v.keys w' ∧ Q w w'
set_option maxRecDepth 100000 in
theorem null_any (w : World) : Calls Tryz.prog 16 #[] w (Made ⟨0, 0, ⟨#[]⟩, [], []⟩ w) := by
  go_enter Tryz.func16, Tryz.ntmps16
  go_wp2_with fail
  go_returns
  exact ⟨_, _, rfl, Is.nil _ _ _, Ks.nil _ _ _, Q.box _ _⟩
set_option maxRecDepth 100000 in
theorem unknown_any (w : World) : Calls Tryz.prog 18 #[] w (Made ⟨6, 0, ⟨#[]⟩, [], []⟩ w) := by
  go_enter Tryz.func18, Tryz.ntmps18
  go_wp2_with fail
  go_returns
  exact ⟨_, _, rfl, Is.nil _ _ _, Ks.nil _ _ _, Q.box _ _⟩
set_option maxRecDepth 100000 in
theorem number_any (n : Int) (w : World) : Calls Tryz.prog 22 #[.int .i64 n] w (Made ⟨2, n, ⟨#[]⟩, [], []⟩ w) := by
  go_enter Tryz.func22, Tryz.ntmps22
  go_wp2_with fail
  go_returns
  exact ⟨_, _, rfl, Is.nil _ _ _, Ks.nil _ _ _, Q.box _ _⟩
set_option maxRecDepth 100000 in
theorem bool_any (b : Bool) (w : World) : Calls Tryz.prog 20 #[.bool b] w (Made ⟨1, if b then 1 else 0, ⟨#[]⟩, [], []⟩ w) := by
  cases b
  · go_enter Tryz.func20, Tryz.ntmps20
    go_wp2_with fail
    go_returns
    exact ⟨_, _, rfl, Is.nil _ _ _, Ks.nil _ _ _, two_box _ _ _⟩
  · go_enter Tryz.func20, Tryz.ntmps20
    go_wp2_with fail
    go_returns
    exact ⟨_, _, rfl, Is.nil _ _ _, Ks.nil _ _ _, two_box _ _ _⟩

/-- A result stored in its block: the block was made ahead of what the result reads. -/
theorem store5 {w w1 : World} {P : Nat} {k n : Int} {s : ByteArray} {s3 s4 : Value} (hP : P = w.heap.size) (bz : Bk P #[.int .i64 0, .int .i64 0, .string ⟨#[]⟩, .slice none 0 0, .slice none 0 0] 26 w1) (q : Q w w1) :
    Bk P #[.int .i64 k, .int .i64 n, .string s, s3, s4] 26 (set5 w1 P 0 (.int .i64 k) (.int .i64 n) (.string s) s3 s4) ∧ Q w (set5 w1 P 0 (.int .i64 k) (.int .i64 n) (.string s) s3 s4) := by
  subst hP
  refine ⟨((((bz.set 0 (.int .i64 k)).set 1 (.int .i64 n)).set 2 (.string s)).set 3 s3).set 4 s4, ?_⟩
  have hw := set5_world w1 w.heap.size 0 (.int .i64 k) (.int .i64 n) (.string s) s3 s4
  exact ⟨hw.1.trans q.os, hw.2.1.trans q.tape, hw.2.2.1.trans q.output, by have := q.size; omega, fun j hj => (set5_block w1 w.heap.size 0 _ _ _ _ _ j (by omega)).trans (q.block j hj)⟩
set_option maxRecDepth 100000 in
theorem string_any (s : ByteArray) (w : World) (hs : s.size ≤ 281474976710656) : Calls Tryz.prog 24 #[.string s] w (Made ⟨3, 0, s, [], []⟩ w) := by
  have cS := Lib.hid (fun w' => clone_any s w' hs)
  clear hs
  obtain ⟨P, hP⟩ : ∃ P, P = w.heap.size := ⟨_, rfl⟩
  obtain ⟨wb, hwb⟩ : ∃ wb, w.alloc (.cells #[.int .i64 0, .int .i64 0, .string ⟨#[]⟩, .slice none 0 0, .slice none 0 0] 26) = wb := ⟨_, rfl⟩
  have qb : Q w wb := by rw [← hwb]; exact Q.box _ _
  have bz : Bk P #[.int .i64 0, .int .i64 0, .string ⟨#[]⟩, .slice none 0 0, .slice none 0 0] 26 wb := by rw [← hwb, hP]; exact Bk.new _ _ _
  have hP' : w.heap.size = P := hP.symm
  have HP := Lib.hid hP
  have BZ := Lib.hid bz
  have QB := Lib.hid qb
  clear hP bz qb
  go_enter Tryz.func24, Tryz.ntmps24
  go_wp2_with fail
  refine (cS.out _).mono ?_
  rintro e w1 ⟨rfl, q1⟩
  have b1 := BZ.out.stays q1
  have z0 := b1.at 0 _ rfl
  have z1 := b1.at 1 _ rfl
  have z2 := b1.at 2 _ rfl
  have z3 := b1.at 3 _ rfl
  have z4 := b1.at 4 _ rfl
  have f0 := b1.frozen 0
  have f1 := b1.frozen 1
  have f2 := b1.frozen 2
  have f3 := b1.frozen 3
  have f4 := b1.frozen 4
  obtain ⟨bf, qf⟩ := store5 (k := 3) (n := 0) (s := s) (s3 := .slice none 0 0) (s4 := .slice none 0 0) HP.out b1 (QB.out.trans q1)
  obtain ⟨wf, hwf⟩ : ∃ wf, set5 w1 P 0 (.int .i64 3) (.int .i64 0) (.string s) (.slice none 0 0) (.slice none 0 0) = wf := ⟨_, rfl⟩
  rw [hwf] at bf qf
  unfold set5 at hwf
  simp only [Nat.zero_add] at hwf
  have r0 := bf.at 0 _ rfl
  have r1 := bf.at 1 _ rfl
  have r2 := bf.at 2 _ rfl
  have r3 := bf.at 3 _ rfl
  have r4 := bf.at 4 _ rfl
  have QF := Lib.hid qf
  clear b1 bf qf q1 hwb
  go_wp2_with fail
  refine bodyPost_ret (by simp [results, Tryz.results24, go_sem, r0, r1, r2, r3, r4]; try rfl) rfl ?_
  exact ⟨_, _, rfl, Is.nil _ _ _, Ks.nil _ _ _, QF.out⟩
/-- `cp.copyOf_any` for a value written out. -/
theorem copy_mk (k n : Int) (s : ByteArray) (l : List V) (ks : List ByteArray) (A3 A4 : Option Addr) (k3 k4 n3 n4 most : Nat) (e3 : n3 = l.length) (e4 : n4 = ks.length) (w wA : World) (qA : Q wA w) (h3 : Is (.slice A3 n3 k3) l wA) (h4 : Ks (.slice A4 n4 k4) ks wA) (hf : Fit ⟨k, n, s, l, ks⟩) (hm : nodesL l ≤ most) (hb : most ≤ 1000000000) (hv : nodesL l ≤ 899990) :
    Calls Tryz.prog 50 #[.agg #[.int .i64 k, .int .i64 n, .string s, .slice A3 n3 k3, .slice A4 n4 k4], .int .i64 most] w fun e w' => ∃ B3 d3 B4 d4, e = .returned (.agg #[.int .i64 k, .int .i64 n, .string s, .slice B3 n3 d3, .slice B4 n4 d4]) ∧ (∀ wf : World, (∀ j, j < w'.heap.size → (j < wA.heap.size ∨ w.heap.size ≤ j) → wf.heap[j]? = w'.heap[j]?) → Is (.slice B3 n3 d3) l wf ∧ Ks (.slice B4 n4 d4) ks wf) ∧ Q w w' := by
  subst e3
  subst e4
  refine (cp.copyOf_any ⟨k, n, s, l, ks⟩ A3 A4 k3 k4 most w wA qA h3 h4 hf hm hb (by rw [nodes]; omega)).mono ?_
  rintro e w' ⟨s3, s4, rfl, hI, q⟩
  have hh := hI w' (fun j _ _ => rfl)
  obtain ⟨B3, d3, rfl, -⟩ := hh.1.shape
  obtain ⟨B4, d4, rfl, -⟩ := hh.2.shape
  exact ⟨B3, d3, B4, d4, rfl, hI, q⟩
set_option maxHeartbeats 4000000 in
set_option maxRecDepth 100000 in
theorem list_any (A : Option Addr) (c : Nat) (l : List V) (w : World) (h : Is (.slice A l.length c) l w) (hf : Fit ⟨4, 0, ⟨#[]⟩, l, []⟩) (hn : nodesL l ≤ 800000) : Calls Tryz.prog 26 #[.slice A l.length c] w (Made ⟨4, 0, ⟨#[]⟩, l, []⟩ w) := by
  have cC := Lib.hid (fun w' (q' : Q w w') => copy_mk 4 0 ⟨#[]⟩ l [] A none c 0 l.length 0 33554432 rfl rfl w' w q' h (Ks.nil _ _ _) hf (by omega) (by omega) (by omega))
  clear h hf hn
  obtain ⟨P, hP⟩ : ∃ P, P = w.heap.size := ⟨_, rfl⟩
  obtain ⟨wb, hwb⟩ : ∃ wb, w.alloc (.cells #[.int .i64 0, .int .i64 0, .string ⟨#[]⟩, .slice none 0 0, .slice none 0 0] 26) = wb := ⟨_, rfl⟩
  have qb : Q w wb := by rw [← hwb]; exact Q.box _ _
  have bz : Bk P #[.int .i64 0, .int .i64 0, .string ⟨#[]⟩, .slice none 0 0, .slice none 0 0] 26 wb := by rw [← hwb, hP]; exact Bk.new _ _ _
  have hsz : Hid (wb.heap.size = w.heap.size + 1) := by show _ = _; rw [← hwb, size_alloc]
  have hP' : w.heap.size = P := hP.symm
  have HP := Lib.hid hP
  have BZ := Lib.hid bz
  have QB := Lib.hid qb
  clear hP bz qb
  go_enter Tryz.func26, Tryz.ntmps26
  go_wp2_with fail
  refine (cC.out _ QB.out).mono ?_
  rintro e w1 ⟨B3, d3, B4, d4, rfl, hI, q1⟩
  have b1 := BZ.out.stays q1
  have z0 := b1.at 0 _ rfl
  have z1 := b1.at 1 _ rfl
  have z2 := b1.at 2 _ rfl
  have z3 := b1.at 3 _ rfl
  have z4 := b1.at 4 _ rfl
  have f0 := b1.frozen 0
  have f1 := b1.frozen 1
  have f2 := b1.frozen 2
  have f3 := b1.frozen 3
  have f4 := b1.frozen 4
  obtain ⟨bf, qf⟩ := store5 (k := 4) (n := 0) (s := ⟨#[]⟩) (s3 := .slice B3 l.length d3) (s4 := .slice B4 0 d4) HP.out b1 (QB.out.trans q1)
  have hfin := hI (set5 w1 P 0 (.int .i64 4) (.int .i64 0) (.string ⟨#[]⟩) (.slice B3 l.length d3) (.slice B4 0 d4)) (fun j _ hj => set5_block w1 P 0 _ _ _ _ _ j (by have := hsz.out; have := HP.out; omega))
  obtain ⟨wf, hwf⟩ : ∃ wf, set5 w1 P 0 (.int .i64 4) (.int .i64 0) (.string ⟨#[]⟩) (.slice B3 l.length d3) (.slice B4 0 d4) = wf := ⟨_, rfl⟩
  rw [hwf] at bf qf hfin
  unfold set5 at hwf
  simp only [Nat.zero_add] at hwf
  have r0 := bf.at 0 _ rfl
  have r1 := bf.at 1 _ rfl
  have r2 := bf.at 2 _ rfl
  have r3 := bf.at 3 _ rfl
  have r4 := bf.at 4 _ rfl
  have QF := Lib.hid qf
  have HF := Lib.hid hfin
  clear b1 bf qf q1 hwb hI hfin
  go_wp2_with fail
  refine bodyPost_ret (by simp [results, Tryz.results26, go_sem, r0, r1, r2, r3, r4]; try rfl) rfl ?_
  exact ⟨_, _, rfl, HF.out.1, HF.out.2, QF.out⟩

end Go.Proofs.YtjmchjphdfbhiaaGreatDoor.val
