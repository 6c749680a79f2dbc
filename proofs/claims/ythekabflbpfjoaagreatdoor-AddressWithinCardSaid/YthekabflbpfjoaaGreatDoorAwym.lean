/- Rows of module steps that a call owns, and readPlace. -/
import Derived.Test.YthekabflbpfjoaaGreatDoorAwxm
import Derived.OwnWalk
import Derived.Lib.Builder
namespace Go.Proofs.YthekabflbpfjoaaGreatDoor.adr
open Go.RowKit
open Go.Proofs.YthekabflbpfjoaaGreatDoor

/-- The cells of steps. -/
def stCells : List St → List Value
  | [] => []
  | s :: t => .string s.name :: .int .i64 s.key.kind :: .int .i64 s.key.num :: .string s.key.str :: stCells t
theorem stCells_len : ∀ l : List St, (stCells l).length = l.length * 4
  | [] => rfl
  | s :: t => by
    show (stCells t).length + 1 + 1 + 1 + 1 = (t.length + 1) * 4
    rw [stCells_len t]
    omega
theorem stCells_app : ∀ a b : List St, stCells (a ++ b) = stCells a ++ stCells b
  | [], b => rfl
  | s :: t, b => by
    show _ :: _ :: _ :: _ :: stCells (t ++ b) = _
    rw [stCells_app t b]
    rfl
/-- v is a slice of the steps l, in memory that was taken from block B on. -/
def Sr (B : Nat) (v : Value) (l : List St) (w : World) : Prop := w.ownsRow B 44 4 v l.length (stCells l)
theorem Sr.nil (B : Nat) (w : World) : Sr B (.slice none 0 0) [] w := World.ownsRow_nil _ _ _ _
theorem Sr.shape {B : Nat} {v : Value} {l : List St} {w : World} (h : Sr B v l w) : ∃ a c, v = .slice a l.length c := by
  rcases h.2 with ⟨h1, h2⟩ | ⟨g, cap, cur, hv, _⟩
  · exact ⟨none, 0, by rw [h1, h2]⟩
  · exact ⟨_, cap, hv⟩
theorem Sr.stays {B : Nat} {v : Value} {l : List St} {w w' : World} (h : Sr B v l w) (hq : Q w w') : Sr B v l w' := by
  refine ⟨h.1, ?_⟩
  rcases h.2 with h2 | ⟨g, cap, cur, hv, hb, hc, hrest⟩
  · exact .inl h2
  · refine .inr ⟨g, cap, cur, hv, hb, ?_, hrest⟩
    rw [hq.block g (heap_lt hc)]
    exact hc
/-- No block of another type is the row's. -/
theorem Sr.apart {B : Nat} {v : Value} {l : List St} {w : World} (h : Sr B v l w) {p : Nat} {cs : Array Value} {t : TypeId} {fr : Nat × Nat} (hb : w.heap[p]? = some (.cells cs t fr)) (ht : t ≠ 44) : v.ownBlock ≠ some p :=
  by
  rcases h.2 with ⟨rfl, _⟩ | ⟨g, cap, cur, rfl, _, hg, _⟩
  · simp [Value.ownBlock]
  · intro h
    simp only [Value.ownBlock, Option.some.injEq] at h
    subst h
    rw [hg] at hb
    simp only [Option.some.injEq, Obj.cells.injEq] at hb
    exact ht hb.2.1.symm

theorem info_step : (Tryz.prog.info? 44).map (fun i => (i.zero, i.size, i.bytes)) = some (some (.agg #[.string ⟨#[]⟩, .int .i64 0, .int .i64 0, .string ⟨#[]⟩]), 4, 48) := by kernel_rfl


/-- What a call that owns a row from B on does to the world: what lies below B is as it was, and so are all blocks but rows of steps. -/
structure Kp (B : Nat) (a b : World) : Prop where
  below : Below B a b
  size : a.heap.size ≤ b.heap.size
  other : ∀ (k : Nat) (cs : Array Value) (t : TypeId) (fr : Nat × Nat), t ≠ 44 → a.heap[k]? = some (.cells cs t fr) → b.heap[k]? = a.heap[k]?
theorem Kp.refl (B : Nat) (a : World) : Kp B a a := ⟨Below.refl _ _, Nat.le_refl _, fun _ _ _ _ _ _ => rfl⟩
theorem Kp.trans {B : Nat} {a b c : World} (h : Kp B a b) (k : Kp B b c) : Kp B a c :=
  ⟨Below.trans h.below k.below, Nat.le_trans h.size k.size, fun j cs t fr ht hj => (k.other j cs t fr ht ((h.other j cs t fr ht hj).trans hj)).trans (h.other j cs t fr ht hj)⟩
theorem Kp.of {B : Nat} {a b : World} (h : Q a b) (hB : B ≤ a.heap.size) : Kp B a b :=
  ⟨Below.mono h hB, h.size, fun k _ _ _ _ hj => h.block k (heap_lt hj)⟩
theorem Kp.grown {B : Nat} {v : Value} {l : List St} {a b : World} (hown : Sr B v l a) (hg : a.grownBy b v.ownBlock) (hB : B ≤ a.heap.size) : Kp B a b :=
  ⟨(Below.refl B a).grown hg hB (fun k hk => (hown.lt k hk).1), hg.size, fun k _ _ _ ht hj => hg.block k (heap_lt hj) (fun e => hown.apart hj ht e.symm)⟩
theorem Kp.put {B : Nat} {a b : World} (h : Kp B a b) {p : Nat} (hp : a.heap.size ≤ p) (hB : B ≤ p) (j : Nat) (u : Value) : Kp B a (b.setCell ⟨p, j, none⟩ u) :=
  ⟨Below.setCell h.below (p := ⟨p, j, none⟩) hB u, by simpa [World.setCell] using h.size, fun k cs t fr ht hj => (Below.heap_setCell b ⟨p, j, none⟩ u k (by have := heap_lt hj; show k ≠ p; omega)).trans (h.other k cs t fr ht hj)⟩
theorem Kp.put7 {B : Nat} {a w : World} (h : Kp B a w) {p : Nat} (hp : a.heap.size ≤ p) (hB : B ≤ p) (x0 x1 x2 x3 x4 x5 x6 : Value) :
    Kp B a (((((((w.setCell ⟨p, 0, none⟩ (x0)).setCell ⟨p, 1, none⟩ (x1)).setCell ⟨p, 2, none⟩ (x2)).setCell ⟨p, 3, none⟩ (x3)).setCell ⟨p, 4, none⟩ (x4)).setCell ⟨p, 5, none⟩ (x5)).setCell ⟨p, 6, none⟩ (x6)) := ((((((h.put hp hB 0 x0).put hp hB 1 x1).put hp hB 2 x2).put hp hB 3 x3).put hp hB 4 x4).put hp hB 5 x5).put hp hB 6 x6
theorem Zb.kept {B p : Nat} {w w' : World} (h : Zb p w) (k : Kp B w w') : Zb p w' := (k.other p _ _ _ (by decide) h).trans h
theorem Sr.put {B : Nat} {v : Value} {l : List St} {w : World} (h : Sr B v l w) {p : Nat} {cs : Array Value} {t : TypeId} (hb : Bk p cs t w) (ht : t ≠ 44) (j : Nat) (u : Value) : Sr B v l (w.setCell ⟨p, j, none⟩ u) := by
  refine h.kept (row := some p) ⟨rfl, rfl, rfl, by simp [World.setCell], fun k _ hk => Below.heap_setCell _ _ _ _ (fun e => hk (by rw [e]))⟩ (Or.inr (h.apart hb ht))
theorem Sr.put7 {B : Nat} {v : Value} {l : List St} {w : World} (h : Sr B v l w) {p : Nat} (hb : Zb p w) (x0 x1 x2 x3 x4 x5 x6 : Value) : Sr B v l (((((((w.setCell ⟨p, 0, none⟩ (x0)).setCell ⟨p, 1, none⟩ (x1)).setCell ⟨p, 2, none⟩ (x2)).setCell ⟨p, 3, none⟩ (x3)).setCell ⟨p, 4, none⟩ (x4)).setCell ⟨p, 5, none⟩ (x5)).setCell ⟨p, 6, none⟩ (x6)) := by
  have g0 := h.put hb (by decide) 0 x0
  have b0 := Bk.set hb 0 x0
  have g1 := g0.put b0 (by decide) 1 x1
  have b1 := Bk.set b0 1 x1
  have g2 := g1.put b1 (by decide) 2 x2
  have b2 := Bk.set b1 2 x2
  have g3 := g2.put b2 (by decide) 3 x3
  have b3 := Bk.set b2 3 x3
  have g4 := g3.put b3 (by decide) 4 x4
  have b4 := Bk.set b3 4 x4
  have g5 := g4.put b4 (by decide) 5 x5
  have b5 := Bk.set b4 5 x5
  exact g5.put b5 (by decide) 6 x6

theorem wpList_sr {w : World} {ops : Array Oper} {rest : List Oper} {o : Oper} {a : Act} {Q' : Exit → Act → World → Prop} (hgd : o.guard = none) (s x : Operand)
    (ho : o.op = .call { callee := .builtin .append, args := #[s, x], argTypes := #[22, 22] })
    (B : Nat) (v : Value) (l : List St) (st : St) (hs : a.eval s = v) (hown : Sr B v l w) (ad : Addr) (c : Nat) (hx : a.eval x = .slice (some ad) 1 c)
    (hnews : ∀ j u, (stCells [st])[j]? = some u → w.cell? (ad.add j) = some u) (hlim : l.length ≤ 1000) (hbase : B ≤ w.heap.size)
    (h : ∀ v' w', Sr B v' (l ++ [st]) w' → Kp B w w' → wpList Tryz.prog ops Q' rest (a.put o.dst v') w') : wpList Tryz.prog ops Q' (o :: rest) a w := by
  obtain ⟨i0, hi, hz0, hz1, hz2⟩ := info_parts info_step
  refine wpList_append_own w hgd s x 22 ho B 44 i0 (.agg #[.string ⟨#[]⟩, .int .i64 0, .int .i64 0, .string ⟨#[]⟩]) 4 48 Tryz.underlying22 hi hz0 hz1 hz2 rfl (by decide) v l.length (stCells l) hs hown ad 1 c (stCells [st]) hx (by rw [stCells_len]; rfl) hnews ?_ (by unfold maxLen; omega) (by omega) hbase ?_
  · intro u hu
    simp only [stCells, List.mem_cons, List.not_mem_nil, or_false] at hu
    rcases hu with rfl | rfl | rfl | rfl <;> rfl
  · intro v' w' h1 h2 _
    refine h v' w' ?_ (Kp.grown hown h2 hbase)
    unfold Sr
    rw [List.length_append, stCells_app]
    exact h1

/-- What readPlace hands back. -/
def PlaceEnds (B : Nat) (path : List St) (o : Option (List St × Option Rs × List UInt8)) (v : Value) (r : Rs) (rest : ByteArray) (ok : Bool) (w : World) : Prop :=
  match o with
  | none => ok = false
  | some (ms, x, rs) => ok = true ∧ Sr B v (path ++ ms) w ∧ r = x.getD Rs.zero ∧ rest.data.toList = rs

set_option maxHeartbeats 8000000 in
/-- No further step: a resource. -/
theorem readPlace_res (B : Nat) (path : List St) (v : Value) (s I : ByteArray) (RO : Option Rs) (w : World) (hv : Sr B v path w) (hB : B ≤ w.heap.size)
  (cP : Hid (∀ w', Calls Tryz.prog 65 #[.string s, .string ⟨#[109, 111, 100, 117, 108, 101, 46]⟩] w' fun e w'' => e = .returned (.tuple #[.string I, .bool false]) ∧ w' = w''))
  (cR : Hid (∀ w', Q w w' → Calls Tryz.prog 66 #[.string s] w' fun e w'' => ∃ r ok, e = .returned (.tuple #[rv (.slice none 0 0) r, .bool ok]) ∧ RsEnds RO r ok ∧ Q w' w'')) :
    Calls Tryz.prog 39 #[v, .string s] w fun e w' => ∃ A n c r rest ok, e = .returned (.tuple #[rv (.slice A n c) r, .string rest, .bool ok]) ∧ PlaceEnds B path (RO.map fun r => ([], some r, [])) (.slice A n c) r rest ok w' ∧ Kp B w w' := by
  obtain ⟨A, c, rfl⟩ := hv.shape
  generalize hN : path.length = N at *
  go_enter Tryz.func39, Tryz.ntmps39
  go_wp2_with fail
  refine (cP.out _).mono ?_; rintro e w2 ⟨rfl, rfl⟩
  go_wp2_with fail
  refine (cR.out _ (Q.alloc _ _)).mono ?_; rintro e w1 ⟨⟨d, ty, nm, kd, n, t⟩, ok, rfl, hre, q1⟩
  have HR := Lib.hid hre
  clear hre cP cR
  have b1 : Hid (Zb w.heap.size w1) := Lib.hid ((Bk.new _ _ w).stays q1)
  have Q1 := Lib.hid ((Q.alloc w _).trans q1)
  clear q1
  unfold rv
  simp only
  have b9 := Bk.new #[.slice none 0 0, .bool d, .string ty, .string nm, .int .i64 kd, .int .i64 n, .string t] 27 w1
  have hs9 : w1.heap.size ≠ w.heap.size := by have := Bk.lt b1.out; omega
  have Q2 := Lib.hid (Q1.out.trans (Q.alloc w1 (.cells #[.slice none 0 0, .bool d, .string ty, .string nm, .int .i64 kd, .int .i64 n, .string t] 27)))
  have b2 : Hid (Zb w.heap.size (w1.alloc (.cells #[.slice none 0 0, .bool d, .string ty, .string nm, .int .i64 kd, .int .i64 n, .string t] 27))) := Lib.hid (b1.out.stays (Q.alloc _ _))
  have v2 := Lib.hid (hv.stays Q2.out)
  have hp9 : w.heap.size ≤ w1.heap.size := Q1.out.size
  obtain ⟨w2, hw2⟩ : ∃ W, w1.alloc (.cells #[.slice none 0 0, .bool d, .string ty, .string nm, .int .i64 kd, .int .i64 n, .string t] 27) = W := ⟨_, rfl⟩
  rw [hw2] at b9 Q2 b2 v2
  generalize hP9 : w1.heap.size = p9 at *
  have zz := b9.frozen 0
  have zc := b9.at 0 (.slice none 0 0) rfl
  have b3 := b9.set 0 (.slice A N c)
  have l0 := b3.at 0 (.slice A N c) rfl
  have l1 := b3.at 1 (.bool d) rfl
  have l2 := b3.at 2 (.string ty) rfl
  have l3 := b3.at 3 (.string nm) rfl
  have l4 := b3.at 4 (.int .i64 kd) rfl
  have l5 := b3.at 5 (.int .i64 n) rfl
  have l6 := b3.at 6 (.string t) rfl
  have Q3 := Lib.hid (Q2.out.put hp9 0 (.slice A N c))
  have v3 := Lib.hid (v2.out.put b9 (by decide) 0 (.slice A N c))
  have b4 : Zb w.heap.size (w2.setCell ⟨p9, 0, none⟩ (.slice A N c)) := Bk.other b2.out (fun e => hs9 e.symm) 0 _
  obtain ⟨a0, a1, a2, a3, a4, a5, a6, z0, z1, z2, z3, z4, z5, z6⟩ := b4.out
  have bp := Bk.put7 b4 (.slice A N c) (.bool d) (.string ty) (.string nm) (.int .i64 kd) (.int .i64 n) (.string t)
  have VP := Lib.hid (v3.out.put7 b4 (.slice A N c) (.bool d) (.string ty) (.string nm) (.int .i64 kd) (.int .i64 n) (.string t))
  have y0 := bp.at 0 _ rfl
  have y1 := bp.at 1 _ rfl
  have y2 := bp.at 2 _ rfl
  have y3 := bp.at 3 _ rfl
  have y4 := bp.at 4 _ rfl
  have y5 := bp.at 5 _ rfl
  have y6 := bp.at 6 _ rfl
  have KP := Lib.hid ((Kp.of Q3.out hB).put7 (Nat.le_refl _) hB (.slice A N c) (.bool d) (.string ty) (.string nm) (.int .i64 kd) (.int .i64 n) (.string t))
  replace bp := Lib.hid bp
  clear b4 b3 b9 b2 Q3 Q2 v2 v3 b1 Q1 hs9 hp9
  go_wp2_with fail
  have y0 := bp.out.at 0 (.slice A N c) rfl
  have y1 := bp.out.at 1 (.bool d) rfl
  have y2 := bp.out.at 2 (.string ty) rfl
  have y3 := bp.out.at 3 (.string nm) rfl
  have y4 := bp.out.at 4 (.int .i64 kd) rfl
  have y5 := bp.out.at 5 (.int .i64 n) rfl
  have y6 := bp.out.at 6 (.string t) rfl
  refine bodyPost_ret (by simp [results, Tryz.results39, go_sem, y0, y1, y2, y3, y4, y5, y6]; try rfl) rfl ?_
  refine ⟨A, N, c, ⟨d, ty, nm, ⟨kd, n, t⟩⟩, ⟨#[]⟩, ok, rfl, ?_, KP.out⟩
  cases RO with
  | none => exact HR.out.1
  | some r' => exact ⟨HR.out.1, by rw [List.append_nil]; exact VP.out, HR.out.2, rfl⟩

theorem new_step (w : World) (s : St) (p : Nat) (hp : p = w.heap.size) : ∀ j u, (stCells [s])[j]? = some u → (w.alloc (.cells #[.string s.name, .int .i64 s.key.kind, .int .i64 s.key.num, .string s.key.str] 44)).cell? ((⟨p, 0, none⟩ : Addr).add j) = some u := by
  intro j u h
  subst hp
  have e : ((⟨w.heap.size, 0, none⟩ : Addr).add j) = ⟨w.heap.size, j, none⟩ := by simp [Addr.add]; exact fun h => h.symm
  rw [e, World.cell?_alloc_new]
  simpa [stCells] using h
set_option maxHeartbeats 8000000 in
/-- As many steps as there may be: it stops. -/
theorem readPlace_stop (B : Nat) (path : List St) (v : Value) (s I : ByteArray) (w : World) (hv : Sr B v path w) (hB : B ≤ w.heap.size) (hk : path.length = 16)
  (cP : Hid (∀ w', Calls Tryz.prog 65 #[.string s, .string ⟨#[109, 111, 100, 117, 108, 101, 46]⟩] w' fun e w'' => e = .returned (.tuple #[.string I, .bool true]) ∧ w' = w'')) :
    Calls Tryz.prog 39 #[v, .string s] w fun e w' => ∃ A n c r rest ok, e = .returned (.tuple #[rv (.slice A n c) r, .string rest, .bool ok]) ∧ PlaceEnds B path (some ([], none, s.data.toList)) (.slice A n c) r rest ok w' ∧ Kp B w w' := by
  obtain ⟨A, c, rfl⟩ := hv.shape
  generalize hN : path.length = N at *
  obtain rfl : N = 16 := hk
  go_enter Tryz.func39, Tryz.ntmps39
  go_wp2_with fail
  refine (cP.out _).mono ?_; rintro e w2 ⟨rfl, rfl⟩
  have ZB : Hid (Zb w.heap.size (w.alloc (.cells #[.slice none 0 0, .bool false, .string ⟨#[]⟩, .string ⟨#[]⟩, .int .i64 0, .int .i64 0, .string ⟨#[]⟩] 27))) := Lib.hid (Bk.new _ _ w)
  have KK := Lib.hid (Kp.of (Q.alloc w (.cells #[.slice none 0 0, .bool false, .string ⟨#[]⟩, .string ⟨#[]⟩, .int .i64 0, .int .i64 0, .string ⟨#[]⟩] 27)) hB)
  have VV := Lib.hid (hv.stays (Q.alloc w (.cells #[.slice none 0 0, .bool false, .string ⟨#[]⟩, .string ⟨#[]⟩, .int .i64 0, .int .i64 0, .string ⟨#[]⟩] 27)))
  obtain ⟨w1, hw1⟩ : ∃ W, w.alloc (.cells #[.slice none 0 0, .bool false, .string ⟨#[]⟩, .string ⟨#[]⟩, .int .i64 0, .int .i64 0, .string ⟨#[]⟩] 27) = W := ⟨_, rfl⟩
  rw [hw1] at ZB KK VV ⊢
  obtain ⟨a0, a1, a2, a3, a4, a5, a6, z0, z1, z2, z3, z4, z5, z6⟩ := ZB.out.out
  have bp := Lib.hid (Bk.put7 ZB.out (.slice A 16 c) (.bool false) (.string ⟨#[]⟩) (.string ⟨#[]⟩) (.int .i64 0) (.int .i64 0) (.string ⟨#[]⟩))
  have VP := Lib.hid (VV.out.put7 ZB.out (.slice A 16 c) (.bool false) (.string ⟨#[]⟩) (.string ⟨#[]⟩) (.int .i64 0) (.int .i64 0) (.string ⟨#[]⟩))
  have KP := Lib.hid (KK.out.put7 (Nat.le_refl _) hB (.slice A 16 c) (.bool false) (.string ⟨#[]⟩) (.string ⟨#[]⟩) (.int .i64 0) (.int .i64 0) (.string ⟨#[]⟩))
  clear ZB VV KK
  go_wp2_with fail
  have y0 := bp.out.at 0 (.slice A 16 c) rfl
  have y1 := bp.out.at 1 (.bool false) rfl
  have y2 := bp.out.at 2 (.string ⟨#[]⟩) rfl
  have y3 := bp.out.at 3 (.string ⟨#[]⟩) rfl
  have y4 := bp.out.at 4 (.int .i64 0) rfl
  have y5 := bp.out.at 5 (.int .i64 0) rfl
  have y6 := bp.out.at 6 (.string ⟨#[]⟩) rfl
  refine bodyPost_ret (by simp [results, Tryz.results39, go_sem, y0, y1, y2, y3, y4, y5, y6]; try rfl) rfl ?_
  exact ⟨A, 16, c, Rs.zero, s, true, rfl, ⟨rfl, by rw [List.append_nil]; exact VP.out, rfl, rfl⟩, KP.out⟩

/-- One step, and what follows it. -/
def stepO (NO : Option (St × List UInt8)) (REC : List UInt8 → Option (List St × Option Rs × List UInt8)) : Option (List St × Option Rs × List UInt8) :=
  match NO with
  | none => none
  | some (st, []) => some ([st], none, [])
  | some (st, c :: r) => if c = 46 then (REC r).map fun x => (st :: x.1, x.2) else none
theorem chunk_step (k : Nat) (l : List UInt8) (h : Lib.hasPrefix l modB = true) : chunk (k + 1) l = stepO (rdNm (Lib.trimPrefix l modB)) (chunk k) := by
  rw [chunk, if_neg (by rw [h]; decide)]
  rfl
theorem app_step {B : Nat} {v : Value} {path ms : List St} {st : St} {w : World} (h : Sr B v ((path ++ [st]) ++ ms) w) : Sr B v (path ++ (st :: ms)) w := by
  rw [List.append_assoc] at h
  exact h
set_option maxHeartbeats 16000000 in
theorem readPlace_step (w0 : World) (path : List St) (v : Value) (s I : ByteArray) (NO : Option (St × List UInt8)) (REC : List UInt8 → Option (List St × Option Rs × List UInt8)) (w : World)
  (hv : Sr w0.heap.size v path w) (h0 : Q w0 w) (hk : path.length < 16) (hsz : Hid (∀ st r, NO = some (st, r) → r.length ≤ 1000000))
  (cP : Hid (∀ w', Calls Tryz.prog 65 #[.string s, .string ⟨#[109, 111, 100, 117, 108, 101, 46]⟩] w' fun e w'' => e = .returned (.tuple #[.string I, .bool true]) ∧ w' = w''))
  (cN : Hid (∀ w', Q w w' → Calls Tryz.prog 67 #[.string I] w' fun e w'' => ∃ st r ok, e = .returned (.tuple #[sv st, .string r, .bool ok]) ∧ NmEnds NO st r ok ∧ Q w' w''))
  (cX : Hid (∀ (st : St) (v' : Value) (s' : ByteArray) (w' : World), Sr w0.heap.size v' (path ++ [st]) w' → Q w0 w' → s'.size ≤ 1000000 → Calls Tryz.prog 39 #[v', .string s'] w' fun e w'' => ∃ A n c r rest ok, e = .returned (.tuple #[rv (.slice A n c) r, .string rest, .bool ok]) ∧ PlaceEnds w0.heap.size (path ++ [st]) (REC s'.data.toList) (.slice A n c) r rest ok w'' ∧ Kp w0.heap.size w' w'')) :
    Calls Tryz.prog 39 #[v, .string s] w fun e w' => ∃ A n c r rest ok, e = .returned (.tuple #[rv (.slice A n c) r, .string rest, .bool ok]) ∧ PlaceEnds w0.heap.size path (stepO NO REC) (.slice A n c) r rest ok w' ∧ Kp w0.heap.size w w' := by
  have hB : w0.heap.size ≤ w.heap.size := h0.size
  have H0 := Lib.hid h0
  obtain ⟨A, c, rfl⟩ := hv.shape
  generalize hN : path.length = N at *
  have hk' : ¬ (N : Int) = 16 := by omega
  have HK := Lib.hid hk
  clear hk h0
  go_enter Tryz.func39, Tryz.ntmps39
  go_wp2_with fail
  refine (cP.out _).mono ?_; rintro e w2 ⟨rfl, rfl⟩
  go_wp2_with fail
  refine (cN.out _ (Q.alloc _ _)).mono ?_; rintro e w1 ⟨⟨nm, kd, n, t⟩, r, ok, rfl, hne, q1⟩
  have HE := Lib.hid hne
  clear hne cP cN
  have b1 : Hid (Zb w.heap.size w1) := Lib.hid ((Bk.new _ _ w).stays q1)
  have Q1 := Lib.hid ((Q.alloc w _).trans q1)
  clear q1
  unfold sv
  simp only
  have hap := Lib.hid (hv.stays ((Q1.out.trans (Q.alloc w1 (.cells #[.string nm, .int .i64 kd, .int .i64 n, .string t] 44))).trans (Q.alloc (w1.alloc (.cells #[.string nm, .int .i64 kd, .int .i64 n, .string t] 44)) (.cells #[.string nm, .int .i64 kd, .int .i64 n, .string t] 44))))
  have KK0 := Lib.hid (Kp.of ((Q1.out.trans (Q.alloc w1 (.cells #[.string nm, .int .i64 kd, .int .i64 n, .string t] 44))).trans (Q.alloc (w1.alloc (.cells #[.string nm, .int .i64 kd, .int .i64 n, .string t] 44)) (.cells #[.string nm, .int .i64 kd, .int .i64 n, .string t] 44))) hB)
  have ZB0 : Hid (Zb w.heap.size ((w1.alloc (.cells #[.string nm, .int .i64 kd, .int .i64 n, .string t] 44)).alloc (.cells #[.string nm, .int .i64 kd, .int .i64 n, .string t] 44))) := Lib.hid ((b1.out.stays (Q.alloc w1 (.cells #[.string nm, .int .i64 kd, .int .i64 n, .string t] 44))).stays (Q.alloc (w1.alloc (.cells #[.string nm, .int .i64 kd, .int .i64 n, .string t] 44)) (.cells #[.string nm, .int .i64 kd, .int .i64 n, .string t] 44)))
  have hB1 := Lib.hid (Nat.le_trans hB Q1.out.size)
  clear b1 Q1
  go_wp2_with (at_builtin; refine wpList_sr rfl _ _ rfl w0.heap.size _ path ⟨nm, ⟨kd, n, t⟩⟩ rfl hap.out ⟨w1.heap.size + 1, 0, none⟩ 1 rfl ?c1 ?c2 ?c3 ?_)
  case c1 => exact new_step (w1.alloc (.cells #[.string nm, .int .i64 kd, .int .i64 n, .string t] 44)) ⟨nm, ⟨kd, n, t⟩⟩ (w1.heap.size + 1) (by simp)
  case c2 => have := HK.out; omega
  case c3 => have := hB1.out; simp; omega
  intro v' w5 hv5 hk5
  have VV := Lib.hid hv5
  have KK := Lib.hid (KK0.out.trans hk5)
  have ZB := Lib.hid (ZB0.out.kept hk5)
  clear hv5 hk5 KK0 ZB0 hap hB1
  obtain ⟨A5, c5, rfl⟩ := VV.out.shape
  generalize (path ++ [(⟨nm, ⟨kd, n, t⟩⟩ : St)]).length = N5 at *
  cases NO with
  | none =>
    have : ok = false := HE.out
    subst this
    clear HE cX hsz
    obtain ⟨a0, a1, a2, a3, a4, a5, a6, z0, z1, z2, z3, z4, z5, z6⟩ := ZB.out.out
    have bp := Lib.hid (Bk.put7 ZB.out (.slice A5 N5 c5) (.bool false) (.string ⟨#[]⟩) (.string ⟨#[]⟩) (.int .i64 0) (.int .i64 0) (.string ⟨#[]⟩))
    have KP := Lib.hid (KK.out.put7 (Nat.le_refl _) hB (.slice A5 N5 c5) (.bool false) (.string ⟨#[]⟩) (.string ⟨#[]⟩) (.int .i64 0) (.int .i64 0) (.string ⟨#[]⟩))
    clear ZB KK
    go_wp2_with fail
    have y0 := bp.out.at 0 (.slice A5 N5 c5) rfl
    have y1 := bp.out.at 1 (.bool false) rfl
    have y2 := bp.out.at 2 (.string ⟨#[]⟩) rfl
    have y3 := bp.out.at 3 (.string ⟨#[]⟩) rfl
    have y4 := bp.out.at 4 (.int .i64 0) rfl
    have y5 := bp.out.at 5 (.int .i64 0) rfl
    have y6 := bp.out.at 6 (.string ⟨#[]⟩) rfl
    refine bodyPost_ret (by simp [results, Tryz.results39, go_sem, y0, y1, y2, y3, y4, y5, y6]; try rfl) rfl ?_
    exact ⟨A5, N5, c5, Rs.zero, ⟨#[]⟩, false, rfl, rfl, KP.out⟩
  | some y =>
    obtain ⟨st', r'⟩ := y
    obtain ⟨g1, g2, g3⟩ := HE.out
    subst g1 g2
    have hrs := hsz.out _ _ rfl
    clear HE hsz
    cases r' with
    | nil =>
      have hr : r.toList.isEmpty = true := (isEmpty_nil r).2 g3
      clear g3 cX hrs
      obtain ⟨a0, a1, a2, a3, a4, a5, a6, z0, z1, z2, z3, z4, z5, z6⟩ := ZB.out.out
      have bp := Lib.hid (Bk.put7 ZB.out (.slice A5 N5 c5) (.bool false) (.string ⟨#[]⟩) (.string ⟨#[]⟩) (.int .i64 0) (.int .i64 0) (.string ⟨#[]⟩))
      have VP := Lib.hid (VV.out.put7 ZB.out (.slice A5 N5 c5) (.bool false) (.string ⟨#[]⟩) (.string ⟨#[]⟩) (.int .i64 0) (.int .i64 0) (.string ⟨#[]⟩))
      clear VV
      have KP := Lib.hid (KK.out.put7 (Nat.le_refl _) hB (.slice A5 N5 c5) (.bool false) (.string ⟨#[]⟩) (.string ⟨#[]⟩) (.int .i64 0) (.int .i64 0) (.string ⟨#[]⟩))
      clear ZB KK
      go_wp2_with fail
      have y0 := bp.out.at 0 (.slice A5 N5 c5) rfl
      have y1 := bp.out.at 1 (.bool false) rfl
      have y2 := bp.out.at 2 (.string ⟨#[]⟩) rfl
      have y3 := bp.out.at 3 (.string ⟨#[]⟩) rfl
      have y4 := bp.out.at 4 (.int .i64 0) rfl
      have y5 := bp.out.at 5 (.int .i64 0) rfl
      have y6 := bp.out.at 6 (.string ⟨#[]⟩) rfl
      refine bodyPost_ret (by simp [results, Tryz.results39, go_sem, y0, y1, y2, y3, y4, y5, y6]; try rfl) rfl ?_
      exact ⟨A5, N5, c5, Rs.zero, ⟨#[]⟩, true, rfl, ⟨rfl, VP.out, rfl, rfl⟩, KP.out⟩
    | cons c0 r0 =>
      have hr : r.toList.isEmpty = false := by
        cases hx : r.toList.isEmpty with
        | false => rfl
        | true => rw [(isEmpty_nil r).1 hx] at g3; cases g3
      have cD : Hid (∀ w', Calls Tryz.prog 65 #[.string r, .string ⟨#[46]⟩] w' fun e w'' => e = .returned (.tuple #[.string ⟨(Lib.trimPrefix (c0 :: r0) [46]).toArray⟩, .bool (Lib.hasPrefix (c0 :: r0) [46])]) ∧ w' = w'') := fun w' => by
        have h := cutPrefix_any r ⟨#[46]⟩ w'
        rw [g3] at h
        exact h
      by_cases hc : c0 = 46
      · subst hc
        have hp : Lib.hasPrefix (46 :: r0) [46] = true := (pre_one _ _).2 rfl
        rw [hp, trim_one _ _ hp] at cD
        have hl : (⟨r0.toArray⟩ : ByteArray).size ≤ 1000000 := by rw [ba_size]; simp only [List.length_cons] at hrs; omega
        have cX' := Lib.hid (cX.out ⟨nm, ⟨kd, n, t⟩⟩ _ ⟨r0.toArray⟩ w5 VV.out (Below.trans H0.out KK.out.below) hl)
        rw [ba_list] at cX'
        clear g3 hrs hp hl cX VV
        simp only [List.drop_succ_cons, List.drop_zero] at cD
        generalize (⟨r0.toArray⟩ : ByteArray) = R0 at *
        go_wp2_with fail
        refine (cD.out _).mono ?_; rintro e w6 ⟨rfl, rfl⟩
        go_wp2_with fail
        refine cX'.out.mono ?_; rintro e w6 ⟨A6, N6, c6, ⟨d6, ty6, nm6, kd6, n6, t6⟩, rest6, ok6, rfl, hpe, hk6⟩
        have PE := Lib.hid hpe
        replace KK := Lib.hid (KK.out.trans hk6)
        replace ZB := Lib.hid (ZB.out.kept hk6)
        clear hpe hk6 cX' cD
        unfold rv
        simp only
        obtain ⟨a0, a1, a2, a3, a4, a5, a6, z0, z1, z2, z3, z4, z5, z6⟩ := ZB.out.out
        have bp := Lib.hid (Bk.put7 ZB.out (.slice A6 N6 c6) (.bool d6) (.string ty6) (.string nm6) (.int .i64 kd6) (.int .i64 n6) (.string t6))
        have KP := Lib.hid (KK.out.put7 (Nat.le_refl _) hB (.slice A6 N6 c6) (.bool d6) (.string ty6) (.string nm6) (.int .i64 kd6) (.int .i64 n6) (.string t6))
        have ZB7 := ZB
        clear ZB KK
        go_wp2_with fail
        have y0 := bp.out.at 0 (.slice A6 N6 c6) rfl
        have y1 := bp.out.at 1 (.bool d6) rfl
        have y2 := bp.out.at 2 (.string ty6) rfl
        have y3 := bp.out.at 3 (.string nm6) rfl
        have y4 := bp.out.at 4 (.int .i64 kd6) rfl
        have y5 := bp.out.at 5 (.int .i64 n6) rfl
        have y6 := bp.out.at 6 (.string t6) rfl
        refine bodyPost_ret (by simp [results, Tryz.results39, go_sem, y0, y1, y2, y3, y4, y5, y6]; try rfl) rfl ?_
        refine ⟨A6, N6, c6, ⟨d6, ty6, nm6, kd6, n6, t6⟩, rest6, ok6, rfl, ?_, KP.out⟩
        have e : stepO (some ((⟨nm, ⟨kd, n, t⟩⟩ : St), 46 :: r0)) REC = (REC r0).map fun x => ((⟨nm, ⟨kd, n, t⟩⟩ : St) :: x.1, x.2) := by simp [stepO]
        rw [e]
        cases hx : REC r0 with
        | none => rw [hx] at PE; exact PE.out
        | some z =>
          obtain ⟨ms, x, rs⟩ := z
          rw [hx] at PE
          exact ⟨PE.out.1, (app_step PE.out.2.1).put7 ZB7.out _ _ _ _ _ _ _, PE.out.2.2.1, PE.out.2.2.2⟩
      · have hp : Lib.hasPrefix (c0 :: r0) [46] = false := by
          cases hx : Lib.hasPrefix (c0 :: r0) [46] with
          | false => rfl
          | true => exact absurd (by simpa using (pre_one _ _).1 hx) hc
        rw [hp] at cD
        have e : Hid (stepO (some ((⟨nm, ⟨kd, n, t⟩⟩ : St), c0 :: r0)) REC = none) := Lib.hid (if_neg hc)
        clear g3 hrs hp hc cX VV
        go_wp2_with fail
        refine (cD.out _).mono ?_; rintro e w6 ⟨rfl, rfl⟩
        obtain ⟨a0, a1, a2, a3, a4, a5, a6, z0, z1, z2, z3, z4, z5, z6⟩ := ZB.out.out
        have bp := Lib.hid (Bk.put7 ZB.out (.slice none 0 0) (.bool false) (.string ⟨#[]⟩) (.string ⟨#[]⟩) (.int .i64 0) (.int .i64 0) (.string ⟨#[]⟩))
        have KP := Lib.hid (KK.out.put7 (Nat.le_refl _) hB (.slice none 0 0) (.bool false) (.string ⟨#[]⟩) (.string ⟨#[]⟩) (.int .i64 0) (.int .i64 0) (.string ⟨#[]⟩))
        clear ZB KK
        go_wp2_with fail
        have y0 := bp.out.at 0 (.slice none 0 0) rfl
        have y1 := bp.out.at 1 (.bool false) rfl
        have y2 := bp.out.at 2 (.string ⟨#[]⟩) rfl
        have y3 := bp.out.at 3 (.string ⟨#[]⟩) rfl
        have y4 := bp.out.at 4 (.int .i64 0) rfl
        have y5 := bp.out.at 5 (.int .i64 0) rfl
        have y6 := bp.out.at 6 (.string ⟨#[]⟩) rfl
        refine bodyPost_ret (by simp [results, Tryz.results39, go_sem, y0, y1, y2, y3, y4, y5, y6]; try rfl) rfl ?_
        exact ⟨none, 0, 0, Rs.zero, ⟨#[]⟩, false, rfl, by rw [e.out]; rfl, KP.out⟩

theorem readPlace_any (w0 : World) (f : Fa w0) : ∀ (k : Nat) (path : List St) (v : Value) (s : ByteArray) (w : World), path.length + k = 16 → Sr w0.heap.size v path w → Q w0 w → s.size ≤ 1000000 →
    Calls Tryz.prog 39 #[v, .string s] w fun e w' => ∃ A n c r rest ok, e = .returned (.tuple #[rv (.slice A n c) r, .string rest, .bool ok]) ∧ PlaceEnds w0.heap.size path (chunk k s.data.toList) (.slice A n c) r rest ok w' ∧ Kp w0.heap.size w w' := by
  intro k
  induction k with
  | zero =>
    intro path v s w hk hv h0 hs
    have cP := fun w' => cutPrefix_any s ⟨#[109, 111, 100, 117, 108, 101, 46]⟩ w'
    have em : (⟨#[109, 111, 100, 117, 108, 101, 46]⟩ : ByteArray).data.toList = modB := rfl
    rw [em] at cP
    cases hp : Lib.hasPrefix s.data.toList modB with
    | false =>
      rw [hp] at cP
      rw [chunk_res 0 _ hp]
      exact readPlace_res w0.heap.size path v s _ (rdR s.data.toList) w hv h0.size cP (fun w' q => readResource_any s w' (q.fa (h0.fa f)) hs)
    | true =>
      rw [hp] at cP
      rw [chunk_stop _ hp]
      exact readPlace_stop w0.heap.size path v s _ w hv h0.size (by omega) cP
  | succ k ih =>
    intro path v s w hk hv h0 hs
    have hlen : s.data.toList.length = s.size := by simp
    have cP := fun w' => cutPrefix_any s ⟨#[109, 111, 100, 117, 108, 101, 46]⟩ w'
    have em : (⟨#[109, 111, 100, 117, 108, 101, 46]⟩ : ByteArray).data.toList = modB := rfl
    rw [em] at cP
    cases hp : Lib.hasPrefix s.data.toList modB with
    | false =>
      rw [hp] at cP
      rw [chunk_res (k + 1) _ hp]
      exact readPlace_res w0.heap.size path v s _ (rdR s.data.toList) w hv h0.size cP (fun w' q => readResource_any s w' (q.fa (h0.fa f)) hs)
    | true =>
      rw [hp] at cP
      rw [chunk_step k _ hp]
      have htl := num.trim_le s.data.toList modB
      refine readPlace_step w0 path v s ⟨(Lib.trimPrefix s.data.toList modB).toArray⟩ (rdNm (Lib.trimPrefix s.data.toList modB)) (chunk k) w hv h0 (by omega) (Lib.hid fun st r hr => by have := rdNm_len _ _ _ hr; omega) cP (fun w' q => ?_) (fun st v' s' w' hv' h0' hs' => ih (path ++ [st]) v' s' w' (by rw [List.length_append, List.length_singleton]; omega) hv' h0' hs')
      have h := readNamed_any ⟨(Lib.trimPrefix s.data.toList modB).toArray⟩ w' (q.fa (h0.fa f)) (by rw [ba_size]; omega)
      rwa [ba_list] at h

end Go.Proofs.YthekabflbpfjoaaGreatDoor.adr
