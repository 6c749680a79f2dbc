/- Put of a new key. -/
import Derived.Test.YtjmchjphdfbhiaaGreatDoorVpw
import Derived.Test.YtjmchjphdfbhiaaGreatDoorVis
namespace Go.Proofs.YtjmchjphdfbhiaaGreatDoor.val
open Go.RowKit
open Go.Proofs.YtjmchjphdfbhiaaGreatDoor
open Go.Proofs.YtjmchjphdfbhiaaGreatDoor.val.cp (Fit FitL Fit_iff FitL_mem set5 set5_block set5_world set5_at)
theorem nodesL_ins (x : V) : ∀ (l : List V) (p : Nat), nodesL (l.take p ++ x :: l.drop p) = nodesL l + nodes x
  | [], p => by simp [nodesL]
  | v :: t, 0 => by simp only [List.take_zero, List.drop_zero, List.nil_append, nodesL]; omega
  | v :: t, p + 1 => by
    simp only [List.take_succ_cons, List.drop_succ_cons, List.cons_append, nodesL]
    have := nodesL_ins x t p
    omega
/-- What lies at a place of a row with something put in. -/
theorem ins_at {α : Type} (xs ys : List α) (z p : Nat) (hp : p * z ≤ xs.length) (hz : ys.length = z) (i j : Nat) (hj : j < z) : (xs.take (p * z) ++ ys ++ xs.drop (p * z))[i * z + j]? = if i < p then xs[i * z + j]? else if i = p then ys[j]? else xs[(i - 1) * z + j]? := by
  have hm : ∀ a b : Nat, a < b → a * z + z ≤ b * z := fun a b h => by
    have := Nat.mul_le_mul_right z (show a + 1 ≤ b by omega)
    rwa [Nat.succ_mul] at this
  have hl : (xs.take (p * z)).length = p * z := by rw [List.length_take]; omega
  split
  · rename_i h
    have := hm i p h
    rw [List.append_assoc, List.getElem?_append_left (by omega), List.getElem?_take, if_pos (by omega)]
  · split
    · rename_i h
      subst h
      rw [List.getElem?_append_left (by rw [List.length_append]; omega), List.getElem?_append_right (by omega), hl]
      congr 1
      omega
    · have := hm p i (by omega)
      have h2 : i * z = (i - 1) * z + z := by
        obtain ⟨k, rfl⟩ : ∃ k, i = k + 1 := ⟨i - 1, by omega⟩
        rw [Nat.succ_mul]
        rfl
      rw [List.getElem?_append_right (by rw [List.length_append]; omega), List.length_append, hl, hz, List.getElem?_drop]
      congr 1
      omega
/-- A map whose rows lie in new blocks is a value. -/
theorem new_wi {ks : List ByteArray} {l : List V} {G : Nat → Value × Value} {gK cK gI cI N b1 : Nat} {w w5 : World} (q5 : Q w w5) (hl : N = l.length) (hk : N = ks.length) (hcI : N ≤ cI) (hcK : N ≤ cK) (hgI : b1 ≤ gI ∧ gI < w5.heap.size) (hgK : b1 ≤ gK ∧ gK < w5.heap.size)
    (hI : ∀ i (hi : i < l.length), C5 gI (i * 5) (.int .i64 l[i].kind) (.int .i64 l[i].num) (.string l[i].str) (G i).1 (G i).2 w5 ∧ Is (G i).1 l[i].items w ∧ Ks (G i).2 l[i].keys w)
    (hK : ∀ i (hi : i < ks.length), w5.cell? ⟨gK, i, none⟩ = some (.string ks[i])) :
    cp.Wi w5.heap.size (fun b => (w.heap.size ≤ b ∧ b < b1) ∨ w5.heap.size ≤ b) ⟨5, 0, ⟨#[]⟩, l, ks⟩ (.int .i64 5) (.int .i64 0) (.string ⟨#[]⟩) (.slice (some ⟨gI, 0, none⟩) N cI) (.slice (some ⟨gK, 0, none⟩) N cK) w5 := by
  have hvi : ∀ (v : V) (s3 s4 : Value), Is s3 v.items w → Ks s4 v.keys w → cp.Wi w5.heap.size (fun b => (w.heap.size ≤ b ∧ b < b1) ∨ w5.heap.size ≤ b) v (.int .i64 v.kind) (.int .i64 v.num) (.string v.str) s3 s4 w5 := fun v s3 s4 h3 h4 => by
    have h := (cp.Vi.both_wi w w5.heap.size q5.size (fun b => (w.heap.size ≤ b ∧ b < b1) ∨ w5.heap.size ≤ b) (fun b hb e => by have := q5.size; omega)).1 v _ _ _ _ _ (Vi.of h3 h4)
    exact (cp.Wi.both_stays _ _ q5).1 _ _ _ _ _ _ h
  have e3 : Value.slice (some ⟨gI, 0, none⟩) N cI = .slice (some ⟨gI, 0, none⟩) l.length cI := by rw [hl]
  have e4 : Value.slice (some ⟨gK, 0, none⟩) N cK = .slice (some ⟨gK, 0, none⟩) ks.length cK := by rw [hk]
  refine (cp.Wi_iff ..).2 ⟨rfl, rfl, rfl, ⟨_, cI, e3, by show l.length ≤ cI; omega, fun _ => ⟨gI, 0, rfl, .inl (by omega), fun e => by omega, cp.WL.of_at _ _ _ _ _ _ (fun i hi => ?_)⟩⟩, ⟨_, cK, e4, by show ks.length ≤ cK; omega, fun _ => ⟨gK, 0, rfl, fun e => by omega, KL.of_at _ _ _ _ (fun i hi => ?_)⟩⟩⟩
  · have h := hI i hi
    show ∃ c0 c1 c2 c3 c4, _ ∧ cp.Wi _ _ (l[i]'hi) c0 c1 c2 c3 c4 _
    rw [Nat.zero_add]
    exact ⟨_, _, _, _, _, h.1, hvi _ _ _ h.2.1 h.2.2⟩
  · rw [Nat.zero_add]
    exact hK i hi
theorem ins_get {α : Type} (l : List α) (p : Nat) (x : α) (hp : p ≤ l.length) (i : Nat) : (l.take p ++ x :: l.drop p)[i]? = if i < p then l[i]? else if i = p then some x else l[i - 1]? := by
  have h := ins_at l [x] 1 p (by omega) rfl i 0 (by decide)
  simpa using h
theorem C5.of {b o : Nat} {v : V} {s : Value × Value} {w : World} (key : ∀ j, j < 5 → w.cell? ⟨b, o + j, none⟩ = (val.c5 v s)[j]?) : C5 b o (.int .i64 v.kind) (.int .i64 v.num) (.string v.str) s.1 s.2 w :=
  ⟨key 0 (by decide), key 1 (by decide), key 2 (by decide), key 3 (by decide), key 4 (by decide)⟩
def Gn (F : Nat → Value × Value) (p : Nat) (s : Value × Value) (i : Nat) : Value × Value := if i < p then F i else if i = p then s else F (i - 1)
theorem new_cells {F : Nat → Value × Value} {l : List V} {n p g c B : Nat} {x : V} {s : Value × Value} {w w8 : World} (O : w8.ownsRow B 26 5 (.slice (some ⟨g, 0, none⟩) (n + 1) c) (n + 1) ((flat F l (List.range l.length)).take (p * 5) ++ (c5 x s).toList ++ (flat F l (List.range l.length)).drop (p * 5)))
    (hn : n = l.length) (hp : p ≤ n) (hla : Laid F l w) (h3 : Is s.1 x.items w) (h4 : Ks s.2 x.keys w) (i : Nat) (hi : i < (l.take p ++ x :: l.drop p).length) :
    C5 g (i * 5) (.int .i64 (l.take p ++ x :: l.drop p)[i].kind) (.int .i64 (l.take p ++ x :: l.drop p)[i].num) (.string (l.take p ++ x :: l.drop p)[i].str) (Gn F p s i).1 (Gn F p s i).2 w8 ∧ Is (Gn F p s i).1 (l.take p ++ x :: l.drop p)[i].items w ∧ Ks (Gn F p s i).2 (l.take p ++ x :: l.drop p)[i].keys w := by
  have hi' : i < n + 1 := by
    simp only [List.length_append, List.length_cons, List.length_take, List.length_drop] at hi
    omega
  have hfl : (flat F l (List.range l.length)).length = n * 5 := by
    have h := O.1
    simp only [List.length_append, List.length_take, List.length_drop, show (c5 x s).toList.length = 5 from rfl] at h
    omega
  have hl' := ins_get l p x (by omega) i
  rw [List.getElem?_eq_getElem hi] at hl'
  have key : ∀ j, j < 5 → w8.cell? ⟨g, i * 5 + j, none⟩ = if i < p then (flat F l (List.range l.length))[i * 5 + j]? else if i = p then (c5 x s).toList[j]? else (flat F l (List.range l.length))[(i - 1) * 5 + j]? := fun j hj => by
    rw [World.ownsRow.cellAt O (i * 5 + j) (by omega)]
    exact ins_at _ _ 5 p (by omega) rfl i j hj
  have old : ∀ (a j : Nat) (ha : a < l.length), j < 5 → (flat F l (List.range l.length))[a * 5 + j]? = (c5 l[a] (F a))[j]? := fun a j ha hj => by
    rw [flat_at F l _ a (by simpa using ha) j hj, range_at, List.getElem?_eq_getElem ha]
    rfl
  by_cases h1 : i < p
  · have hil : i < l.length := by omega
    rw [if_pos h1, List.getElem?_eq_getElem hil] at hl'
    have e := Option.some.inj hl'
    have eG : Gn F p s i = F i := if_pos h1
    rw [e, eG]
    refine ⟨C5.of (fun j hj => ?_), (hla i hil).1, (hla i hil).2⟩
    rw [key j hj, if_pos h1, old i j hil hj]
  · by_cases h2 : i = p
    · rw [if_neg h1, if_pos h2] at hl'
      have e := Option.some.inj hl'
      have eG : Gn F p s i = s := by rw [Gn, if_neg h1, if_pos h2]
      rw [e, eG]
      refine ⟨C5.of (fun j hj => ?_), h3, h4⟩
      rw [key j hj, if_neg h1, if_pos h2, Array.getElem?_toList]
    · have hil : i - 1 < l.length := by omega
      rw [if_neg h1, if_neg h2, List.getElem?_eq_getElem hil] at hl'
      have e := Option.some.inj hl'
      have eG : Gn F p s i = F (i - 1) := by rw [Gn, if_neg h1, if_neg h2]
      rw [e, eG]
      refine ⟨C5.of (fun j hj => ?_), (hla _ hil).1, (hla _ hil).2⟩
      rw [key j hj, if_neg h1, if_neg h2, old (i - 1) j hil hj]
theorem new_keys {ks : List ByteArray} {key : ByteArray} {n p g c B : Nat} {w8 : World} (O : w8.ownsRow B 9 1 (.slice (some ⟨g, 0, none⟩) (n + 1) c) (n + 1) ((ks.map Value.string).take p ++ [.string key] ++ (ks.map Value.string).drop p)) (i : Nat) (hi : i < (ks.take p ++ key :: ks.drop p).length) (hn : n = ks.length) :
    w8.cell? ⟨g, i, none⟩ = some (.string (ks.take p ++ key :: ks.drop p)[i]) := by
  have hi' : i < n + 1 := by
    simp only [List.length_append, List.length_cons, List.length_take, List.length_drop] at hi
    omega
  rw [World.ownsRow.cellAt O i (by omega)]
  have e : (ks.map Value.string).take p ++ [.string key] ++ (ks.map Value.string).drop p = (ks.take p ++ key :: ks.drop p).map Value.string := by simp
  rw [e, List.getElem?_map, List.getElem?_eq_getElem hi]
  rfl
theorem Q.grown {w w5 w6 : World} {r : Option Nat} (q : Q w w5) (g : w5.grownBy w6 r) (h : ∀ k, r = some k → w.heap.size ≤ k) : Q w w6 :=
  ⟨g.os.trans q.os, g.tape.trans q.tape, g.output.trans q.output, Nat.le_trans q.size g.size, fun j hj => (g.block j (Nat.lt_of_lt_of_le hj q.size) (fun e => by have := h j e.symm; omega)).trans (q.block j hj)⟩
theorem flat_one (F : Nat → Value × Value) (l : List V) (w : World) (h : Laid F l w) : ∀ (p : List Nat), (∀ i ∈ p, i < l.length) → ∀ v ∈ flat F l p, v.oneCell' = true
  | [], _, v, hv => by cases hv
  | a :: t, hp, v, hv => by
    rw [flat, List.mem_append] at hv
    rcases hv with hv | hv
    · obtain ⟨A, c, e, _⟩ := (h a (hp a (by simp))).1
      obtain ⟨A', c', e', _⟩ := (h a (hp a (by simp))).2
      simp only [c5, List.mem_cons, List.not_mem_nil, or_false] at hv
      rcases hv with rfl | rfl | rfl | rfl | rfl
      · rfl
      · rfl
      · rfl
      · show (F a).1.oneCell' = true
        rw [e]
        rfl
      · show (F a).2.oneCell' = true
        rw [e']
        rfl
    · exact flat_one F l w h t (fun i hi => hp i (by simp [hi])) v hv
set_option maxHeartbeats 8000000 in
set_option maxRecDepth 100000 in
theorem put_new (vk vn : Int) (vs : ByteArray) (ks : List ByteArray) (l : List V) (key : ByteArray) (x : V) (A3 A4 X3 X4 : Option Addr) (k3 k4 x3 x4 : Nat) (w : World) (h3 : Is (.slice A3 l.length k3) l w) (h4 : Ks (.slice A4 ks.length k4) ks w) (hx3 : Is (.slice X3 x.items.length x3) x.items w) (hx4 : Ks (.slice X4 x.keys.length x4) x.keys w)
    (hs : srt ks) (hf : FitL l) (hfk : ∀ k ∈ ks, k.size ≤ 281474976710656) (hfx : Fit x) (hn : nodesL l ≤ 100000) (hnx : nodes x ≤ 100000) (hlen : ks.length = l.length) (hn4 : ks.length ≤ 100000) (hkz : key.size ≤ 281474976710656) (hfd : fnd ks key = false) (h5 : vk = 5) :
    Calls Tryz.prog 31 #[.agg #[.int .i64 vk, .int .i64 vn, .string vs, .slice A3 l.length k3, .slice A4 ks.length k4], .string key, .agg #[.int .i64 x.kind, .int .i64 x.num, .string x.str, .slice X3 x.items.length x3, .slice X4 x.keys.length x4]] w (Putted ⟨vk, vn, vs, l, ks⟩ key x w) := by
  have cM : Hid (∀ w' : World, Calls Tryz.prog 53 #[.agg #[.int .i64 vk, .int .i64 vn, .string vs, .slice A3 l.length k3, .slice A4 ks.length k4]] w' fun e w'' => e = .returned (.bool true) ∧ Q w' w'') := Lib.hid (fun w' => by
    have h := isMap_any vk vn vs A3 A4 l.length ks.length k3 k4 w'
    rw [decide_eq_true ⟨h5, hlen⟩] at h
    exact h)
  obtain ⟨p, hp⟩ : ∃ p, pl ks key = p := ⟨_, rfl⟩
  have hpl : p ≤ ks.length := by rw [← hp]; exact pl_le key ks
  have cK := Lib.hid (fun w' (q : Q w w') => cloneK_any ks A4 k4 w' (h4.stays q) (by omega))
  have cI := Lib.hid (fun w' (q : Q w w') => cloneI_any l A3 k3 w w' q h3 (by omega))
  have cS : Hid (∀ (AK : Option Addr) (cK : Nat) (w' : World), Ks (.slice AK ks.length cK) ks w' → Calls Tryz.prog 52 #[.slice AK ks.length cK, .string key] w' fun e w'' => e = .returned (.tuple #[.int .i64 (p : Nat), .bool false]) ∧ Q w' w'') := Lib.hid (fun AK cK w' h => by
    have h := search_any ks hs AK cK key w' h (by omega)
    rw [hp, hfd] at h
    exact h)
  obtain ⟨n, hnn⟩ : ∃ n, ks.length = n := ⟨_, rfl⟩
  have HR : Hid (∀ e w', Q w w' → (∃ s3 s4, e = .returned (.agg #[.int .i64 5, .int .i64 0, .string ⟨#[]⟩, s3, s4]) ∧ Is s3 (l.take p ++ x :: l.drop p) w' ∧ Ks s4 (ks.take p ++ key :: ks.drop p) w') → Putted ⟨vk, vn, vs, l, ks⟩ key x w e w') := Lib.hid (fun e w' q h => by
    refine ⟨q, ?_⟩
    rw [if_pos ⟨h5, hlen⟩]
    obtain ⟨s3, s4, he, h1, h2⟩ := h
    have hz := put_pl key x ks l hs hlen
    rw [hfd, if_neg (by decide), hp] at hz
    refine ⟨s3, s4, he, ?_, ?_⟩
    · show Is s3 ((putP (ks.zip l) key x).map (fun b => b.2)) w'
      rw [hz, List.map_snd_zip (by simp only [List.length_append, List.length_cons, List.length_take, List.length_drop]; omega)]
      exact h1
    · show Ks s4 ((putP (ks.zip l) key x).map (fun b => b.1)) w'
      rw [hz, List.map_fst_zip (by simp only [List.length_append, List.length_cons, List.length_take, List.length_drop]; omega)]
      exact h2)
  have HN := Lib.hid (show ks.length = n ∧ l.length = n ∧ p ≤ n ∧ n ≤ 100000 ∧ nodesL l ≤ 100000 ∧ nodes x ≤ 100000 from ⟨hnn, by omega, by omega, by omega, hn, hnx⟩)
  have HX := Lib.hid (show Is (.slice X3 x.items.length x3) x.items w ∧ Ks (.slice X4 x.keys.length x4) x.keys w from ⟨hx3, hx4⟩)
  have HFIT := Lib.hid (show FitL l ∧ (∀ k ∈ ks, k.size ≤ 281474976710656) ∧ Fit x ∧ key.size ≤ 281474976710656 from ⟨hf, hfk, hfx, hkz⟩)
  rw [← hlen] at cM cI ⊢
  rw [hnn] at cM cI cK cS ⊢
  obtain ⟨xk, hxk⟩ : ∃ a, x.kind = a := ⟨_, rfl⟩
  obtain ⟨xn, hxn⟩ : ∃ a, x.num = a := ⟨_, rfl⟩
  obtain ⟨xs, hxs⟩ : ∃ a, x.str = a := ⟨_, rfl⟩
  obtain ⟨n5, hn5⟩ : ∃ a, x.items.length = a := ⟨_, rfl⟩
  obtain ⟨n6, hn6⟩ : ∃ a, x.keys.length = a := ⟨_, rfl⟩
  rw [hxk, hxn, hxs, hn5, hn6]
  have HXE := Lib.hid (show x.kind = xk ∧ x.num = xn ∧ x.str = xs ∧ x.items.length = n5 ∧ x.keys.length = n6 from ⟨hxk, hxn, hxs, hn5, hn6⟩)
  clear h3 h4 hx3 hx4 hs hf hfk hkz hfx hn hnx hlen hn4 hfd h5 hp hpl hnn hxk hxn hxs hn5 hn6
  obtain ⟨wa, hwa⟩ : ∃ wa, w.alloc (.cells #[.int .i64 vk, .int .i64 vn, .string vs, .slice A3 n k3, .slice A4 n k4] 26) = wa := ⟨_, rfl⟩
  obtain ⟨wb, hwb⟩ : ∃ wb, wa.alloc (.cells #[.int .i64 xk, .int .i64 xn, .string xs, .slice X3 n5 x3, .slice X4 n6 x4] 26) = wb := ⟨_, rfl⟩
  obtain ⟨wc, hwc⟩ : ∃ wc, wb.alloc (.cells #[.int .i64 0, .int .i64 0, .string ⟨#[]⟩, .slice none 0 0, .slice none 0 0] 26) = wc := ⟨_, rfl⟩
  obtain ⟨B, hB⟩ : ∃ B, w.heap.size = B := ⟨_, rfl⟩
  obtain ⟨C, hC⟩ : ∃ C, wa.heap.size = C := ⟨_, rfl⟩
  obtain ⟨P, hP⟩ : ∃ P, wb.heap.size = P := ⟨_, rfl⟩
  have qa : Q w wa := by rw [← hwa]; exact Q.box _ _
  have qb : Q wa wb := by rw [← hwb]; exact Q.box _ _
  have qc : Q wb wc := by rw [← hwc]; exact Q.box _ _
  have bB : Bk B #[.int .i64 vk, .int .i64 vn, .string vs, .slice A3 n k3, .slice A4 n k4] 26 wc := by
    have h : Bk B #[.int .i64 vk, .int .i64 vn, .string vs, .slice A3 n k3, .slice A4 n k4] 26 wa := by rw [← hwa, ← hB]; exact Bk.new _ _ _
    exact h.stays (qb.trans qc)
  have bC : Bk C #[.int .i64 xk, .int .i64 xn, .string xs, .slice X3 n5 x3, .slice X4 n6 x4] 26 wc := by
    have h : Bk C #[.int .i64 xk, .int .i64 xn, .string xs, .slice X3 n5 x3, .slice X4 n6 x4] 26 wb := by rw [← hwb, ← hC]; exact Bk.new _ _ _
    exact h.stays qc
  have bP : Bk P #[.int .i64 0, .int .i64 0, .string ⟨#[]⟩, .slice none 0 0, .slice none 0 0] 26 wc := by rw [← hwc, ← hP]; exact Bk.new _ _ _
  have b0 := bB.at 0 _ rfl
  have b1 := bB.at 1 _ rfl
  have b2 := bB.at 2 _ rfl
  have b3 := bB.at 3 _ rfl
  have b4 := bB.at 4 _ rfl
  have QC := Lib.hid ((qa.trans qb).trans qc)
  have BB := Lib.hid bB
  have BC := Lib.hid bC
  have BP := Lib.hid bP
  have QBC := Lib.hid qc
  have QAB := Lib.hid (qa.trans qb)
  have HSZ := Lib.hid (show B = w.heap.size ∧ C = B + 1 ∧ P = B + 2 ∧ wc.heap.size = B + 3 by
    rw [← hP, ← hC, ← hB, ← hwc, size_alloc, ← hwb, size_alloc, ← hwa, size_alloc]
    omega)
  clear qa qb qc bB bC bP
  go_enter Tryz.func31, Tryz.ntmps31
  go_wp2_with fail
  refine (cM.out _).mono ?_
  rintro e w1 ⟨rfl, q1⟩
  have d3 := (BB.out.stays q1).at 3 _ rfl
  have d4 := (BB.out.stays q1).at 4 _ rfl
  have Q1 := Lib.hid (QC.out.trans q1)
  have QC1 := Lib.hid q1
  clear b0 b1 b2 b3 b4 hwa hwb hwc q1
  go_wp2_with fail
  have QD := Lib.hid (show Q w1 w1.drew from Q.drewN w1 1)
  have sees : Hid (∀ w', Q w1 w' → w'.cell? ⟨B, 3, none⟩ = some (.slice A3 n k3) ∧ w'.cell? ⟨B, 4, none⟩ = some (.slice A4 n k4)) := Lib.hid (fun w' q => ⟨cell_stays q d3, cell_stays q d4⟩)
  refine Go.wp_region_held_drew (S := fun w' => w'.cell? ⟨B, 3, none⟩ = some (.slice A3 n k3) ∧ w'.cell? ⟨B, 4, none⟩ = some (.slice A4 n k4)) (by kernel_rfl) (sees.out _ QD.out) (fun hHeld => ?_)
  refine Go.wpAnyH_take (i := 0) (oi := _) (v := ?_) rfl (by kernel_rfl) (by kernel_rfl) (by kernel_rfl) (fun _ _ _ h => h) (Or.inl ⟨by rfl, ?_⟩) (by assumption) ?_
  rotate_left 1
  · intro wx hSw
    go_simp <;> with_reducible rfl
  simp only [Act.put, List.getElem_toArray, List.getElem_cons_zero, List.setIfInBounds_toArray, List.set_cons_zero, List.set_cons_succ]
  refine Go.wpAnyH_take (i := 1) (oi := _) (v := ?_) rfl (by kernel_rfl) (by kernel_rfl) (by kernel_rfl) (fun _ _ _ h => h) (Or.inl ⟨by rfl, ?_⟩) (by assumption) ?_
  rotate_left 1
  · intro wx hSw
    go_simp <;> with_reducible rfl
  simp only [Act.put, List.getElem_toArray, List.getElem_cons_zero, List.getElem_cons_succ, List.setIfInBounds_toArray, List.set_cons_zero, List.set_cons_succ]
  refine Go.wpAnyH_take (i := 3) (oi := _) (v := ?_) rfl (by kernel_rfl) (by kernel_rfl) (by kernel_rfl) (fun _ _ _ h => h) (Or.inl ⟨by rfl, ?_⟩) (by assumption) ?_
  rotate_left 1
  · intro wx hSw
    go_simp <;> with_reducible rfl
  simp only [Act.put, List.getElem_toArray, List.getElem_cons_zero, List.getElem_cons_succ, List.setIfInBounds_toArray, List.set_cons_zero, List.set_cons_succ]
  refine Go.wpAnyH_take (i := 4) (oi := _) (v := ?_) rfl (by kernel_rfl) (by kernel_rfl) (by kernel_rfl) (fun _ _ _ h => h) (Or.inl ⟨by rfl, ?_⟩) (by assumption) ?_
  rotate_left 1
  · intro wx hSw
    go_simp <;> with_reducible rfl
  simp only [Act.put, List.getElem_toArray, List.getElem_cons_zero, List.getElem_cons_succ, List.setIfInBounds_toArray, List.set_cons_zero, List.set_cons_succ]
  refine Go.wpAnyH_ready (rs := [2]) (by kernel_rfl) (by simp) ?_
  refine Go.AllReadyH.cons rfl (fun K hK => ?_) Go.AllReadyH.nil
  rw [if_pos (by rfl)]
  go_simp
  refine (cK.out _ (Q1.out.trans QD.out)).mono ?_
  rintro e w2 ⟨AK, cK', rfl, hoK, q2⟩
  refine hK.out _ _ (sees.out _ (QD.out.trans q2)) (fun hHeld => ?_)
  clear hK K
  refine Go.wpAnyH_ready (rs := [5]) (by kernel_rfl) (by simp) ?_
  refine Go.AllReadyH.cons rfl (fun K hK => ?_) Go.AllReadyH.nil
  rw [if_pos (by rfl)]
  go_simp
  refine (cI.out _ ((Q1.out.trans QD.out).trans q2)).mono ?_
  rintro e w3 ⟨AI, cI', F, rfl, hoI, hla, q3⟩
  refine hK.out _ _ (sees.out _ ((QD.out.trans q2).trans q3)) (fun hHeld => ?_)
  clear hK K
  refine Go.wpAnyH_take (i := 6) (oi := _) (v := ?_) rfl (by kernel_rfl) (by kernel_rfl) (by kernel_rfl) (fun _ _ _ h => h) (Or.inl ⟨by rfl, ?_⟩) (by assumption) ?_
  rotate_left 1
  · intro wx hSw
    go_simp <;> with_reducible rfl
  simp only [Act.put, List.getElem_toArray, List.getElem_cons_zero, List.getElem_cons_succ, List.setIfInBounds_toArray, List.set_cons_zero, List.set_cons_succ]
  refine Go.wpAnyH_take (i := 7) (oi := _) (v := ?_) rfl (by kernel_rfl) (by kernel_rfl) (by kernel_rfl) (fun _ _ _ h => h) (Or.inl ⟨by rfl, ?_⟩) (by assumption) ?_
  rotate_left 1
  · intro wx hSw
    go_simp <;> with_reducible rfl
  simp only [Act.put, List.getElem_toArray, List.getElem_cons_zero, List.getElem_cons_succ, List.setIfInBounds_toArray, List.set_cons_zero, List.set_cons_succ]
  refine Go.wpAnyH_done (by kernel_rfl) ?_ _
  have PSS : Hid (PS ks l F AK n cK' AI n cI' w1 w3) := Lib.hid (PS.ki (wd := w1.drew) QD.out hoK q2 (by have h := hoI; rw [HN.out.2.1]; exact h) q3)
  have LA : Hid (Laid F l w) := Lib.hid hla
  clear hoK hoI hla q2 q3 hHeld d3 d4 sees
  have hks : Ks (.slice AK n cK') ks w3 := own_ks PSS.out.k HN.out.1.symm
  have cS2 := Lib.hid (cS.out AK cK' w3 hks)
  clear hks
  go_wp2_with fail
  refine (cS2.out).mono ?_
  rintro e w4 ⟨rfl, q4⟩
  have PS4 := Lib.hid (PSS.out.quiet q4)
  have Q4 := Lib.hid (Q1.out.trans PS4.out.q)
  clear q4
  have hpn : (p : Int) ≤ (n : Int) := by have := HN.out; omega
  have hnb : (n : Int) ≤ 100000 := by have := HN.out; omega
  obtain ⟨w5, hw5⟩ : ∃ w5, w4.alloc (.cells #[.string key] 9) = w5 := ⟨_, rfl⟩
  have QA5 : Hid (Q w4 w5) := Lib.hid (by rw [← hw5]; exact Q.box _ _)
  have OI5 := Lib.hid (own_block PS4.out.i fun g e => QA5.out.block g (PS4.out.i.lt g e).2)
  have cI1 := Lib.hid (insertS_any w1.heap.size w4.heap.size n cK' p AK (ks.map .string) key w5 (own_block PS4.out.k fun g e => QA5.out.block g (PS4.out.k.lt g e).2) (by have := HN.out; omega) (by have := HN.out; omega) (Nat.le_trans PS4.out.q.size QA5.out.size) (fun g e => by have := (PS4.out.k.lt g e).2; omega) (by rw [← hw5]; exact Bk.new _ _ _) (fun v hv => by obtain ⟨k, _, rfl⟩ := List.mem_map.1 hv; rfl))
  go_wp2_with fail
  refine (cI1.out).mono ?_
  rintro e w6 ⟨g1, c1, rfl, O1, G1, H1⟩
  have QG6 := Lib.hid (Q.grown (PS4.out.q.trans QA5.out) G1 (fun k e => (PS4.out.k.lt k e).1))
  have OI6 := Lib.hid (own_block OI5.out fun g e => G1.block g (OI5.out.lt g e).2 (fun e' => PS4.out.ne g e'.symm e))
  have O16 := Lib.hid O1
  have NE1 := Lib.hid (show ∀ g, (Value.slice AI n cI').ownBlock = some g → g ≠ g1 from fun g e e' => by
    rcases H1 with h | h
    · exact PS4.out.ne g1 h (by rw [← e', e])
    · have h1 := (PS4.out.i.lt g e).2
      have h2 := QA5.out.size
      omega)
  have bC6 := BC.out.stays (QC1.out.trans QG6.out)
  have y0 := bC6.at 0 _ rfl
  have y1 := bC6.at 1 _ rfl
  have y2 := bC6.at 2 _ rfl
  have y3 := bC6.at 3 _ rfl
  have y4 := bC6.at 4 _ rfl
  have hx3 : Is (.slice X3 n5 x3) x.items w := by rw [← HXE.out.2.2.2.1]; exact HX.out.1
  have hx4 : Ks (.slice X4 n6 x4) x.keys w := by rw [← HXE.out.2.2.2.2]; exact HX.out.2
  have HX6 := Lib.hid (And.intro hx3 hx4)
  obtain ⟨w7, hw7⟩ : ∃ w7, w6.alloc (.cells #[.int .i64 xk, .int .i64 xn, .string xs, .slice X3 n5 x3, .slice X4 n6 x4] 26) = w7 := ⟨_, rfl⟩
  have QA7 : Hid (Q w6 w7) := Lib.hid (by rw [← hw7]; exact Q.box _ _)
  have eyl : (c5 x (.slice X3 n5 x3, .slice X4 n6 x4)).toList.toArray = #[.int .i64 xk, .int .i64 xn, .string xs, .slice X3 n5 x3, .slice X4 n6 x4] := by
    rw [← HXE.out.1, ← HXE.out.2.1, ← HXE.out.2.2.1]
    rfl
  have hrl : ∀ i ∈ List.range l.length, i < l.length := fun i hi => List.mem_range.1 hi
  have hyo : ∀ v ∈ (c5 x (.slice X3 n5 x3, .slice X4 n6 x4)).toList, v.oneCell' = true := fun v hv => by
    simp only [c5, List.mem_cons, List.not_mem_nil, or_false] at hv
    rcases hv with rfl | rfl | rfl | rfl | rfl <;> rfl
  have OI7 := Lib.hid (own_block OI6.out fun g e => QA7.out.block g (OI6.out.lt g e).2)
  have cI2 := Lib.hid (insert_any w1.heap.size w6.heap.size n cI' p AI (flat F l (List.range l.length)) (c5 x (.slice X3 n5 x3, .slice X4 n6 x4)).toList w7 OI7.out (by have := HN.out; omega) (by have := HN.out; omega) (Nat.le_trans QG6.out.size QA7.out.size) (fun g e => by have := (OI6.out.lt g e).2; omega) rfl (by rw [eyl, ← hw7]; exact Bk.new _ _ _) (flat_one F l w LA.out _ hrl) hyo)
  clear O1 G1 H1 bC6 hx3 hx4 hw5 eyl hrl hyo
  go_wp2_with fail
  refine (cI2.out).mono ?_
  rintro e w8 ⟨g2, c2, rfl, O2, G2, H2⟩
  have QG8 := Lib.hid (Q.grown (QG6.out.trans QA7.out) G2 (fun k e => (OI7.out.lt k e).1))
  have O18 := own_block (own_block O16.out fun g e => QA7.out.block g (O16.out.lt g e).2) (w' := w8) (fun g e => G2.block g (by have := (O16.out.lt g e).2; have := QA7.out.size; omega) (fun e' => NE1.out g e'.symm (by simpa [Value.ownBlock] using e.symm)))
  have hg1 := O18.lt g1 rfl
  have hg2 := O2.lt g2 rfl
  have hc1 : n + 1 ≤ c1 := by
    rcases O18.2 with ⟨e, e0⟩ | ⟨g', cap, cur, e, _, _, hc, _⟩
    · cases e
    · simp only [Value.slice.injEq] at e
      omega
  have hc2 : n + 1 ≤ c2 := by
    rcases O2.2 with ⟨e, e0⟩ | ⟨g', cap, cur, e, _, _, hc, _⟩
    · cases e
    · simp only [Value.slice.injEq] at e
      omega
  have Q8 := Lib.hid (Q1.out.trans QG8.out)
  have hlk : (ks.take p ++ key :: ks.drop p).length = n + 1 := by
    have := HN.out
    simp only [List.length_append, List.length_cons, List.length_take, List.length_drop]
    omega
  have hll : (l.take p ++ x :: l.drop p).length = n + 1 := by
    have := HN.out
    simp only [List.length_append, List.length_cons, List.length_take, List.length_drop]
    omega
  have hW := new_wi (ks := ks.take p ++ key :: ks.drop p) (l := l.take p ++ x :: l.drop p) (gK := g1) (cK := c1) (gI := g2) (cI := c2) (N := n + 1) (b1 := w1.heap.size) Q8.out hll.symm hlk.symm hc2 hc1 hg2 hg1
    (fun i hi => new_cells O2 HN.out.2.1.symm HN.out.2.2.1 LA.out HX6.out.1 HX6.out.2 i hi)
    (fun i hi => new_keys O18 i hi HN.out.1.symm)
  have hw1s : w1.heap.size ≥ w.heap.size + 3 := by have h1 := QC1.out.size; have h2 := HSZ.out; omega
  have bP8 := BP.out.stays (QC1.out.trans QG8.out)
  have hfit : Fit ⟨5, 0, ⟨#[]⟩, l.take p ++ x :: l.drop p, ks.take p ++ key :: ks.drop p⟩ := by
    refine (Fit_iff _).2 ⟨by show 0 ≤ _; omega, fun k hk => ?_, ?_, ?_, ?_⟩
    · have hk' : k ∈ ks.take p ++ key :: ks.drop p := hk
      rw [List.mem_append, List.mem_cons] at hk'
      rcases hk' with h | h | h
      · exact HFIT.out.2.1 k (List.mem_of_mem_take h)
      · rw [h]
        exact HFIT.out.2.2.2
      · exact HFIT.out.2.1 k (List.mem_of_mem_drop h)
    · show (l.take p ++ x :: l.drop p).length ≤ _
      have := HN.out
      omega
    · have := HN.out
      show (ks.take p ++ key :: ks.drop p).length ≤ _
      omega
    · refine (FitL_mem _).2 (fun y hy => ?_)
      have hy' : y ∈ l.take p ++ x :: l.drop p := hy
      rw [List.mem_append, List.mem_cons] at hy'
      rcases hy' with h | h | h
      · exact (FitL_mem _).1 HFIT.out.1 y (List.mem_of_mem_take h)
      · rw [h]
        exact HFIT.out.2.2.1
      · exact (FitL_mem _).1 HFIT.out.1 y (List.mem_of_mem_drop h)
  have hnod := nodesL_ins x l p
  have hn8 := HN.out.2.2.2.2
  have cC := Lib.hid (copy_gmk 5 0 ⟨#[]⟩ (l.take p ++ x :: l.drop p) (ks.take p ++ key :: ks.drop p) (some ⟨g2, 0, none⟩) (some ⟨g1, 0, none⟩) c2 c1 (n + 1) (n + 1) 262144 hll.symm hlk.symm w8 (fun b => w.heap.size ≤ b ∧ b < w1.heap.size) hW hfit (by omega) (by omega) (by omega))
  have HW5 := Lib.hid (show w1.heap.size ≤ w8.heap.size ∧ w.heap.size + 3 ≤ w1.heap.size from ⟨QG8.out.size, hw1s⟩)
  have BP5 := Lib.hid bP8
  have Q5 := Lib.hid Q8.out
  clear O2 G2 H2 O18 hg1 hg2 hc1 hc2 hlk hll hW hw1s bP8 hfit hnod hn8
  go_wp2_with fail
  refine (cC.out).mono ?_
  rintro e w6 ⟨B3, d3, B4, d4, rfl, hI, q6⟩
  have z3 := BP5.out.stays q6
  have u0 := z3.at 0 _ rfl
  have u1 := z3.at 1 _ rfl
  have u2 := z3.at 2 _ rfl
  have u3 := z3.at 3 _ rfl
  have u4 := z3.at 4 _ rfl
  have f0 := z3.frozen 0
  have f1 := z3.frozen 1
  have f2 := z3.frozen 2
  have f3 := z3.frozen 3
  have f4 := z3.frozen 4
  have hPw : P = w.heap.size + 2 := by have := HSZ.out; omega
  have hset := set5_world w6 P 0 (.int .i64 5) (.int .i64 0) (.string ⟨#[]⟩) (.slice B3 (n + 1) d3) (.slice B4 (n + 1) d4)
  have hsetb := set5_block w6 P 0 (.int .i64 5) (.int .i64 0) (.string ⟨#[]⟩) (.slice B3 (n + 1) d3) (.slice B4 (n + 1) d4)
  have bf : Bk P #[.int .i64 5, .int .i64 0, .string ⟨#[]⟩, .slice B3 (n + 1) d3, .slice B4 (n + 1) d4] 26 (set5 w6 P 0 (.int .i64 5) (.int .i64 0) (.string ⟨#[]⟩) (.slice B3 (n + 1) d3) (.slice B4 (n + 1) d4)) := ((((z3.set 0 (.int .i64 5)).set 1 (.int .i64 0)).set 2 (.string ⟨#[]⟩)).set 3 (.slice B3 (n + 1) d3)).set 4 (.slice B4 (n + 1) d4)
  have hfin := hI (set5 w6 P 0 (.int .i64 5) (.int .i64 0) (.string ⟨#[]⟩) (.slice B3 (n + 1) d3) (.slice B4 (n + 1) d4)) (fun j _ hj => hsetb j (fun e => by
    have h1 := HW5.out
    rcases hj with hj | hj
    · exact hj ⟨by omega, by omega⟩
    · omega))
  obtain ⟨wf, hwf⟩ : ∃ wf, set5 w6 P 0 (.int .i64 5) (.int .i64 0) (.string ⟨#[]⟩) (.slice B3 (n + 1) d3) (.slice B4 (n + 1) d4) = wf := ⟨_, rfl⟩
  rw [hwf] at hset hsetb bf hfin
  have q7 : Q w wf := ⟨hset.1.trans (q6.os.trans Q5.out.os), hset.2.1.trans (q6.tape.trans Q5.out.tape), hset.2.2.1.trans (q6.output.trans Q5.out.output), by have h1 := q6.size; have h2 := Q5.out.size; omega, fun j hj => by
    rw [hsetb j (by omega), q6.block j (by have h2 := Q5.out.size; omega), Q5.out.block j hj]⟩
  unfold set5 at hwf
  simp only [Nat.zero_add] at hwf
  have r0 := bf.at 0 _ rfl
  have r1 := bf.at 1 _ rfl
  have r2 := bf.at 2 _ rfl
  have r3 := bf.at 3 _ rfl
  have r4 := bf.at 4 _ rfl
  have Q7 := Lib.hid q7
  have HFI := Lib.hid hfin
  clear bf z3 hI hfin q6 q7 hset hsetb hPw y0 y1 y2 y3 y4
  go_wp2_with fail
  refine bodyPost_ret (by simp [results, Tryz.results31, go_sem, r0, r1, r2, r3, r4]; try rfl) rfl ?_
  exact HR.out _ _ Q7.out ⟨_, _, rfl, HFI.out.1, HFI.out.2⟩

end Go.Proofs.YtjmchjphdfbhiaaGreatDoor.val
