/- What the matching loop knows of memory. -/
import Derived.Test.YthknlllaclgekaaGk
namespace Go.Proofs.Ythknlllaclgekaa.glo
open Go.RowKit

def ptr (p : Nat) : Value := .pointer (some ⟨p, 0, none⟩)
section
variable {p : Nat} {m : Bool} {b r : ByteArray} {w w' : World}
theorem Gr.put (h : Gr p m b r w) (m' : Bool) (b' r' : ByteArray) : Gr p m' b' r' (((w.setCell ⟨p, 0, none⟩ (.bool m')).setCell ⟨p, 1, none⟩ (.string b')).setCell ⟨p, 2, none⟩ (.string r')) :=
  set_of (set_of (set_of h 0 _) 1 _) 2 _
theorem Gr.beside (h : Gr p m b r w) {q : Nat} (hq : p ≠ q) (m' : Bool) (b' r' : ByteArray) : Gr p m b r (((w.setCell ⟨q, 0, none⟩ (.bool m')).setCell ⟨q, 1, none⟩ (.string b')).setCell ⟨q, 2, none⟩ (.string r')) :=
  ((h.other hq 0 _).other hq 1 _).other hq 2 _
end
theorem Q.put {a w : World} (q : Q a w) (b : Nat) (hb : a.heap.size ≤ b) (m : Bool) (x y : ByteArray) : Q a (((w.setCell ⟨b, 0, none⟩ (.bool m)).setCell ⟨b, 1, none⟩ (.string x)).setCell ⟨b, 2, none⟩ (.string y)) :=
  ((q.setCell (p := ⟨b, 0, none⟩) hb _).setCell (p := ⟨b, 1, none⟩) hb _).setCell (p := ⟨b, 2, none⟩) hb _
theorem Q.set {a w : World} (q : Q a w) (b : Nat) (hb : a.heap.size ≤ b) (j : Nat) (u : Value) : Q a (w.setCell ⟨b, j, none⟩ u) := q.setCell (p := ⟨b, j, none⟩) hb _

theorem ext_list (t : ByteArray) (k : Nat) : (t.extract k t.size).data.toList = t.data.toList.drop k := by
  rw [ByteArray.data_extract, Array.toList_extract, List.extract_eq_take_drop]
  exact List.take_of_length_le (by rw [List.length_drop, len_data]; omega)
theorem ext_size (t : ByteArray) (k : Nat) : (t.extract k t.size).size = t.size - k := by
  rw [← len_data, ext_list, List.length_drop, len_data]
theorem cons_of (s : ByteArray) (h : 0 < s.size) : s.data.toList = s[0] :: (s.extract 1 s.size).data.toList := by
  rw [ext_list, ← drop_at s 0 h, List.drop_zero]

/-- What the loop knows: P and P + 1 are its two groups; L and T bound the pattern and the text. -/
structure Big (L T : Nat) (w : World) (ANS : Prop) (m1 : Bool) (b1 r1 : ByteArray) (m2 : Bool) (b2 r2 p s : ByteArray) (wr : World) : Prop where
  g1 : Gr w.heap.size m1 b1 r1 wr
  g2 : Gr (w.heap.size + 1) m2 b2 r2 wr
  hq : Q w wr
  mid : Mid ANS m1 b1.data.toList r1.data.toList m2 b2.data.toList r2.data.toList p.data.toList s.data.toList
  pL : p.size ≤ L
  pb1 : m1 = true → p.size ≤ b1.size
  pb2 : m2 = true → p.size ≤ b2.size
  b1L : m1 = true → b1.size ≤ L
  b12 : m1 = true → m2 = true → b1.size ≤ b2.size
  b2L : m2 = true → b2.size ≤ L
  sT : s.size ≤ T
  r1T : r1.size ≤ T
  r2T : r2.size ≤ T
/-- The measure. -/
def wt (L T : Nat) (m1 : Bool) (b1 r1 : ByteArray) (m2 : Bool) (b2 r2 p : ByteArray) : Nat :=
  heavy (L + T + 2) (if m2 = true then b2.size else L + 1) r2.size (if m1 = true then b1.size else L + 1) r1.size p.size

section
variable {L T : Nat} {w : World} {ANS : Prop} {m1 : Bool} {b1 r1 : ByteArray} {m2 : Bool} {b2 r2 p s : ByteArray} {wr : World}
theorem Big.lim1 (h : Big L T w ANS m1 b1 r1 m2 b2 r2 p s wr) : (if m1 = true then b1.size else L + 1) < L + T + 2 := by
  split
  · rename_i h1
    have := h.b1L h1
    omega
  · omega
theorem Big.start (w : World) (p s : ByteArray) (hp : p.size ≤ L) (hs : s.size ≤ T) {w1 : World} (h1 : Gr w.heap.size false ⟨#[]⟩ ⟨#[]⟩ w1) (h2 : Gr (w.heap.size + 1) false ⟨#[]⟩ ⟨#[]⟩ w1) (q : Q w w1) :
    Big L T w (mt (parts p.data.toList) s.data.toList) false ⟨#[]⟩ ⟨#[]⟩ false ⟨#[]⟩ ⟨#[]⟩ p s w1 where
  g1 := h1
  g2 := h2
  hq := q
  mid := Mid.start _ _
  pL := hp
  pb1 h := by cases h
  pb2 h := by cases h
  b1L h := by cases h
  b12 h := by cases h
  b2L h := by cases h
  sT := hs
  r1T := Nat.zero_le _
  r2T := Nat.zero_le _

/-- A byte. -/
theorem Big.byte (h : Big L T w ANS m1 b1 r1 m2 b2 r2 p s wr) (hp : 0 < p.size) (hs : 0 < s.size) (he : p[0].toNat = s[0].toNat) (hc : p[0].toNat ≠ 42) (n n2 : Nat) :
    Big L T w ANS m1 b1 r1 m2 b2 r2 (p.extract 1 p.size) (s.extract 1 s.size) ((wr.drewN n).drewN n2) ∧ wt L T m1 b1 r1 m2 b2 r2 (p.extract 1 p.size) < wt L T m1 b1 r1 m2 b2 r2 p := by
  have e1 : (p.extract 1 p.size).size = p.size - 1 := by rw [ext_size]
  have e2 : (s.extract 1 s.size).size = s.size - 1 := by rw [ext_size]
  have hm := h.mid
  rw [cons_of p hp, cons_of s hs, ← UInt8.toNat_inj.1 he] at hm
  have hm := hm.byte (by rw [Ne, byte42]; exact hc)
  refine ⟨⟨h.g1, h.g2, h.hq.trans ((Q.drewN _ n).trans (Q.drewN _ n2)), hm, ?_, fun h1 => ?_, fun h2 => ?_, h.b1L, h.b12, h.b2L, ?_, h.r1T, h.r2T⟩, heavy_e (by omega)⟩
  · have := h.pL; omega
  · have := h.pb1 h1; omega
  · have := h.pb2 h2; omega
  · have := h.sT; omega
/-- A group of one. -/
theorem Big.star (h : Big L T w ANS m1 b1 r1 m2 b2 r2 p s wr) (hp : 0 < p.size) (hc : p[0].toNat = 42) (ht : ∀ x, (p.extract 1 p.size).data.toList ≠ 42 :: x) :
    Big L T w ANS true (p.extract 1 p.size) s m2 b2 r2 (p.extract 1 p.size) s (((wr.setCell ⟨w.heap.size, 0, none⟩ (.bool true)).setCell ⟨w.heap.size, 1, none⟩ (.string (p.extract 1 p.size))).setCell ⟨w.heap.size, 2, none⟩ (.string s)) ∧
      wt L T true (p.extract 1 p.size) s m2 b2 r2 (p.extract 1 p.size) < wt L T m1 b1 r1 m2 b2 r2 p := by
  have e1 : (p.extract 1 p.size).size = p.size - 1 := by rw [ext_size]
  have hm := h.mid
  rw [cons_of p hp, byte42.2 hc] at hm
  have hm := hm.star ht
  have hpL := h.pL
  have hsT := h.sT
  refine ⟨⟨h.g1.put _ _ _, h.g2.beside (by omega) _ _ _, h.hq.put _ (Nat.le_refl _) _ _ _, hm, by omega, fun _ => Nat.le_refl _, fun h2 => ?_, fun _ => by omega, fun _ h2 => ?_, h.b2L, h.sT, h.sT, h.r2T⟩, heavy_c ?_ (by omega) (by omega)⟩
  · have := h.pb2 h2; omega
  · have := h.pb2 h2; omega
  · rw [if_pos rfl]
    split
    · rename_i h1
      have := h.pb1 h1
      omega
    · omega
/-- A group of two. -/
theorem Big.star2 (h : Big L T w ANS m1 b1 r1 m2 b2 r2 p s wr) (hp : 2 ≤ p.size) (hc : p.data.toList = 42 :: 42 :: (p.extract 2 p.size).data.toList) (n : Nat) :
    Big L T w ANS false ⟨#[]⟩ ⟨#[]⟩ true (p.extract 2 p.size) s (p.extract 2 p.size) s
      ((((((wr.setCell ⟨w.heap.size + 1, 0, none⟩ (.bool true)).setCell ⟨w.heap.size + 1, 1, none⟩ (.string (p.extract 2 p.size))).setCell ⟨w.heap.size + 1, 2, none⟩ (.string s)).setCell ⟨w.heap.size, 0, none⟩ (.bool false)).setCell ⟨w.heap.size, 1, none⟩ (.string ⟨#[]⟩)).setCell ⟨w.heap.size, 2, none⟩ (.string ⟨#[]⟩) |>.drewN n) ∧
      wt L T false ⟨#[]⟩ ⟨#[]⟩ true (p.extract 2 p.size) s (p.extract 2 p.size) < wt L T m1 b1 r1 m2 b2 r2 p := by
  have e1 : (p.extract 2 p.size).size = p.size - 2 := by rw [ext_size]
  have hm := h.mid
  rw [hc] at hm
  have hm := hm.star2
  have hpL := h.pL
  have hsT := h.sT
  refine ⟨⟨((h.g1.beside (by omega) _ _ _).put _ _ _).drewN n, ((h.g2.put _ _ _).beside (by omega) _ _ _).drewN n, ((h.hq.put _ (by omega) _ _ _).put _ (Nat.le_refl _) _ _ _).trans (Q.drewN _ _), hm, by omega, fun h1 => (by cases h1), fun _ => Nat.le_refl _, fun h1 => (by cases h1), fun h1 => (by cases h1), fun _ => by omega, h.sT, Nat.zero_le _, h.sT⟩, heavy_a ?_ (by omega) ?_ (by show 0 < _; omega) (by omega)⟩
  · rw [if_pos rfl]
    split
    · rename_i h1
      have := h.pb2 h1
      omega
    · omega
  · rw [if_neg (by simp)]
    omega
/-- The group of one takes a byte more. -/
theorem Big.more1 (h : Big L T w ANS m1 b1 r1 m2 b2 r2 p s wr) (hr : 0 < r1.size) (hc : r1[0].toNat ≠ 46) (hn : ¬ mt (parts p.data.toList) s.data.toList) (n n2 : Nat) :
    Big L T w ANS m1 b1 (r1.extract 1 r1.size) m2 b2 r2 b1 (r1.extract 1 r1.size) (((wr.setCell ⟨w.heap.size, 2, none⟩ (.string (r1.extract 1 r1.size))).drewN n).drewN n2) ∧
      wt L T m1 b1 (r1.extract 1 r1.size) m2 b2 r2 b1 < wt L T m1 b1 r1 m2 b2 r2 p := by
  have e1 : (r1.extract 1 r1.size).size = r1.size - 1 := by rw [ext_size]
  have hm := h.mid
  have h1 : m1 = true := by
    cases h1 : m1 with
    | true => rfl
    | false =>
      have := hm.none1 h1
      rw [nil_iff] at this
      omega
  subst h1
  rw [cons_of r1 hr] at hm
  have hm := hm.more1 (fun x => hc (by rw [x]; rfl)) hn
  have hb := h.b1L rfl
  have hrT := h.r1T
  refine ⟨⟨((h.g1.set2 _).drewN n).drewN n2, ((h.g2.other (by omega) _ _).drewN n).drewN n2, (h.hq.set _ (Nat.le_refl _) _ _).trans ((Q.drewN _ n).trans (Q.drewN _ n2)), hm, hb, fun _ => Nat.le_refl _, fun h2 => h.b12 rfl h2, h.b1L, h.b12, h.b2L, by omega, by omega, h.r2T⟩, heavy_d (by omega) (by omega)⟩
/-- The group of two takes more. -/
theorem Big.again (h : Big L T w ANS m1 b1 r1 m2 b2 r2 p s wr) (R : ByteArray) (hR : R.size < r2.size) (hm : Mid ANS false [] [] m2 b2.data.toList R.data.toList b2.data.toList R.data.toList) {w1 : World} (q : Q wr w1) :
    Big L T w ANS false ⟨#[]⟩ ⟨#[]⟩ m2 b2 R b2 R ((((w1.setCell ⟨w.heap.size, 0, none⟩ (.bool false)).setCell ⟨w.heap.size, 1, none⟩ (.string ⟨#[]⟩)).setCell ⟨w.heap.size, 2, none⟩ (.string ⟨#[]⟩)).setCell ⟨w.heap.size + 1, 2, none⟩ (.string R)) ∧
      wt L T false ⟨#[]⟩ ⟨#[]⟩ m2 b2 R b2 < wt L T m1 b1 r1 m2 b2 r2 p := by
  have h2 : m2 = true := by
    cases h2 : m2 with
    | true => rfl
    | false =>
      have := h.mid.none2 h2
      rw [nil_iff] at this
      omega
  have hb := h.b2L h2
  have hrT := h.r2T
  have g1 := h.g1.stays q
  have g2 := h.g2.stays q
  refine ⟨⟨(g1.put _ _ _).other (by omega) _ _, (g2.beside (by omega) _ _ _).set2 _, ((h.hq.trans q).put _ (Nat.le_refl _) _ _ _).set _ (by omega) _ _, hm, hb, fun h1 => (by cases h1), fun _ => Nat.le_refl _, fun h1 => (by cases h1), fun h1 => (by cases h1), h.b2L, by omega, Nat.zero_le _, by omega⟩, heavy_b hR ?_ (by show 0 < _; omega) (by omega)⟩
  rw [if_neg (by simp)]
  omega
end
theorem stuck_of (r : ByteArray) (h : r.size = 0 ∨ ∃ h : 0 < r.size, r[0].toNat = 46) : stuck r.data.toList := fun c t e => by
  rcases h with h | ⟨h, h'⟩
  · rw [(nil_iff r).2 h] at e
    cases e
  · rw [cons_of r h] at e
    simp only [List.cons.injEq] at e
    rw [← e.1]
    exact UInt8.toNat_inj.1 h'

/-- How the walk's tests read. -/
theorem pre_two (p : ByteArray) (h : Lib.hasPrefix p.data.toList [42, 42] = true) : 2 ≤ p.size ∧ p.data.toList = 42 :: 42 :: (p.extract 2 p.size).data.toList := by
  unfold Lib.hasPrefix at h
  rw [List.isPrefixOf_iff_prefix] at h
  obtain ⟨t, h⟩ := h
  have hl := congrArg List.length h
  rw [len_data] at hl
  simp at hl
  refine ⟨by omega, ?_⟩
  rw [ext_list, ← h]
  rfl
theorem pre_one (p : ByteArray) (h : Lib.hasPrefix p.data.toList [42] = true) : ∃ h : 0 < p.size, p[0].toNat = 42 := by
  unfold Lib.hasPrefix at h
  rw [List.isPrefixOf_iff_prefix] at h
  obtain ⟨t, h⟩ := h
  have hl := congrArg List.length h
  rw [len_data] at hl
  simp at hl
  have h0 : 0 < p.size := by omega
  refine ⟨h0, ?_⟩
  rw [cons_of p h0] at h
  simp only [List.cons_append, List.cons.injEq] at h
  rw [← h.1]
  rfl
theorem pre_not_two (p : ByteArray) (h0 : 0 < p.size) (h1 : p[0].toNat = 42) (h : Lib.hasPrefix p.data.toList [42, 42] = false) : ∀ x, (p.extract 1 p.size).data.toList ≠ 42 :: x := fun x e => by
  have : Lib.hasPrefix p.data.toList [42, 42] = true := by
    unfold Lib.hasPrefix
    rw [List.isPrefixOf_iff_prefix, cons_of p h0, e, byte42.2 h1]
    exact ⟨x, rfl⟩
  rw [h] at this
  cases this
theorem pre_not_one (p : ByteArray) (h : Lib.hasPrefix p.data.toList [42] = false) : ∀ x, p.data.toList ≠ 42 :: x := fun x e => by
  have : Lib.hasPrefix p.data.toList [42] = true := by
    unfold Lib.hasPrefix
    rw [List.isPrefixOf_iff_prefix, e]
    exact ⟨x, rfl⟩
  rw [h] at this
  cases this
theorem not_left_of (p s : ByteArray) (h : Lib.hasPrefix p.data.toList [42] = false) (hne : 0 < p.size ∨ 0 < s.size) (hb : ∀ (h1 : 0 < p.size) (h2 : 0 < s.size), p[0].toNat ≠ s[0].toNat) : ¬ mt (parts p.data.toList) s.data.toList := by
  refine not_left _ _ (pre_not_one p h) ?_ fun c x y e1 e2 => ?_
  · rw [Ne, Ne, nil_iff, nil_iff]
    omega
  · have h1 : 0 < p.size := by rw [← len_data, e1]; simp
    have h2 : 0 < s.size := by rw [← len_data, e2]; simp
    rw [cons_of p h1] at e1
    rw [cons_of s h2] at e2
    simp only [List.cons.injEq] at e1 e2
    exact hb h1 h2 (by rw [e1.1, e2.1])

/-- Where the walk comes to no byte and to no group. -/
def shape (p s : ByteArray) : Prop := (p.size = 0 ∧ 0 < s.size) ∨ (0 < p.size ∧ s.size = 0) ∨ ∃ (h1 : 0 < p.size) (h2 : 0 < s.size), p[0].toNat ≠ s[0].toNat
theorem shape_of (p s : ByteArray) (h0 : ¬ (p.size = 0 ∧ s.size = 0)) (hC : ¬ ∃ (h1 : 0 < p.size) (h2 : 0 < s.size), p[0].toNat = s[0].toNat) : shape p s := by
  unfold shape
  by_cases h1 : 0 < p.size
  · by_cases h2 : 0 < s.size
    · exact .inr (.inr ⟨h1, h2, fun h => hC ⟨h1, h2, h⟩⟩)
    · exact .inr (.inl ⟨h1, by omega⟩)
  · exact .inl ⟨by omega, by omega⟩

end Go.Proofs.Ythknlllaclgekaa.glo
