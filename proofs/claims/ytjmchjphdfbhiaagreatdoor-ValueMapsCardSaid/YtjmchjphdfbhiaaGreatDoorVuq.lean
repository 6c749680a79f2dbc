/- Values in memory while a copy is made: a cell's value may change for one that reads the same. -/
import Derived.Test.YtjmchjphdfbhiaaGreatDoorVcy
namespace Go.Proofs.YtjmchjphdfbhiaaGreatDoor.val.cp
open Go.RowKit
open Go.Proofs.YtjmchjphdfbhiaaGreatDoor
/-- A slice of keys that lie in another block than g. -/
def Kg (g : Nat → Prop) (v : Value) (l : List ByteArray) (w : World) : Prop := ∃ A c, v = .slice A l.length c ∧ l.length ≤ c ∧ (l ≠ [] → ∃ b o, A = some ⟨b, o, none⟩ ∧ ¬ g b ∧ KL l b o w)
theorem Kg.ks {g : Nat → Prop} {v : Value} {l : List ByteArray} {w : World} (h : Kg g v l w) : Ks v l w := by
  obtain ⟨A, c, e, hc, k⟩ := h
  refine ⟨A, c, e, hc, fun hn => ?_⟩
  obtain ⟨b, o, e', _, k'⟩ := k hn
  exact ⟨b, o, e', k'⟩
theorem Kg.stays {g : Nat → Prop} {v : Value} {l : List ByteArray} {w w' : World} (q : Q w w') (h : Kg g v l w) : Kg g v l w' := by
  obtain ⟨A, c, e, hc, k⟩ := h
  refine ⟨A, c, e, hc, fun hn => ?_⟩
  obtain ⟨b, o, e', hb, k'⟩ := k hn
  exact ⟨b, o, e', hb, KL.stays q l b o k'⟩
theorem Ks.kg {g : Nat → Prop} {v : Value} {l : List ByteArray} {w : World} (h : Ks v l w) (hg : ∀ b, b < w.heap.size → ¬ g b) : Kg g v l w := by
  obtain ⟨A, c, e, hc, k⟩ := h
  refine ⟨A, c, e, hc, fun hn => ?_⟩
  obtain ⟨b, o, e', k'⟩ := k hn
  refine ⟨b, o, e', ?_, k'⟩
  cases l with
  | nil => exact absurd rfl hn
  | cons x t =>
    exact hg b (cell_lt k'.1)
mutual
/-- As Vi; each row of items lies below block B or at a place of the grid. -/
def Wi (B : Nat) (gb : Nat → Prop) : V → Value → Value → Value → Value → Value → World → Prop
  | ⟨k, n, s, l, ks⟩, c0, c1, c2, c3, c4, w => c0 = .int .i64 k ∧ c1 = .int .i64 n ∧ c2 = .string s ∧
    (∃ A c, c3 = .slice A l.length c ∧ l.length ≤ c ∧ (l ≠ [] → ∃ b o, A = some ⟨b, o, none⟩ ∧ (b < B ∨ o % 5 = 0) ∧ ¬ gb b ∧ WL B gb l b o w)) ∧ Kg gb c4 ks w
def WL (B : Nat) (gb : Nat → Prop) : List V → Nat → Nat → World → Prop
  | [], _, _, _ => True
  | v :: t, b, o, w => (∃ c0 c1 c2 c3 c4, w.cell? ⟨b, o, none⟩ = some c0 ∧ w.cell? ⟨b, o + 1, none⟩ = some c1 ∧ w.cell? ⟨b, o + 2, none⟩ = some c2 ∧ w.cell? ⟨b, o + 3, none⟩ = some c3 ∧ w.cell? ⟨b, o + 4, none⟩ = some c4 ∧ Wi B gb v c0 c1 c2 c3 c4 w) ∧ WL B gb t b (o + 5) w
end
theorem Wi_iff (B : Nat) (gb : Nat → Prop) (v : V) (c0 c1 c2 c3 c4 : Value) (w : World) : Wi B gb v c0 c1 c2 c3 c4 w ↔ c0 = .int .i64 v.kind ∧ c1 = .int .i64 v.num ∧ c2 = .string v.str ∧
    (∃ A c, c3 = .slice A v.items.length c ∧ v.items.length ≤ c ∧ (v.items ≠ [] → ∃ b o, A = some ⟨b, o, none⟩ ∧ (b < B ∨ o % 5 = 0) ∧ ¬ gb b ∧ WL B gb v.items b o w)) ∧ Kg gb c4 v.keys w := by
  cases v
  rw [Wi]
  rfl
theorem WL_nil (B : Nat) (gb : Nat → Prop) (b o : Nat) (w : World) : WL B gb [] b o w := by rw [WL]; trivial
theorem WL_cons (B : Nat) (gb : Nat → Prop) (v : V) (t : List V) (b o : Nat) (w : World) : WL B gb (v :: t) b o w ↔ (∃ c0 c1 c2 c3 c4, w.cell? ⟨b, o, none⟩ = some c0 ∧ w.cell? ⟨b, o + 1, none⟩ = some c1 ∧ w.cell? ⟨b, o + 2, none⟩ = some c2 ∧ w.cell? ⟨b, o + 3, none⟩ = some c3 ∧ w.cell? ⟨b, o + 4, none⟩ = some c4 ∧ Wi B gb v c0 c1 c2 c3 c4 w) ∧ WL B gb t b (o + 5) w := by rw [WL]
theorem WL.at (B : Nat) (gb : Nat → Prop) : ∀ (l : List V) (b o : Nat) (w : World), WL B gb l b o w → ∀ (i : Nat) (h : i < l.length), ∃ c0 c1 c2 c3 c4, C5 b (o + i * 5) c0 c1 c2 c3 c4 w ∧ Wi B gb l[i] c0 c1 c2 c3 c4 w
  | [], _, _, _, _, i, h => absurd h (Nat.not_lt_zero _)
  | v :: t, b, o, w, h, 0, _ => by
    obtain ⟨⟨c0, c1, c2, c3, c4, g0, g1, g2, g3, g4, g5⟩, _⟩ := (WL_cons ..).1 h
    exact ⟨c0, c1, c2, c3, c4, ⟨by simpa using g0, by simpa using g1, by simpa using g2, by simpa using g3, by simpa using g4⟩, g5⟩
  | v :: t, b, o, w, h, i + 1, hi => by
    have := WL.at B gb t b (o + 5) w ((WL_cons ..).1 h).2 i (by simpa using hi)
    have e : o + (i + 1) * 5 = o + 5 + i * 5 := by omega
    rw [e]
    exact this
theorem WL.of_at (B : Nat) (gb : Nat → Prop) : ∀ (l : List V) (b o : Nat) (w : World), (∀ (i : Nat) (h : i < l.length), ∃ c0 c1 c2 c3 c4, C5 b (o + i * 5) c0 c1 c2 c3 c4 w ∧ Wi B gb l[i] c0 c1 c2 c3 c4 w) → WL B gb l b o w
  | [], _, _, _, _ => WL_nil _ _ _ _ _
  | v :: t, b, o, w, h => by
    rw [WL_cons]
    obtain ⟨c0, c1, c2, c3, c4, g, gw⟩ := h 0 (by simp)
    simp only [Nat.zero_mul, Nat.add_zero, List.getElem_cons_zero] at g gw
    refine ⟨⟨c0, c1, c2, c3, c4, g.a, g.b, g.c, g.d, g.e, gw⟩, WL.of_at B gb t b (o + 5) w fun i hi => ?_⟩
    have := h (i + 1) (by simpa using hi)
    rw [show o + (i + 1) * 5 = o + 5 + i * 5 by omega] at this
    simpa using this
theorem Wi.both_vi (B : Nat) (gb : Nat → Prop) (w : World) : (∀ (v : V) (c0 c1 c2 c3 c4 : Value), Wi B gb v c0 c1 c2 c3 c4 w → Vi v c0 c1 c2 c3 c4 w) ∧ (∀ (l : List V) (b o : Nat), WL B gb l b o w → VL l b o w) := by
  refine V.both (P := fun v => ∀ (c0 c1 c2 c3 c4 : Value), Wi B gb v c0 c1 c2 c3 c4 w → Vi v c0 c1 c2 c3 c4 w) (Q := fun l => ∀ (b o : Nat), WL B gb l b o w → VL l b o w) ?_ ?_ ?_
  · intro k n s l ks ih c0 c1 c2 c3 c4 h
    rw [Vi_iff]
    obtain ⟨h0, h1, h2, ⟨A, c, h3, h3', h4⟩, h5⟩ := (Wi_iff ..).1 h
    refine ⟨h0, h1, h2, ⟨A, c, h3, h3', fun hn => ?_⟩, h5.ks⟩
    obtain ⟨b, o, e, _, _, g⟩ := h4 hn
    exact ⟨b, o, e, ih b o g⟩
  · intro b o _
    exact VL_nil _ _ _
  · intro v t h1 h2 b o h
    rw [WL_cons] at h
    rw [VL_cons]
    obtain ⟨⟨c0, c1, c2, c3, c4, g0, g1, g2, g3, g4, g5⟩, g6⟩ := h
    exact ⟨⟨c0, c1, c2, c3, c4, g0, g1, g2, g3, g4, h1 _ _ _ _ _ g5⟩, h2 _ _ g6⟩
theorem Vi.both_wi (w : World) (B : Nat) (hB : w.heap.size ≤ B) (gb : Nat → Prop) (hg : ∀ b, b < w.heap.size → ¬ gb b) : (∀ (v : V) (c0 c1 c2 c3 c4 : Value), Vi v c0 c1 c2 c3 c4 w → Wi B gb v c0 c1 c2 c3 c4 w) ∧ (∀ (l : List V) (b o : Nat), VL l b o w → WL B gb l b o w) := by
  refine V.both (P := fun v => ∀ (c0 c1 c2 c3 c4 : Value), Vi v c0 c1 c2 c3 c4 w → Wi B gb v c0 c1 c2 c3 c4 w) (Q := fun l => ∀ (b o : Nat), VL l b o w → WL B gb l b o w) ?_ ?_ ?_
  · intro k n s l ks ih c0 c1 c2 c3 c4 h
    rw [Vi_iff] at h
    obtain ⟨h0, h1, h2, ⟨A, c, h3, h3', h4⟩, h5⟩ := h
    refine (Wi_iff ..).2 ⟨h0, h1, h2, ⟨A, c, h3, h3', fun hn => ?_⟩, Ks.kg h5 hg⟩
    obtain ⟨b, o, e, g⟩ := h4 hn
    suffices hb : b < w.heap.size from ⟨b, o, e, .inl (by omega), hg b hb, ih b o g⟩
    obtain ⟨v, t, e2⟩ : ∃ v t, l = v :: t := by
      cases l with
      | nil => exact absurd rfl hn
      | cons v t => exact ⟨v, t, rfl⟩
    rw [e2] at g
    obtain ⟨s3, s4, hd⟩ := g.hd
    exact cell_lt hd.k
  · intro b o _
    exact WL_nil _ _ _ _ _
  · intro v t h1 h2 b o h
    rw [VL_cons] at h
    rw [WL_cons]
    obtain ⟨⟨c0, c1, c2, c3, c4, g0, g1, g2, g3, g4, g5⟩, g6⟩ := h
    exact ⟨⟨c0, c1, c2, c3, c4, g0, g1, g2, g3, g4, h1 _ _ _ _ _ g5⟩, h2 _ _ g6⟩
theorem Wi.both_stays {w w' : World} (B : Nat) (gb : Nat → Prop) (q : Q w w') : (∀ (v : V) (c0 c1 c2 c3 c4 : Value), Wi B gb v c0 c1 c2 c3 c4 w → Wi B gb v c0 c1 c2 c3 c4 w') ∧ (∀ (l : List V) (b o : Nat), WL B gb l b o w → WL B gb l b o w') := by
  refine V.both (P := fun v => ∀ (c0 c1 c2 c3 c4 : Value), Wi B gb v c0 c1 c2 c3 c4 w → Wi B gb v c0 c1 c2 c3 c4 w') (Q := fun l => ∀ (b o : Nat), WL B gb l b o w → WL B gb l b o w') ?_ ?_ ?_
  · intro k n s l ks ih c0 c1 c2 c3 c4 h
    rw [Wi_iff] at h ⊢
    obtain ⟨h0, h1, h2, ⟨A, c, h3, h3', h4⟩, h5⟩ := h
    refine ⟨h0, h1, h2, ⟨A, c, h3, h3', fun hn => ?_⟩, h5.stays q⟩
    obtain ⟨b, o, e, hg, hb, g⟩ := h4 hn
    exact ⟨b, o, e, hg, hb, ih b o g⟩
  · intro b o _
    exact WL_nil _ _ _ _ _
  · intro v t h1 h2 b o h
    rw [WL_cons] at h ⊢
    obtain ⟨⟨c0, c1, c2, c3, c4, g0, g1, g2, g3, g4, g5⟩, g6⟩ := h
    exact ⟨⟨c0, c1, c2, c3, c4, cell_stays q g0, cell_stays q g1, cell_stays q g2, cell_stays q g3, cell_stays q g4, h1 _ _ _ _ _ g5⟩, h2 _ _ g6⟩
theorem KL_fun : ∀ (l l' : List ByteArray) (b o : Nat) (w : World), l.length = l'.length → KL l b o w → KL l' b o w → l = l'
  | [], [], _, _, _, _, _, _ => rfl
  | [], _ :: _, _, _, _, h, _, _ => by simp at h
  | _ :: _, [], _, _, _, h, _, _ => by simp at h
  | k :: t, k' :: t', b, o, w, h, h1, h2 => by
    have e := h1.1.symm.trans h2.1
    simp only [Option.some.injEq, Value.string.injEq] at e
    rw [e, KL_fun t t' b (o + 1) w (by simpa using h) h1.2 h2.2]
theorem Ks_fun {v : Value} {l l' : List ByteArray} {w : World} (h1 : Ks v l w) (h2 : Ks v l' w) : l = l' := by
  obtain ⟨A, c, e, _, g⟩ := h1
  obtain ⟨A', c', e', _, g'⟩ := h2
  rw [e] at e'
  simp only [Value.slice.injEq] at e'
  obtain ⟨rfl, hl, rfl⟩ := e'
  by_cases hn : l = []
  · subst hn
    exact (List.eq_nil_of_length_eq_zero hl.symm).symm
  · have hn' : l' ≠ [] := fun e => hn (by subst e; exact List.eq_nil_of_length_eq_zero hl)
    obtain ⟨b, o, rfl, k1⟩ := g hn
    obtain ⟨b', o', e2, k2⟩ := g' hn'
    simp only [Option.some.injEq, Addr.mk.injEq] at e2
    obtain ⟨rfl, rfl, _⟩ := e2
    exact KL_fun _ _ _ _ _ hl k1 k2
theorem Wi_fun (B : Nat) (gb : Nat → Prop) (w : World) : (∀ (v v' : V) (c0 c1 c2 c3 c4 : Value), Wi B gb v c0 c1 c2 c3 c4 w → Wi B gb v' c0 c1 c2 c3 c4 w → v = v') ∧ (∀ (l l' : List V) (b o : Nat), l.length = l'.length → WL B gb l b o w → WL B gb l' b o w → l = l') := by
  refine V.both (P := fun v => ∀ (v' : V) (c0 c1 c2 c3 c4 : Value), Wi B gb v c0 c1 c2 c3 c4 w → Wi B gb v' c0 c1 c2 c3 c4 w → v = v') (Q := fun l => ∀ (l' : List V) (b o : Nat), l.length = l'.length → WL B gb l b o w → WL B gb l' b o w → l = l') ?_ ?_ ?_
  · intro k n s l ks ih v' c0 c1 c2 c3 c4 h h'
    obtain ⟨k', n', s', l', ks'⟩ := v'
    obtain ⟨a0, a1, a2, ⟨A, c, a3, _, a4⟩, a5⟩ := (Wi_iff ..).1 h
    obtain ⟨b0, b1, b2, ⟨A', c', b3, _, b4⟩, b5⟩ := (Wi_iff ..).1 h'
    have e0 := a0.symm.trans b0
    have e1 := a1.symm.trans b1
    have e2 := a2.symm.trans b2
    have e3 := a3.symm.trans b3
    simp only [Value.int.injEq, true_and, Value.string.injEq, Value.slice.injEq] at e0 e1 e2 e3
    have e5 : ks = ks' := Ks_fun a5.ks b5.ks
    have e0 : k = k' := e0
    have e1 : n = n' := e1
    have e2 : s = s' := e2
    obtain ⟨eA, hl, _⟩ := e3
    have hl : l.length = l'.length := hl
    have e4 : l = l' := by
      by_cases hn : l = []
      · subst hn
        exact (List.eq_nil_of_length_eq_zero hl.symm).symm
      · have hn' : l' ≠ [] := fun e => hn (by subst e; exact List.eq_nil_of_length_eq_zero hl)
        obtain ⟨b, o, f1, _, _, k1⟩ := a4 hn
        obtain ⟨b', o', f2, _, _, k2⟩ := b4 hn'
        have e6 := (f1.symm.trans eA).trans f2
        simp only [Option.some.injEq, Addr.mk.injEq] at e6
        obtain ⟨rfl, rfl, _⟩ := e6
        exact ih l' _ _ hl k1 k2
    rw [e0, e1, e2, e4, e5]
  · intro l' b o h _ _
    exact (List.eq_nil_of_length_eq_zero h.symm).symm
  · intro v t h1 h2 l' b o hl g g'
    cases l' with
    | nil => simp at hl
    | cons v' t' =>
      obtain ⟨⟨c0, c1, c2, c3, c4, g0, g1, g2, g3, g4, g5⟩, g6⟩ := (WL_cons ..).1 g
      obtain ⟨⟨d0, d1, d2, d3, d4, k0, k1, k2, k3, k4, k5⟩, k6⟩ := (WL_cons ..).1 g'
      have e0 := Option.some.inj (g0.symm.trans k0)
      have e1 := Option.some.inj (g1.symm.trans k1)
      have e2 := Option.some.inj (g2.symm.trans k2)
      have e3 := Option.some.inj (g3.symm.trans k3)
      have e4 := Option.some.inj (g4.symm.trans k4)
      subst e0 e1 e2 e3 e4
      rw [h1 v' _ _ _ _ _ g5 k5, h2 t' _ _ (by simpa using hl) g6 k6]
/-- What a store of a copied node into its row does. -/
structure Upd (B : Nat) (gb : Nat → Prop) (R i : Nat) (x : V) (w w' : World) : Prop where
  base : B ≤ R
  own : ¬ gb R
  out : ∀ (a : Addr) (u : Value), w.cell? a = some u → (a.block ≠ R ∨ a.off < i * 5 ∨ i * 5 + 5 ≤ a.off) → w'.cell? a = some u
  old : ∃ c0 c1 c2 c3 c4, C5 R (i * 5) c0 c1 c2 c3 c4 w ∧ Wi B gb x c0 c1 c2 c3 c4 w ∧
    ∃ A c s4, C5 R (i * 5) (.int .i64 x.kind) (.int .i64 x.num) (.string x.str) (.slice A x.items.length c) s4 w' ∧ x.items.length ≤ c ∧ Kg gb s4 x.keys w' ∧
      (x.items ≠ [] → ∃ F b o cc, A = some ⟨F, 0, none⟩ ∧ ¬ gb F ∧ c3 = .slice (some ⟨b, o, none⟩) x.items.length cc ∧ ∀ j u, j < x.items.length * 5 → w.cell? ⟨b, o + j, none⟩ = some u → w'.cell? ⟨F, j, none⟩ = some u)
theorem Upd.str {B R i : Nat} {gb : Nat → Prop} {x : V} {w w' : World} (h : Upd B gb R i x w w') {a : Addr} {s : ByteArray} (hs : a.spot = none) (g : w.cell? a = some (.string s)) : w'.cell? a = some (.string s) := by
  by_cases hin : a.block ≠ R ∨ a.off < i * 5 ∨ i * 5 + 5 ≤ a.off
  · exact h.out a _ g hin
  · obtain ⟨c0, c1, c2, c3, c4, hc, hw, A, c, s4, hn, _⟩ := h.old
    obtain ⟨e0, e1, e2, ⟨A3, cc, e3, _⟩, e4⟩ := (Wi_iff ..).1 hw
    obtain ⟨A4, c4', e4, _⟩ := e4.ks.shape
    obtain ⟨b, o, sp⟩ := a
    simp only at hs hin
    subst hs
    have hb : b = R := by omega
    subst hb
    have : o = i * 5 ∨ o = i * 5 + 1 ∨ o = i * 5 + 2 ∨ o = i * 5 + 3 ∨ o = i * 5 + 4 := by omega
    rcases this with rfl | rfl | rfl | rfl | rfl
    · have := g.symm.trans hc.a
      rw [e0] at this
      simp at this
    · have := g.symm.trans hc.b
      rw [e1] at this
      simp at this
    · have := g.symm.trans hc.c
      rw [e2] at this
      simp only [Option.some.injEq, Value.string.injEq] at this
      rw [this]
      exact hn.c
    · have := g.symm.trans hc.d
      rw [e3] at this
      simp at this
    · have := g.symm.trans hc.e
      rw [e4] at this
      simp at this
theorem Upd.kl {B R i : Nat} {gb : Nat → Prop} {x : V} {w w' : World} (h : Upd B gb R i x w w') : ∀ (l : List ByteArray) (b o : Nat), KL l b o w → KL l b o w'
  | [], _, _, _ => trivial
  | _ :: t, b, o, g => ⟨h.str rfl g.1, h.kl t b (o + 1) g.2⟩
theorem Upd.ks {B R i : Nat} {gb : Nat → Prop} {x : V} {w w' : World} (h : Upd B gb R i x w w') {v : Value} {l : List ByteArray} (g : Kg gb v l w) : Kg gb v l w' := by
  obtain ⟨A, c, e, hc, g⟩ := g
  refine ⟨A, c, e, hc, fun hn => ?_⟩
  obtain ⟨b, o, e', hb, g'⟩ := g hn
  exact ⟨b, o, e', hb, h.kl l b o g'⟩
theorem C5_out {B R i : Nat} {gb : Nat → Prop} {x : V} {w w' : World} (h : Upd B gb R i x w w') {b o : Nat} {c0 c1 c2 c3 c4 : Value} (g : C5 b o c0 c1 c2 c3 c4 w) (hg : b < B ∨ (o % 5 = 0 ∧ (b = R → o ≠ i * 5))) : C5 b o c0 c1 c2 c3 c4 w' := by
  have hb := h.base
  have key : b ≠ R ∨ o + 5 ≤ i * 5 ∨ i * 5 + 5 ≤ o := by
    rcases hg with hg | ⟨h1, h2⟩
    · exact .inl (by omega)
    · by_cases e : b = R
      · have := h2 e
        omega
      · exact .inl e
  exact ⟨h.out _ _ g.a (by dsimp only; omega), h.out _ _ g.b (by dsimp only; omega), h.out _ _ g.c (by dsimp only; omega), h.out _ _ g.d (by dsimp only; omega), h.out _ _ g.e (by dsimp only; omega)⟩
/-- All that read as values read the same behind the store. -/
theorem Upd.wi {B R i : Nat} {gb : Nat → Prop} {x : V} {w w' : World} (h : Upd B gb R i x w w') : ∀ (n : Nat) (v : V), nodes v ≤ n → ∀ (c0 c1 c2 c3 c4 : Value), Wi B gb v c0 c1 c2 c3 c4 w → Wi B gb v c0 c1 c2 c3 c4 w'
  | 0, v, hn, _, _, _, _, _, _ => by have := nodes_pos v; omega
  | n + 1, v, hn, c0, c1, c2, c3, c4, g => by
    obtain ⟨h0, h1, h2, ⟨A, c, h3, h3', h4⟩, h5⟩ := (Wi_iff ..).1 g
    refine (Wi_iff ..).2 ⟨h0, h1, h2, ⟨A, c, h3, h3', fun hne => ?_⟩, h.ks h5⟩
    obtain ⟨b, o, e, hg, hgb, gl⟩ := h4 hne
    refine ⟨b, o, e, hg, hgb, WL.of_at B gb _ _ _ _ fun j hj => ?_⟩
    obtain ⟨d0, d1, d2, d3, d4, hd, hw⟩ := WL.at B gb _ _ _ _ gl j hj
    have hnj : nodes v.items[j] + 1 ≤ nodes v := by
      have e1 := nodes_eta v
      have e2 := nodes_mem v.items _ (List.getElem_mem hj)
      omega
    by_cases hwin : b = R ∧ o + j * 5 = i * 5
    · obtain ⟨e0, e1, e2, e3, e4, hc, hx, A', c', s4, hn', hle, hks, hrow⟩ := h.old
      obtain ⟨rfl, ho⟩ := hwin
      rw [ho] at hd ⊢
      have f0 := Option.some.inj (hd.a.symm.trans hc.a)
      have f1 := Option.some.inj (hd.b.symm.trans hc.b)
      have f2 := Option.some.inj (hd.c.symm.trans hc.c)
      have f3 := Option.some.inj (hd.d.symm.trans hc.d)
      have f4 := Option.some.inj (hd.e.symm.trans hc.e)
      subst f0 f1 f2 f3 f4
      have hxv := (Wi_fun B gb w).1 _ _ _ _ _ _ _ hw hx
      rw [hxv] at hnj ⊢
      refine ⟨_, _, _, _, _, hn', (Wi_iff ..).2 ⟨rfl, rfl, rfl, ⟨A', c', rfl, hle, fun hne2 => ?_⟩, hks⟩⟩
      obtain ⟨F, b2, o2, cc, hA, hFg, hc3, hcp⟩ := hrow hne2
      refine ⟨F, 0, hA, .inr rfl, hFg, WL.of_at B gb _ _ _ _ fun m hm => ?_⟩
      obtain ⟨_, _, _, ⟨A3, c3', k3, _, k4⟩, _⟩ := (Wi_iff ..).1 hx
      rw [hc3] at k3
      simp only [Value.slice.injEq] at k3
      obtain ⟨b3, o3, e5, _, _, gx⟩ := k4 hne2
      rw [← k3.1] at e5
      simp only [Option.some.injEq, Addr.mk.injEq] at e5
      obtain ⟨rfl, rfl, _⟩ := e5
      obtain ⟨q0, q1, q2, q3, q4, hq, hwq⟩ := WL.at B gb _ _ _ _ gx m hm
      have hmn : nodes x.items[m] ≤ n := by
        have e1 := nodes_eta x
        have e2 := nodes_mem x.items _ (List.getElem_mem hm)
        omega
      refine ⟨q0, q1, q2, q3, q4, ⟨?_, ?_, ?_, ?_, ?_⟩, h.wi n _ hmn _ _ _ _ _ hwq⟩
      · have := hcp (m * 5) q0 (by omega) hq.a
        simpa using this
      · have := hcp (m * 5 + 1) q1 (by omega) hq.b
        simpa using this
      · have := hcp (m * 5 + 2) q2 (by omega) hq.c
        simpa using this
      · have := hcp (m * 5 + 3) q3 (by omega) hq.d
        simpa using this
      · have := hcp (m * 5 + 4) q4 (by omega) hq.e
        simpa using this
    · refine ⟨d0, d1, d2, d3, d4, C5_out h hd ?_, h.wi n _ (by omega) _ _ _ _ _ hw⟩
      rcases hg with hg | hg
      · exact .inl hg
      · refine .inr ⟨by omega, fun e1 e2 => hwin ⟨e1, e2⟩⟩
theorem Upd.wl {B R i : Nat} {gb : Nat → Prop} {x : V} {w w' : World} (h : Upd B gb R i x w w') {l : List V} {b o : Nat} (hg : b < B ∨ o % 5 = 0) (hb : ¬ gb b) (g : WL B gb l b o w) : WL B gb l b o w' := by
  have hv : Wi B gb ⟨0, 0, ⟨#[]⟩, l, []⟩ (.int .i64 0) (.int .i64 0) (.string ⟨#[]⟩) (.slice (some ⟨b, o, none⟩) l.length l.length) (.slice none 0 0) w :=
    (Wi_iff ..).2 ⟨rfl, rfl, rfl, ⟨_, _, rfl, Nat.le_refl _, fun _ => ⟨b, o, rfl, hg, hb, g⟩⟩, ⟨none, 0, rfl, Nat.le_refl _, fun h => absurd rfl h⟩⟩
  obtain ⟨_, _, _, ⟨A, c, h3, _, h4⟩, _⟩ := (Wi_iff ..).1 (h.wi _ _ (Nat.le_refl _) _ _ _ _ _ hv)
  by_cases he : l = []
  · subst he
    exact WL_nil _ _ _ _ _
  · obtain ⟨b', o', e, _, _, g'⟩ := h4 he
    simp only [Value.slice.injEq] at h3
    rw [← h3.1] at e
    simp only [Option.some.injEq, Addr.mk.injEq] at e
    obtain ⟨rfl, rfl, _⟩ := e
    exact g'

/-- The block gb of slices changes, or another one takes its place. -/
theorem Wi.both_but {w w' : World} {B : Nat} {gb gb' : Nat → Prop} (h : ∀ (a : Addr) (u : Value), w.cell? a = some u → ¬ gb a.block → w'.cell? a = some u ∧ ¬ gb' a.block) :
    (∀ (v : V) (c0 c1 c2 c3 c4 : Value), Wi B gb v c0 c1 c2 c3 c4 w → Wi B gb' v c0 c1 c2 c3 c4 w') ∧ (∀ (l : List V) (b o : Nat), ¬ gb b → WL B gb l b o w → WL B gb' l b o w') := by
  have kl : ∀ (l : List ByteArray) (b o : Nat), ¬ gb b → KL l b o w → KL l b o w' := by
    intro l
    induction l with
    | nil => intro b o _ _; trivial
    | cons x t ih => intro b o hb g; exact ⟨(h _ _ g.1 hb).1, ih b (o + 1) hb g.2⟩
  refine V.both (P := fun v => ∀ (c0 c1 c2 c3 c4 : Value), Wi B gb v c0 c1 c2 c3 c4 w → Wi B gb' v c0 c1 c2 c3 c4 w') (Q := fun l => ∀ (b o : Nat), ¬ gb b → WL B gb l b o w → WL B gb' l b o w') ?_ ?_ ?_
  · intro k n s l ks ih c0 c1 c2 c3 c4 g
    rw [Wi_iff] at g ⊢
    obtain ⟨h0, h1, h2, ⟨A, c, h3, h3', h4⟩, ⟨A', c', h5, h5', h6⟩⟩ := g
    refine ⟨h0, h1, h2, ⟨A, c, h3, h3', fun hn => ?_⟩, ⟨A', c', h5, h5', fun hn => ?_⟩⟩
    · obtain ⟨b, o, e, hg, hb, g⟩ := h4 hn
      refine ⟨b, o, e, hg, ?_, ih b o hb g⟩
      cases l with
      | nil => exact absurd rfl hn
      | cons v t =>
        obtain ⟨⟨c0, c1, c2, c3, c4, g0, _⟩, _⟩ := (WL_cons ..).1 g
        exact (h _ _ g0 hb).2
    · obtain ⟨b, o, e, hb, g⟩ := h6 hn
      refine ⟨b, o, e, ?_, kl _ b o hb g⟩
      cases ks with
      | nil => exact absurd rfl hn
      | cons v t => exact (h _ _ g.1 hb).2
  · intro b o _ _
    exact WL_nil _ _ _ _ _
  · intro v t h1 h2 b o hb g
    rw [WL_cons] at g ⊢
    obtain ⟨⟨c0, c1, c2, c3, c4, g0, g1, g2, g3, g4, g5⟩, g6⟩ := g
    exact ⟨⟨c0, c1, c2, c3, c4, (h _ _ g0 hb).1, (h _ _ g1 hb).1, (h _ _ g2 hb).1, (h _ _ g3 hb).1, (h _ _ g4 hb).1, h1 _ _ _ _ _ g5⟩, h2 _ _ hb g6⟩

end Go.Proofs.YtjmchjphdfbhiaaGreatDoor.val.cp
