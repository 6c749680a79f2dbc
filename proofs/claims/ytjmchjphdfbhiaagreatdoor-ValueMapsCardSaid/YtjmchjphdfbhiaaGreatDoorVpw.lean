/- slices.Clone of keys and of items; Put. -/
import Derived.Test.YtjmchjphdfbhiaaGreatDoorVmx
namespace Go.Proofs.YtjmchjphdfbhiaaGreatDoor.val
open Go.RowKit
open Go.Proofs.YtjmchjphdfbhiaaGreatDoor
theorem cloneK_any (ks : List ByteArray) (A : Option Addr) (c : Nat) (w : World) (h : Ks (.slice A ks.length c) ks w) (hn : ks.length ≤ 1000000) :
    Calls Tryz.prog 54 #[.slice A ks.length c] w fun e w' => ∃ AK cK, e = .returned (.slice AK ks.length cK) ∧ w'.ownsRow w.heap.size 9 1 (.slice AK ks.length cK) ks.length (ks.map .string) ∧ Q w w' := by
  have shape : ∀ (v' : Value) (n : Nat) (xs : List Value) (w' : World), w'.ownsRow w.heap.size 9 1 v' n xs → ∃ AK cK, v' = .slice AK n cK := fun v' n xs w' h => by
    rcases h.2 with ⟨rfl, rfl⟩ | ⟨g, cap, cur, rfl, _⟩
    · exact ⟨_, _, rfl⟩
    · exact ⟨_, _, rfl⟩
  by_cases h0 : ks = []
  · subst h0
    cases A with
    | none =>
      refine (Tryz.slices_Clone_string_nil 0 c w).mono ?_
      rintro e w' ⟨rfl, rfl⟩
      exact ⟨none, 0, rfl, World.ownsRow_nil _ _ _ _, Q.refl _⟩
    | some a =>
      refine (Tryz.slices_Clone_string_zero a c w).mono ?_
      rintro e w' ⟨v', rfl, ho, -, q⟩
      obtain ⟨AK, cK, rfl⟩ := shape _ _ _ _ ho
      exact ⟨AK, cK, rfl, ho, q⟩
  · obtain ⟨A', c', e, hc, g⟩ := h
    simp only [Value.slice.injEq] at e
    obtain ⟨rfl, -, rfl⟩ := e
    obtain ⟨b, o, rfl, hk⟩ := g h0
    refine (Tryz.slices_Clone_string b o ks.length c ks w (Nat.le_refl _) (by omega) (fun j hj => ?_)).mono ?_
    · rw [KL.at ks b o w hk j hj, List.getD_eq_getElem?_getD, List.getElem?_eq_getElem hj]
      rfl
    · rintro e w' ⟨v', rfl, ho, -, q⟩
      rw [List.take_length] at ho
      obtain ⟨AK, cK, rfl⟩ := shape _ _ _ _ ho
      exact ⟨AK, cK, rfl, ho, q⟩
set_option maxRecDepth 100000 in
theorem cloneI_zero (ad : Addr) (c : Nat) (w : World) :
    Calls Tryz.prog 55 #[.slice (some ad) 0 c] w fun e w' => ∃ v', e = .returned v' ∧ w'.ownsRow w.heap.size 26 5 v' 0 [] ∧ Q w w' := by
  obtain ⟨i0, hi, hz0, hz1, hz2⟩ := info_parts info_val
  have q22 : ∀ (w : World) (a : Option Addr) (n c n' c' : Nat), (binOp .eql 23 (.slice a n c) (.slice none n' c')).run Tryz.prog w = .ok (.bool a.isNone) w := fun w a n c n' c' => Lib.run_eql_slice_nil w _ _ a n c n' c' Tryz.underlying23
  go_enter Tryz.func55, Tryz.ntmps55
  go_wp2_with (at_builtin; refine wpList_append_own _ rfl _ _ 23 rfl w.heap.size 26 i0 _ 5 80 Tryz.underlying23 hi hz0 hz1 hz2 rfl (by decide) _ _ _ rfl (World.ownsRow_made w #[] 0 (Nat.le_refl _) (Nat.zero_le _) (by simp)) ad 0 c [] rfl rfl (fun j u h => by simp at h) (fun u h => by simp at h) (by decide) (by decide) (by simp) ?_)
  intro v' w1 hown hgrow hnil
  go_wp2_with fail
  go_ret
  refine ⟨v', rfl, by simpa using hown, ?_⟩
  exact ((Below.refl _ w).alloc (Nat.le_refl _) _).grown hgrow (by simp) (by intro k hk; simp [Value.ownBlock] at hk; omega)
/-- The cells of items at their places. -/
def Laid (F : Nat → Value × Value) (l : List V) (w : World) : Prop := ∀ i (hi : i < l.length), Is (F i).1 l[i].items w ∧ Ks (F i).2 l[i].keys w
theorem cloneI_any (l : List V) (A : Option Addr) (c : Nat) (w0 w : World) (qw : Q w0 w) (h : Is (.slice A l.length c) l w0) (hn : l.length ≤ 1000000) :
    Calls Tryz.prog 55 #[.slice A l.length c] w fun e w' => ∃ AI cI F, e = .returned (.slice AI l.length cI) ∧ w'.ownsRow w.heap.size 26 5 (.slice AI l.length cI) l.length (flat F l (List.range l.length)) ∧ Laid F l w0 ∧ Q w w' := by
  have shape : ∀ (v' : Value) (n : Nat) (xs : List Value) (w' : World), w'.ownsRow w.heap.size 26 5 v' n xs → ∃ AK cK, v' = .slice AK n cK := fun v' n xs w' h => by
    rcases h.2 with ⟨rfl, rfl⟩ | ⟨g, cap, cur, rfl, _⟩
    · exact ⟨_, _, rfl⟩
    · exact ⟨_, _, rfl⟩
  obtain ⟨i0, hi, hz0, hz1, hz2⟩ := info_parts info_val
  by_cases h0 : l = []
  · subst h0
    have hF : Laid (fun _ => (.int .i64 0, .int .i64 0)) [] w0 := fun i hi => absurd hi (Nat.not_lt_zero _)
    cases A with
    | none =>
      have cS := AnyE.slices_Clone_nil Tryz.laysExClone 0 c w
      change Calls Tryz.prog 55 _ _ _ at cS
      refine cS.mono ?_
      rintro e w' ⟨rfl, rfl⟩
      exact ⟨none, 0, _, rfl, World.ownsRow_nil _ _ _ _, hF, Q.refl _⟩
    | some a =>
      refine (cloneI_zero a c w).mono ?_
      rintro e w' ⟨v', rfl, ho, q⟩
      obtain ⟨AK, cK, rfl⟩ := shape _ _ _ _ ho
      exact ⟨AK, cK, _, rfl, ho, hF, q⟩
  · obtain ⟨A', c', e, hc, g⟩ := h
    simp only [Value.slice.injEq] at e
    obtain ⟨rfl, -, rfl⟩ := e
    obtain ⟨b, o, rfl, hV⟩ := g h0
    obtain ⟨F, hF⟩ : ∃ F : Nat → Value × Value, ∀ i (hi : i < l.length), Hd l[i] b (o + i * 5) (F i).1 (F i).2 w0 := by
      have hex : ∀ i, ∃ s : Value × Value, ∀ (hi : i < l.length), Hd l[i] b (o + i * 5) s.1 s.2 w0 := fun i => by
        by_cases hi : i < l.length
        · obtain ⟨s3, s4, h⟩ := VL.at l b o w0 hV i hi
          exact ⟨(s3, s4), fun _ => h⟩
        · exact ⟨(.int .i64 0, .int .i64 0), fun h => absurd h hi⟩
      exact ⟨fun i => (hex i).choose, fun i hi => (hex i).choose_spec hi⟩
    have hlen : ∀ p : List Nat, (flat F l p).length = p.length * 5 := fun p => by
      induction p with
      | nil => rfl
      | cons a t ih =>
        rw [flat, List.length_append, ih, List.length_cons]
        show 5 + _ = _
        omega
    have hcell : ∀ i (hi : i < l.length) j, j < 5 → w.cell? ⟨b, o + (i * 5 + j), none⟩ = (flat F l (List.range l.length))[i * 5 + j]? ∧ ∃ u, (flat F l (List.range l.length))[i * 5 + j]? = some u ∧ u.oneCell' = true := fun i hi j hj => by
      have hd := (hF i hi).stays qw
      have e := flat_at F l (List.range l.length) i (by simpa using hi) j hj
      rw [List.getElem_range, List.getElem?_eq_getElem hi] at e
      rw [e, show o + (i * 5 + j) = o + i * 5 + j by omega]
      obtain ⟨A5, k5, e5, -⟩ := hd.is.shape
      obtain ⟨A6, k6, e6, -⟩ := hd.kk.shape
      have : j = 0 ∨ j = 1 ∨ j = 2 ∨ j = 3 ∨ j = 4 := by omega
      rcases this with rfl | rfl | rfl | rfl | rfl
      · exact ⟨hd.k, _, rfl, rfl⟩
      · exact ⟨hd.n, _, rfl, rfl⟩
      · exact ⟨hd.s, _, rfl, rfl⟩
      · exact ⟨hd.l, (F i).1, rfl, by rw [e5]; rfl⟩
      · exact ⟨hd.ks, (F i).2, rfl, by rw [e6]; rfl⟩
    have hdm : ∀ m, m < l.length * 5 → ∃ i j, m = i * 5 + j ∧ i < l.length ∧ j < 5 := fun m hm => ⟨m / 5, m % 5, by omega, by omega, by omega⟩
    have hl5 : (flat F l (List.range l.length)).length = l.length * 5 := by rw [hlen, List.length_range]
    have cS := AnyE.slices_Clone Tryz.laysExClone i0 _ 5 80 hi hz0 hz1 hz2 rfl (by decide) Tryz.sizeOf26 b o l.length c (flat F l (List.range l.length)) w hl5 (by unfold maxLen; omega) (by omega)
      (fun m u hu => by
        have hm : m < l.length * 5 := by
          have := (List.getElem?_eq_some_iff.1 hu).1
          omega
        obtain ⟨i, j, rfl, hi, hj⟩ := hdm m hm
        rw [(hcell i hi j hj).1]
        exact hu)
      (fun u hu => by
        obtain ⟨m, hm, e⟩ := List.getElem_of_mem hu
        obtain ⟨i, j, rfl, hi, hj⟩ := hdm m (by omega)
        obtain ⟨u', h1, h2⟩ := (hcell i hi j hj).2
        rw [List.getElem?_eq_getElem hm, e] at h1
        rw [Option.some.inj h1]
        exact h2)
    change Calls Tryz.prog 55 _ _ _ at cS
    refine cS.mono ?_
    rintro e w' ⟨v', rfl, ho, -, q⟩
    obtain ⟨AK, cK, rfl⟩ := shape _ _ _ _ ho
    exact ⟨AK, cK, F, rfl, ho, fun i hi => ⟨(hF i hi).is, (hF i hi).kk⟩, q⟩

end Go.Proofs.YtjmchjphdfbhiaaGreatDoor.val

namespace Go.Proofs.YtjmchjphdfbhiaaGreatDoor.val
open Go.RowKit
open Go.Proofs.YtjmchjphdfbhiaaGreatDoor
open Go.Proofs.YtjmchjphdfbhiaaGreatDoor.val.cp (Fit FitL Fit_iff FitL_mem set5 set5_block set5_world set5_at)
theorem own_ks {w : World} {B : Nat} {AK : Option Addr} {n cK : Nat} {ks : List ByteArray} (h : w.ownsRow B 9 1 (.slice AK n cK) n (ks.map .string)) (hn : n = ks.length) : Ks (.slice AK n cK) ks w := by
  subst hn
  rcases h.2 with ⟨e, e0⟩ | ⟨g, cap, cur, e, _, _, hc, _⟩
  · exact ⟨AK, cK, rfl, by rw [e0]; exact Nat.zero_le _, fun hn => absurd (List.length_eq_zero_iff.1 e0) hn⟩
  · simp only [Value.slice.injEq] at e
    obtain ⟨rfl, -, rfl⟩ := e
    refine ⟨_, _, rfl, hc, fun _ => ⟨g, 0, rfl, KL.of_at _ _ _ _ (fun i hi => ?_)⟩⟩
    rw [Nat.zero_add, World.ownsRow.cellAt h i (by omega), List.getElem?_map, List.getElem?_eq_getElem hi]
    rfl
theorem own_low {w : World} {B B' : Nat} {T : TypeId} {z : Nat} {v : Value} {n : Nat} {xs : List Value} (h : w.ownsRow B T z v n xs) (hb : B' ≤ B) : w.ownsRow B' T z v n xs := by
  refine ⟨h.1, ?_⟩
  rcases h.2 with h | ⟨g, cap, cur, e, h1, h2⟩
  · exact .inl h
  · exact .inr ⟨g, cap, cur, e, Nat.le_trans hb h1, h2⟩
/-- Both rows are cloned. -/
structure PS (ks : List ByteArray) (l : List V) (F : Nat → Value × Value) (AK : Option Addr) (n4 cK : Nat) (AI : Option Addr) (n3 cI : Nat) (wc w2 : World) : Prop where
  k : w2.ownsRow wc.heap.size 9 1 (.slice AK n4 cK) n4 (ks.map .string)
  i : w2.ownsRow wc.heap.size 26 5 (.slice AI n3 cI) n3 (flat F l (List.range l.length))
  ne : ∀ g, (Value.slice AK n4 cK).ownBlock = some g → (Value.slice AI n3 cI).ownBlock ≠ some g
  q : Q wc w2
theorem Laid.stays {F : Nat → Value × Value} {l : List V} {w w' : World} (h : Laid F l w) (q : Q w w') : Laid F l w' := fun i hi => ⟨(h i hi).1.stays q, (h i hi).2.stays q⟩
theorem PS.ki {ks : List ByteArray} {l : List V} {F : Nat → Value × Value} {AK : Option Addr} {n4 cK : Nat} {AI : Option Addr} {n3 cI : Nat} {wc wd w1 w2 : World} (q0 : Q wc wd) (h1 : w1.ownsRow wd.heap.size 9 1 (.slice AK n4 cK) n4 (ks.map .string)) (q1 : Q wd w1)
    (h2 : w2.ownsRow w1.heap.size 26 5 (.slice AI n3 cI) n3 (flat F l (List.range l.length))) (q2 : Q w1 w2) : PS ks l F AK n4 cK AI n3 cI wc w2 :=
  ⟨own_low (own_block h1 fun g e => q2.block g (h1.lt g e).2) q0.size, own_low h2 (Nat.le_trans q0.size q1.size), fun g e e' => by
    have a := (h1.lt g e).2
    have b := (h2.lt g e').1
    omega, q0.trans (q1.trans q2)⟩
theorem PS.ik {ks : List ByteArray} {l : List V} {F : Nat → Value × Value} {AK : Option Addr} {n4 cK : Nat} {AI : Option Addr} {n3 cI : Nat} {wc wd w1 w2 : World} (q0 : Q wc wd) (h2 : w1.ownsRow wd.heap.size 26 5 (.slice AI n3 cI) n3 (flat F l (List.range l.length))) (q1 : Q wd w1)
    (h1 : w2.ownsRow w1.heap.size 9 1 (.slice AK n4 cK) n4 (ks.map .string)) (q2 : Q w1 w2) : PS ks l F AK n4 cK AI n3 cI wc w2 :=
  ⟨own_low h1 (Nat.le_trans q0.size q1.size), own_low (own_block h2 fun g e => q2.block g (h2.lt g e).2) q0.size, fun g e e' => by
    have a := (h2.lt g e').2
    have b := (h1.lt g e).1
    omega, q0.trans (q1.trans q2)⟩
theorem PS.quiet {ks : List ByteArray} {l : List V} {F : Nat → Value × Value} {AK : Option Addr} {n4 cK : Nat} {AI : Option Addr} {n3 cI : Nat} {wc w2 w4 : World} (h : PS ks l F AK n4 cK AI n3 cI wc w2) (q : Q w2 w4) : PS ks l F AK n4 cK AI n3 cI wc w4 :=
  ⟨own_block h.k fun g e => q.block g (h.k.lt g e).2, own_block h.i fun g e => q.block g (h.i.lt g e).2, h.ne, h.q.trans q⟩
theorem range_at (n i : Nat) (h : i < (List.range n).length) : (List.range n)[i] = i := List.getElem_range h
/-- The items' cells at a place. -/
theorem PS.c5 {ks : List ByteArray} {l : List V} {F : Nat → Value × Value} {AK : Option Addr} {n4 cK g : Nat} {n3 cI : Nat} {wc w2 : World} (h : PS ks l F AK n4 cK (some ⟨g, 0, none⟩) n3 cI wc w2) (hn : n3 = l.length) {i : Nat} (hi : i < l.length) :
    C5 g (i * 5) (.int .i64 l[i].kind) (.int .i64 l[i].num) (.string l[i].str) (F i).1 (F i).2 w2 := by
  have key : ∀ j, j < 5 → w2.cell? ⟨g, i * 5 + j, none⟩ = (val.c5 l[i] (F i))[j]? := fun j hj => by
    rw [World.ownsRow.cellAt h.i (i * 5 + j) (by omega), flat_at F l _ i (by simpa using hi) j hj, range_at, List.getElem?_eq_getElem hi]
    rfl
  exact ⟨key 0 (by decide), key 1 (by decide), key 2 (by decide), key 3 (by decide), key 4 (by decide)⟩
theorem nodesL_set (x : V) : ∀ (l : List V) (p : Nat), nodesL (l.set p x) ≤ nodesL l + nodes x
  | [], _ => by rw [List.set_nil]; omega
  | v :: t, 0 => by rw [List.set_cons_zero, nodesL, nodesL]; omega
  | v :: t, p + 1 => by
    rw [List.set_cons_succ, nodesL, nodesL]
    have := nodesL_set x t p
    omega
/-- The map with one item stored anew is a value. -/
theorem put_wi {ks : List ByteArray} {l : List V} {F : Nat → Value × Value} {AK : Option Addr} {cK g : Nat} {n cI : Nat} {w wc w4 : World} (h : PS ks l F AK n cK (some ⟨g, 0, none⟩) n cI wc w4) (hk : n = ks.length) (hl : n = l.length) (hla : Laid F l w) (qw : Q w wc) {x : V} {s3 s4 : Value} (h3 : Is s3 x.items w) (h4 : Ks s4 x.keys w) {p : Nat} (hp : p < n)
    {w5 : World} (h5 : set5 w4 g (p * 5) (.int .i64 x.kind) (.int .i64 x.num) (.string x.str) s3 s4 = w5) :
    cp.Wi w5.heap.size (fun b => (w.heap.size ≤ b ∧ b < wc.heap.size) ∨ w5.heap.size ≤ b) ⟨5, 0, ⟨#[]⟩, l.set p x, ks⟩ (.int .i64 5) (.int .i64 0) (.string ⟨#[]⟩) (.slice (some ⟨g, 0, none⟩) n cI) (.slice AK n cK) w5 := by
  have hsz := set5_world w4 g (p * 5) (.int .i64 x.kind) (.int .i64 x.num) (.string x.str) s3 s4
  have hbl := set5_block w4 g (p * 5) (.int .i64 x.kind) (.int .i64 x.num) (.string x.str) s3 s4
  have hat := set5_at (h.c5 hl (i := p) (by omega)) (.int .i64 x.kind) (.int .i64 x.num) (.string x.str) s3 s4
  have hout : ∀ (a : Addr) (u : Value), w4.cell? a = some u → a.block ≠ g ∨ a.off < p * 5 ∨ p * 5 + 5 ≤ a.off → w5.cell? a = some u := fun a u ha hn => by
    rw [← h5]
    exact cp.set5_out w4 g (p * 5) _ _ _ _ _ a u ha hn
  rw [h5] at hsz hbl hat
  have hg := h.i.lt g rfl
  have qww := h.q.size
  have q5 : Q w w5 := ⟨hsz.1.trans (h.q.os.trans qw.os), hsz.2.1.trans (h.q.tape.trans qw.tape), hsz.2.2.1.trans (h.q.output.trans qw.output), by have := qw.size; omega, fun j hj => by
    have := qw.size
    rw [hbl j (by omega), h.q.block j (by omega), qw.block j hj]⟩
  have hvi : ∀ (v : V) (s3 s4 : Value), Is s3 v.items w → Ks s4 v.keys w → cp.Wi w5.heap.size (fun b => (w.heap.size ≤ b ∧ b < wc.heap.size) ∨ w5.heap.size ≤ b) v (.int .i64 v.kind) (.int .i64 v.num) (.string v.str) s3 s4 w5 := fun v s3 s4 h3 h4 => by
    have h := (cp.Vi.both_wi w w5.heap.size q5.size (fun b => (w.heap.size ≤ b ∧ b < wc.heap.size) ∨ w5.heap.size ≤ b) (fun b hb e => by have := q5.size; omega)).1 v _ _ _ _ _ (Vi.of h3 h4)
    exact (cp.Wi.both_stays _ _ q5).1 _ _ _ _ _ _ h
  have hcI : n ≤ cI := by
    rcases h.i.2 with ⟨e, e0⟩ | ⟨g', cap, cur, e, _, _, hc, _⟩
    · cases e
    · simp only [Value.slice.injEq] at e
      omega
  have e3 : Value.slice (some ⟨g, 0, none⟩) n cI = .slice (some ⟨g, 0, none⟩) (l.set p x).length cI := by rw [List.length_set, hl]
  have e4 : Value.slice AK n cK = .slice AK ks.length cK := by rw [hk]
  refine (cp.Wi_iff ..).2 ⟨rfl, rfl, rfl, ⟨_, cI, e3, by show (l.set p x).length ≤ cI; rw [List.length_set]; omega, fun _ => ⟨g, 0, rfl, .inl (by omega), fun e => by omega, cp.WL.of_at _ _ _ _ _ _ (fun i hi => ?_)⟩⟩, ⟨AK, cK, e4, ?_, fun hn => ?_⟩⟩
  · have hi2 : i < (l.set p x).length := hi
    have hil : i < l.length := by rw [List.length_set] at hi2; exact hi2
    show ∃ c0 c1 c2 c3 c4, _ ∧ cp.Wi _ _ ((l.set p x)[i]'hi2) c0 c1 c2 c3 c4 _
    rw [Nat.zero_add]
    by_cases e : p = i
    · subst e
      rw [List.getElem_set_self]
      exact ⟨_, _, _, _, _, hat, hvi x s3 s4 h3 h4⟩
    · rw [List.getElem_set_ne e]
      have c := h.c5 hl hil
      have hne : i * 5 + 4 < p * 5 ∨ p * 5 + 5 ≤ i * 5 := by omega
      exact ⟨_, _, _, _, _, ⟨hout _ _ c.a (.inr (by show i * 5 < _ ∨ _ ≤ i * 5; omega)), hout _ _ c.b (.inr (by show i * 5 + 1 < _ ∨ _ ≤ i * 5 + 1; omega)), hout _ _ c.c (.inr (by show i * 5 + 2 < _ ∨ _ ≤ i * 5 + 2; omega)), hout _ _ c.d (.inr (by show i * 5 + 3 < _ ∨ _ ≤ i * 5 + 3; omega)), hout _ _ c.e (.inr (by show i * 5 + 4 < _ ∨ _ ≤ i * 5 + 4; omega))⟩, hvi _ _ _ (hla i hil).1 (hla i hil).2⟩
  · show ks.length ≤ cK
    rcases h.k.2 with ⟨e, e0⟩ | ⟨g', cap, cur, e, _, _, hc, _⟩
    · omega
    · simp only [Value.slice.injEq] at e
      omega
  · rcases h.k.2 with ⟨e, e0⟩ | ⟨g', cap, cur, e, _, _, hc, _⟩
    · exact absurd (List.length_eq_zero_iff.1 (by show ks.length = 0; omega)) hn
    · simp only [Value.slice.injEq] at e
      obtain ⟨rfl, -, rfl⟩ := e
      have hb := h.k.lt g' rfl
      have hne := h.ne g' rfl
      refine ⟨g', 0, rfl, fun e => by omega, KL.of_at _ _ _ _ (fun i hi => ?_)⟩
      have hi2 : i < ks.length := hi
      refine hout _ _ ?_ (.inl (fun e => hne (by rw [show g = g' from e.symm]; rfl)))
      rw [Nat.zero_add, World.ownsRow.cellAt h.k i (by omega), List.getElem?_map, List.getElem?_eq_getElem hi2]
      rfl
/-- What Put hands back. -/
def Putted (v : V) (key : ByteArray) (x : V) (w : World) (e : Ending) (w' : World) : Prop :=
  Q w w' ∧ if v.kind = 5 ∧ v.keys.length = v.items.length then ∃ s3 s4, e = .returned (.agg #[.int .i64 5, .int .i64 0, .string ⟨#[]⟩, s3, s4]) ∧ Is s3 ((putP (v.keys.zip v.items) key x).map (fun b => b.2)) w' ∧ Ks s4 ((putP (v.keys.zip v.items) key x).map (fun b => b.1)) w'
  else e = .returned (.agg #[.int .i64 0, .int .i64 0, .string ⟨#[]⟩, .slice none 0 0, .slice none 0 0])
set_option maxHeartbeats 8000000 in
set_option maxRecDepth 100000 in
theorem put_some (vk vn : Int) (vs : ByteArray) (ks : List ByteArray) (l : List V) (key : ByteArray) (x : V) (A3 A4 X3 X4 : Option Addr) (k3 k4 x3 x4 : Nat) (w : World) (h3 : Is (.slice A3 l.length k3) l w) (h4 : Ks (.slice A4 ks.length k4) ks w) (hx3 : Is (.slice X3 x.items.length x3) x.items w) (hx4 : Ks (.slice X4 x.keys.length x4) x.keys w)
    (hs : srt ks) (hf : FitL l) (hfk : ∀ k ∈ ks, k.size ≤ 281474976710656) (hfx : Fit x) (hn : nodesL l ≤ 100000) (hnx : nodes x ≤ 100000) (hlen : ks.length = l.length) (hn4 : ks.length ≤ 100000) (hfd : fnd ks key = true) (h5 : vk = 5) :
    Calls Tryz.prog 31 #[.agg #[.int .i64 vk, .int .i64 vn, .string vs, .slice A3 l.length k3, .slice A4 ks.length k4], .string key, .agg #[.int .i64 x.kind, .int .i64 x.num, .string x.str, .slice X3 x.items.length x3, .slice X4 x.keys.length x4]] w (Putted ⟨vk, vn, vs, l, ks⟩ key x w) := by
  have cM : Hid (∀ w' : World, Calls Tryz.prog 53 #[.agg #[.int .i64 vk, .int .i64 vn, .string vs, .slice A3 l.length k3, .slice A4 ks.length k4]] w' fun e w'' => e = .returned (.bool true) ∧ Q w' w'') := Lib.hid (fun w' => by
    have h := isMap_any vk vn vs A3 A4 l.length ks.length k3 k4 w'
    rw [decide_eq_true ⟨h5, hlen⟩] at h
    exact h)
  obtain ⟨p, hp⟩ : ∃ p, pl ks key = p := ⟨_, rfl⟩
  have hpl : p < ks.length := by rw [← hp]; exact (fnd_at hfd).1
  have cK := Lib.hid (fun w' (q : Q w w') => cloneK_any ks A4 k4 w' (h4.stays q) (by omega))
  have cI := Lib.hid (fun w' (q : Q w w') => cloneI_any l A3 k3 w w' q h3 (by omega))
  have cS : Hid (∀ (AK : Option Addr) (cK : Nat) (w' : World), Ks (.slice AK ks.length cK) ks w' → Calls Tryz.prog 52 #[.slice AK ks.length cK, .string key] w' fun e w'' => e = .returned (.tuple #[.int .i64 (p : Nat), .bool true]) ∧ Q w' w'') := Lib.hid (fun AK cK w' h => by
    have h := search_any ks hs AK cK key w' h (by omega)
    rw [hp, hfd] at h
    exact h)
  obtain ⟨n, hnn⟩ : ∃ n, ks.length = n := ⟨_, rfl⟩
  have HR : Hid (∀ e w', Q w w' → (∃ s3 s4, e = .returned (.agg #[.int .i64 5, .int .i64 0, .string ⟨#[]⟩, s3, s4]) ∧ Is s3 (l.set p x) w' ∧ Ks s4 ks w') → Putted ⟨vk, vn, vs, l, ks⟩ key x w e w') := Lib.hid (fun e w' q h => by
    refine ⟨q, ?_⟩
    rw [if_pos ⟨h5, hlen⟩]
    obtain ⟨s3, s4, he, h1, h2⟩ := h
    have hz := put_pl key x ks l hs hlen
    rw [hfd, if_pos rfl, hp] at hz
    refine ⟨s3, s4, he, ?_, ?_⟩
    · show Is s3 ((putP (ks.zip l) key x).map (fun b => b.2)) w'
      rw [hz, List.map_snd_zip (by rw [List.length_set]; omega)]
      exact h1
    · show Ks s4 ((putP (ks.zip l) key x).map (fun b => b.1)) w'
      rw [hz, List.map_fst_zip (by rw [List.length_set]; omega)]
      exact h2)
  have HN := Lib.hid (show ks.length = n ∧ l.length = n ∧ p < n ∧ n ≤ 100000 ∧ nodesL l ≤ 100000 ∧ nodes x ≤ 100000 from ⟨hnn, by omega, by omega, by omega, hn, hnx⟩)
  have HX := Lib.hid (show Is (.slice X3 x.items.length x3) x.items w ∧ Ks (.slice X4 x.keys.length x4) x.keys w from ⟨hx3, hx4⟩)
  have HFIT := Lib.hid (show FitL l ∧ (∀ k ∈ ks, k.size ≤ 281474976710656) ∧ Fit x from ⟨hf, hfk, hfx⟩)
  rw [← hlen] at cM cI ⊢
  rw [hnn] at cM cI cK cS ⊢
  obtain ⟨xk, hxk⟩ : ∃ a, x.kind = a := ⟨_, rfl⟩
  obtain ⟨xn, hxn⟩ : ∃ a, x.num = a := ⟨_, rfl⟩
  obtain ⟨xs, hxs⟩ : ∃ a, x.str = a := ⟨_, rfl⟩
  obtain ⟨n5, hn5⟩ : ∃ a, x.items.length = a := ⟨_, rfl⟩
  obtain ⟨n6, hn6⟩ : ∃ a, x.keys.length = a := ⟨_, rfl⟩
  rw [hxk, hxn, hxs, hn5, hn6]
  have HXE := Lib.hid (show x.kind = xk ∧ x.num = xn ∧ x.str = xs ∧ x.items.length = n5 ∧ x.keys.length = n6 from ⟨hxk, hxn, hxs, hn5, hn6⟩)
  clear h3 h4 hx3 hx4 hs hf hfk hfx hn hnx hlen hn4 hfd h5 hp hpl hnn hxk hxn hxs hn5 hn6
  obtain ⟨wa, hwa⟩ : ∃ wa, w.alloc (.cells #[.int .i64 vk, .int .i64 vn, .string vs, .slice A3 n k3, .slice A4 n k4] 26) = wa := ⟨_, rfl⟩
  obtain ⟨wb, hwb⟩ : ∃ wb, wa.alloc (.cells #[.int .i64 xk, .int .i64 xn, .string xs, .slice X3 n5 x3, .slice X4 n6 x4] 26) = wb := ⟨_, rfl⟩
  obtain ⟨wc, hwc⟩ : ∃ wc, wb.alloc (.cells #[.int .i64 0, .int .i64 0, .string ⟨#[]⟩, .slice none 0 0, .slice none 0 0] 26) = wc := ⟨_, rfl⟩
  obtain ⟨B, hB⟩ : ∃ B, w.heap.size = B := ⟨_, rfl⟩
  obtain ⟨C, hC⟩ : ∃ C, wa.heap.size = C := ⟨_, rfl⟩
  obtain ⟨P, hP⟩ : ∃ P, wb.heap.size = P := ⟨_, rfl⟩
  have qa : Q w wa := by rw [← hwa]; exact Q.box _ _
  have qb : Q wa wb := by rw [← hwb]; exact Q.box _ _
  have qc : Q wb wc := by rw [← hwc]; exact Q.box _ _
  have bB : Bk B #[.int .i64 vk, .int .i64 vn, .string vs, .slice A3 n k3, .slice A4 n k4] 26 wc := by
    have h : Bk B #[.int .i64 vk, .int .i64 vn, .string vs, .slice A3 n k3, .slice A4 n k4] 26 wa := by rw [← hwa, ← hB]; exact Bk.new _ _ _
    exact h.stays (qb.trans qc)
  have bC : Bk C #[.int .i64 xk, .int .i64 xn, .string xs, .slice X3 n5 x3, .slice X4 n6 x4] 26 wc := by
    have h : Bk C #[.int .i64 xk, .int .i64 xn, .string xs, .slice X3 n5 x3, .slice X4 n6 x4] 26 wb := by rw [← hwb, ← hC]; exact Bk.new _ _ _
    exact h.stays qc
  have bP : Bk P #[.int .i64 0, .int .i64 0, .string ⟨#[]⟩, .slice none 0 0, .slice none 0 0] 26 wc := by rw [← hwc, ← hP]; exact Bk.new _ _ _
  have b0 := bB.at 0 _ rfl
  have b1 := bB.at 1 _ rfl
  have b2 := bB.at 2 _ rfl
  have b3 := bB.at 3 _ rfl
  have b4 := bB.at 4 _ rfl
  have QC := Lib.hid ((qa.trans qb).trans qc)
  have BB := Lib.hid bB
  have BC := Lib.hid bC
  have BP := Lib.hid bP
  have QBC := Lib.hid qc
  have QAB := Lib.hid (qa.trans qb)
  have HSZ := Lib.hid (show B = w.heap.size ∧ C = B + 1 ∧ P = B + 2 ∧ wc.heap.size = B + 3 by
    rw [← hP, ← hC, ← hB, ← hwc, size_alloc, ← hwb, size_alloc, ← hwa, size_alloc]
    omega)
  clear qa qb qc bB bC bP
  go_enter Tryz.func31, Tryz.ntmps31
  go_wp2_with fail
  refine (cM.out _).mono ?_
  rintro e w1 ⟨rfl, q1⟩
  have d3 := (BB.out.stays q1).at 3 _ rfl
  have d4 := (BB.out.stays q1).at 4 _ rfl
  have Q1 := Lib.hid (QC.out.trans q1)
  have QC1 := Lib.hid q1
  clear b0 b1 b2 b3 b4 hwa hwb hwc q1
  go_wp2_with fail
  have QD := Lib.hid (show Q w1 w1.drew from Q.drewN w1 1)
  have sees : Hid (∀ w', Q w1 w' → w'.cell? ⟨B, 3, none⟩ = some (.slice A3 n k3) ∧ w'.cell? ⟨B, 4, none⟩ = some (.slice A4 n k4)) := Lib.hid (fun w' q => ⟨cell_stays q d3, cell_stays q d4⟩)
  refine Go.wp_region_held_drew (S := fun w' => w'.cell? ⟨B, 3, none⟩ = some (.slice A3 n k3) ∧ w'.cell? ⟨B, 4, none⟩ = some (.slice A4 n k4)) (by kernel_rfl) (sees.out _ QD.out) (fun hHeld => ?_)
  refine Go.wpAnyH_take (i := 0) (oi := _) (v := ?_) rfl (by kernel_rfl) (by kernel_rfl) (by kernel_rfl) (fun _ _ _ h => h) (Or.inl ⟨by rfl, ?_⟩) (by assumption) ?_
  rotate_left 1
  · intro wx hSw
    go_simp <;> with_reducible rfl
  simp only [Act.put, List.getElem_toArray, List.getElem_cons_zero, List.setIfInBounds_toArray, List.set_cons_zero, List.set_cons_succ]
  refine Go.wpAnyH_take (i := 1) (oi := _) (v := ?_) rfl (by kernel_rfl) (by kernel_rfl) (by kernel_rfl) (fun _ _ _ h => h) (Or.inl ⟨by rfl, ?_⟩) (by assumption) ?_
  rotate_left 1
  · intro wx hSw
    go_simp <;> with_reducible rfl
  simp only [Act.put, List.getElem_toArray, List.getElem_cons_zero, List.getElem_cons_succ, List.setIfInBounds_toArray, List.set_cons_zero, List.set_cons_succ]
  refine Go.wpAnyH_take (i := 3) (oi := _) (v := ?_) rfl (by kernel_rfl) (by kernel_rfl) (by kernel_rfl) (fun _ _ _ h => h) (Or.inl ⟨by rfl, ?_⟩) (by assumption) ?_
  rotate_left 1
  · intro wx hSw
    go_simp <;> with_reducible rfl
  simp only [Act.put, List.getElem_toArray, List.getElem_cons_zero, List.getElem_cons_succ, List.setIfInBounds_toArray, List.set_cons_zero, List.set_cons_succ]
  refine Go.wpAnyH_take (i := 4) (oi := _) (v := ?_) rfl (by kernel_rfl) (by kernel_rfl) (by kernel_rfl) (fun _ _ _ h => h) (Or.inl ⟨by rfl, ?_⟩) (by assumption) ?_
  rotate_left 1
  · intro wx hSw
    go_simp <;> with_reducible rfl
  simp only [Act.put, List.getElem_toArray, List.getElem_cons_zero, List.getElem_cons_succ, List.setIfInBounds_toArray, List.set_cons_zero, List.set_cons_succ]
  refine Go.wpAnyH_ready (rs := [2]) (by kernel_rfl) (by simp) ?_
  refine Go.AllReadyH.cons rfl (fun K hK => ?_) Go.AllReadyH.nil
  rw [if_pos (by rfl)]
  go_simp
  refine (cK.out _ (Q1.out.trans QD.out)).mono ?_
  rintro e w2 ⟨AK, cK', rfl, hoK, q2⟩
  refine hK.out _ _ (sees.out _ (QD.out.trans q2)) (fun hHeld => ?_)
  clear hK K
  refine Go.wpAnyH_ready (rs := [5]) (by kernel_rfl) (by simp) ?_
  refine Go.AllReadyH.cons rfl (fun K hK => ?_) Go.AllReadyH.nil
  rw [if_pos (by rfl)]
  go_simp
  refine (cI.out _ ((Q1.out.trans QD.out).trans q2)).mono ?_
  rintro e w3 ⟨AI, cI', F, rfl, hoI, hla, q3⟩
  refine hK.out _ _ (sees.out _ ((QD.out.trans q2).trans q3)) (fun hHeld => ?_)
  clear hK K
  refine Go.wpAnyH_take (i := 6) (oi := _) (v := ?_) rfl (by kernel_rfl) (by kernel_rfl) (by kernel_rfl) (fun _ _ _ h => h) (Or.inl ⟨by rfl, ?_⟩) (by assumption) ?_
  rotate_left 1
  · intro wx hSw
    go_simp <;> with_reducible rfl
  simp only [Act.put, List.getElem_toArray, List.getElem_cons_zero, List.getElem_cons_succ, List.setIfInBounds_toArray, List.set_cons_zero, List.set_cons_succ]
  refine Go.wpAnyH_take (i := 7) (oi := _) (v := ?_) rfl (by kernel_rfl) (by kernel_rfl) (by kernel_rfl) (fun _ _ _ h => h) (Or.inl ⟨by rfl, ?_⟩) (by assumption) ?_
  rotate_left 1
  · intro wx hSw
    go_simp <;> with_reducible rfl
  simp only [Act.put, List.getElem_toArray, List.getElem_cons_zero, List.getElem_cons_succ, List.setIfInBounds_toArray, List.set_cons_zero, List.set_cons_succ]
  refine Go.wpAnyH_done (by kernel_rfl) ?_ _
  have PSS : Hid (PS ks l F AK n cK' AI n cI' w1 w3) := Lib.hid (PS.ki (wd := w1.drew) QD.out hoK q2 (by have h := hoI; rw [HN.out.2.1]; exact h) q3)
  have LA : Hid (Laid F l w) := Lib.hid hla
  clear hoK hoI hla q2 q3 hHeld d3 d4 sees
  have hks : Ks (.slice AK n cK') ks w3 := own_ks PSS.out.k HN.out.1.symm
  have cS2 := Lib.hid (cS.out AK cK' w3 hks)
  clear hks
  go_wp2_with fail
  refine (cS2.out).mono ?_
  rintro e w4 ⟨rfl, q4⟩
  obtain ⟨g, rfl⟩ : ∃ g, AI = some ⟨g, 0, none⟩ := by
    rcases PSS.out.i.2 with ⟨e, e0⟩ | ⟨g, cap, cur, e, _⟩
    · have := HN.out
      omega
    · simp only [Value.slice.injEq] at e
      exact ⟨g, e.1⟩
  have PS4 := PSS.out.quiet q4
  have hg := PS4.i.lt g rfl
  have hpl : p < l.length := by have := HN.out; omega
  have hc := PS4.c5 HN.out.2.1.symm hpl
  obtain ⟨lc0, c0⟩ : ∃ d, w4.cell? ⟨g, p * 5, none⟩ = some d := ⟨_, hc.a⟩
  obtain ⟨lc1, c1⟩ : ∃ d, w4.cell? ⟨g, p * 5 + 1, none⟩ = some d := ⟨_, hc.b⟩
  obtain ⟨lc2, c2⟩ : ∃ d, w4.cell? ⟨g, p * 5 + 2, none⟩ = some d := ⟨_, hc.c⟩
  obtain ⟨lc3, c3⟩ : ∃ d, w4.cell? ⟨g, p * 5 + 3, none⟩ = some d := ⟨_, hc.d⟩
  obtain ⟨lc4, c4⟩ : ∃ d, w4.cell? ⟨g, p * 5 + 4, none⟩ = some d := ⟨_, hc.e⟩
  have g0 := World.ownsRow.frozenAt PS4.i (p * 5)
  have g1 := World.ownsRow.frozenAt PS4.i (p * 5 + 1)
  have g2 := World.ownsRow.frozenAt PS4.i (p * 5 + 2)
  have g3 := World.ownsRow.frozenAt PS4.i (p * 5 + 3)
  have g4 := World.ownsRow.frozenAt PS4.i (p * 5 + 4)
  have bC4 := BC.out.stays ((QC1.out.trans PSS.out.q).trans q4)
  have bP4 := BP.out.stays ((QC1.out.trans PSS.out.q).trans q4)
  have y0 := bC4.at 0 _ rfl
  have y1 := bC4.at 1 _ rfl
  have y2 := bC4.at 2 _ rfl
  have y3 := bC4.at 3 _ rfl
  have y4 := bC4.at 4 _ rfl
  have hx3 : Is (.slice X3 n5 x3) x.items w := by rw [← HXE.out.2.2.2.1]; exact HX.out.1
  have hx4 : Ks (.slice X4 n6 x4) x.keys w := by rw [← HXE.out.2.2.2.2]; exact HX.out.2
  have hsz := set5_world w4 g (p * 5) (.int .i64 xk) (.int .i64 xn) (.string xs) (.slice X3 n5 x3) (.slice X4 n6 x4)
  have hbl := set5_block w4 g (p * 5) (.int .i64 xk) (.int .i64 xn) (.string xs) (.slice X3 n5 x3) (.slice X4 n6 x4)
  obtain ⟨w5, hw5⟩ : ∃ w5, set5 w4 g (p * 5) (.int .i64 xk) (.int .i64 xn) (.string xs) (.slice X3 n5 x3) (.slice X4 n6 x4) = w5 := ⟨_, rfl⟩
  have hW := put_wi (x := x) PS4 HN.out.1.symm HN.out.2.1.symm LA.out Q1.out hx3 hx4 HN.out.2.2.1 (w5 := w5) (by rw [HXE.out.1, HXE.out.2.1, HXE.out.2.2.1]; exact hw5)
  rw [hw5] at hsz hbl
  have hw1s : w1.heap.size ≥ w.heap.size + 3 := by have h1 := QC1.out.size; have h2 := HSZ.out; omega
  have bP5 : Bk P #[.int .i64 0, .int .i64 0, .string ⟨#[]⟩, .slice none 0 0, .slice none 0 0] 26 w5 := (hbl P (by have := HSZ.out; omega)).trans bP4
  have q5 : Q w w5 := ⟨hsz.1.trans (PS4.q.os.trans Q1.out.os), hsz.2.1.trans (PS4.q.tape.trans Q1.out.tape), hsz.2.2.1.trans (PS4.q.output.trans Q1.out.output), by have h1 := PS4.q.size; omega, fun j hj => by
    rw [hbl j (by omega), PS4.q.block j (by omega), Q1.out.block j hj]⟩
  have hfit : Fit ⟨5, 0, ⟨#[]⟩, l.set p x, ks⟩ := by
    refine (Fit_iff _).2 ⟨by show 0 ≤ _; omega, HFIT.out.2.1, ?_, ?_, ?_⟩
    · show (l.set p x).length ≤ _
      rw [List.length_set]
      have := HN.out
      omega
    · have := HN.out
      show ks.length ≤ _
      omega
    · refine (FitL_mem _).2 (fun y hy => ?_)
      rcases List.mem_or_eq_of_mem_set hy with h | h
      · exact (FitL_mem _).1 HFIT.out.1 y h
      · rw [h]
        exact HFIT.out.2.2
  have hnod : nodesL (l.set p x) ≤ nodesL l + nodes x := nodesL_set x l p
  have hn8 := HN.out.2.2.2.2
  have cC := Lib.hid (copy_gmk 5 0 ⟨#[]⟩ (l.set p x) ks (some ⟨g, 0, none⟩) AK cI' cK' n n 262144 (by rw [List.length_set]; exact HN.out.2.1.symm) HN.out.1.symm w5 (fun b => w.heap.size ≤ b ∧ b < w1.heap.size) hW hfit (by omega) (by omega) (by omega))
  have HW5 := Lib.hid (show w1.heap.size ≤ w5.heap.size ∧ w.heap.size + 3 ≤ w1.heap.size from ⟨by have h1 := PS4.q.size; omega, hw1s⟩)
  have BP5 := Lib.hid bP5
  have Q5 := Lib.hid q5
  have hpn : (p : Int) < (n : Int) := by have := HN.out; omega
  have hnb : (n : Int) ≤ 100000 := by have := HN.out; omega
  unfold set5 at hw5
  clear PS4 hg hpl hc bC4 bP4 hx3 hx4 hsz hbl hW hw1s bP5 q5 hfit hnod hn8 q4
  go_wp2_with fail
  refine (cC.out).mono ?_
  rintro e w6 ⟨B3, d3, B4, d4, rfl, hI, q6⟩
  have z3 := BP5.out.stays q6
  have u0 := z3.at 0 _ rfl
  have u1 := z3.at 1 _ rfl
  have u2 := z3.at 2 _ rfl
  have u3 := z3.at 3 _ rfl
  have u4 := z3.at 4 _ rfl
  have f0 := z3.frozen 0
  have f1 := z3.frozen 1
  have f2 := z3.frozen 2
  have f3 := z3.frozen 3
  have f4 := z3.frozen 4
  have hPw : P = w.heap.size + 2 := by have := HSZ.out; omega
  have hset := set5_world w6 P 0 (.int .i64 5) (.int .i64 0) (.string ⟨#[]⟩) (.slice B3 n d3) (.slice B4 n d4)
  have hsetb := set5_block w6 P 0 (.int .i64 5) (.int .i64 0) (.string ⟨#[]⟩) (.slice B3 n d3) (.slice B4 n d4)
  have bf : Bk P #[.int .i64 5, .int .i64 0, .string ⟨#[]⟩, .slice B3 n d3, .slice B4 n d4] 26 (set5 w6 P 0 (.int .i64 5) (.int .i64 0) (.string ⟨#[]⟩) (.slice B3 n d3) (.slice B4 n d4)) := ((((z3.set 0 (.int .i64 5)).set 1 (.int .i64 0)).set 2 (.string ⟨#[]⟩)).set 3 (.slice B3 n d3)).set 4 (.slice B4 n d4)
  have hfin := hI (set5 w6 P 0 (.int .i64 5) (.int .i64 0) (.string ⟨#[]⟩) (.slice B3 n d3) (.slice B4 n d4)) (fun j _ hj => hsetb j (fun e => by
    have h1 := HW5.out
    rcases hj with hj | hj
    · exact hj ⟨by omega, by omega⟩
    · omega))
  obtain ⟨wf, hwf⟩ : ∃ wf, set5 w6 P 0 (.int .i64 5) (.int .i64 0) (.string ⟨#[]⟩) (.slice B3 n d3) (.slice B4 n d4) = wf := ⟨_, rfl⟩
  rw [hwf] at hset hsetb bf hfin
  have q7 : Q w wf := ⟨hset.1.trans (q6.os.trans Q5.out.os), hset.2.1.trans (q6.tape.trans Q5.out.tape), hset.2.2.1.trans (q6.output.trans Q5.out.output), by have h1 := q6.size; have h2 := Q5.out.size; omega, fun j hj => by
    rw [hsetb j (by omega), q6.block j (by have h2 := Q5.out.size; omega), Q5.out.block j hj]⟩
  unfold set5 at hwf
  simp only [Nat.zero_add] at hwf
  have r0 := bf.at 0 _ rfl
  have r1 := bf.at 1 _ rfl
  have r2 := bf.at 2 _ rfl
  have r3 := bf.at 3 _ rfl
  have r4 := bf.at 4 _ rfl
  have Q7 := Lib.hid q7
  have HFI := Lib.hid hfin
  clear bf z3 hI hfin q6 q7 hset hsetb hPw y0 y1 y2 y3 y4 c0 c1 c2 c3 c4 g0 g1 g2 g3 g4 hw5
  go_wp2_with fail
  refine bodyPost_ret (by simp [results, Tryz.results31, go_sem, r0, r1, r2, r3, r4]; try rfl) rfl ?_
  exact HR.out _ _ Q7.out ⟨_, _, rfl, HFI.out.1, HFI.out.2⟩

end Go.Proofs.YtjmchjphdfbhiaaGreatDoor.val
