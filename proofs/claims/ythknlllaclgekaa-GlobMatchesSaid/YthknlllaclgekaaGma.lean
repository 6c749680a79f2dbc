/- Plain facts on the matching loop: what it knows at each round (Mid), why no earlier group need take more, and its measure. -/
import Derived.Test.YthknlllaclgekaaGpl
namespace Go.Proofs.Ythknlllaclgekaa.glo
/-! A text's ends that a group may leave. -/
/-- r' is an end of r; what lies ahead of it bears no dot, unless any bytes may lie there. -/
def reach (any : Bool) (r r' : List UInt8) : Prop := ∃ x, r = x ++ r' ∧ (any = true ∨ ∀ c ∈ x, c ≠ 46)
theorem reach_refl (any : Bool) (r : List UInt8) : reach any r r := ⟨[], rfl, .inr fun c hc => by cases hc⟩
theorem reach_trans {any : Bool} {a b c : List UInt8} (h : reach any a b) (h2 : reach any b c) : reach any a c := by
  obtain ⟨x, rfl, hx⟩ := h
  obtain ⟨y, rfl, hy⟩ := h2
  refine ⟨x ++ y, by rw [List.append_assoc], ?_⟩
  rcases hx with hx | hx
  · exact .inl hx
  rcases hy with hy | hy
  · exact .inl hy
  refine .inr fun c hc => ?_
  rcases List.mem_append.1 hc with hc | hc
  · exact hx c hc
  · exact hy c hc
theorem reach_any {any : Bool} {a b : List UInt8} (h : reach false a b) : reach any a b := by
  obtain ⟨x, e, hx⟩ := h
  rcases hx with hx | hx
  · cases hx
  · exact ⟨x, e, .inr hx⟩
theorem reach_next {any : Bool} {c : UInt8} {t r : List UInt8} (h : reach any (c :: t) r) : r = c :: t ∨ (reach any t r ∧ (any = true ∨ c ≠ 46)) := by
  obtain ⟨x, e, hx⟩ := h
  cases x with
  | nil => exact .inl e.symm
  | cons d x =>
    simp only [List.cons_append, List.cons.injEq] at e
    obtain ⟨rfl, rfl⟩ := e
    rcases hx with hx | hx
    · exact .inr ⟨⟨x, rfl, .inl hx⟩, .inl hx⟩
    · exact .inr ⟨⟨x, rfl, .inr fun d hd => hx d (by simp [hd])⟩, .inr (hx c (by simp))⟩
theorem reach_cons {any : Bool} {c : UInt8} {t r : List UInt8} (h : reach any t r) (hc : any = true ∨ c ≠ 46) : reach any (c :: t) r := by
  obtain ⟨x, rfl, hx⟩ := h
  refine ⟨c :: x, rfl, ?_⟩
  rcases hc with hc | hc
  · exact .inl hc
  rcases hx with hx | hx
  · exact .inl hx
  refine .inr fun d hd => ?_
  rcases List.mem_cons.1 hd with rfl | hd
  · exact hc
  · exact hx d hd
theorem reach_nil {any : Bool} {r : List UInt8} (h : reach any [] r) : r = [] := by
  obtain ⟨x, e, _⟩ := h
  exact (List.append_eq_nil_iff.1 e.symm).2
/-- A group of one stops at a dot and at the end. -/
def stuck (r : List UInt8) : Prop := ∀ c t, r = c :: t → c = 46
theorem reach_stuck {r r' : List UInt8} (hs : stuck r) (h : reach false r r') : r' = r := by
  cases r with
  | nil => exact reach_nil h
  | cons c t =>
    rcases reach_next h with h | ⟨_, h | h⟩
    · exact h
    · cases h
    · exact absurd (hs c t rfl) h
theorem mt_star (ps : List Part) (s : List UInt8) : mt (.star :: ps) s ↔ ∃ s', reach false s s' ∧ mt ps s' := by
  constructor
  · rintro ⟨x, y, rfl, hx, hy⟩
    exact ⟨y, ⟨x, rfl, .inr hx⟩, hy⟩
  · rintro ⟨y, ⟨x, rfl, hx⟩, hy⟩
    rcases hx with hx | hx
    · cases hx
    · exact ⟨x, y, rfl, hx, hy⟩
theorem mt_star2 (ps : List Part) (s : List UInt8) : mt (.star2 :: ps) s ↔ ∃ s', reach true s s' ∧ mt ps s' := by
  constructor
  · rintro ⟨x, y, rfl, _, hy⟩
    exact ⟨y, ⟨x, rfl, .inl rfl⟩, hy⟩
  · rintro ⟨y, ⟨x, rfl, _⟩, hy⟩
    exact ⟨x, y, rfl, trivial, hy⟩

/-- Whatever end of r is matched by b, some end of s is matched by p. -/
def leads (any : Bool) (b r p s : List UInt8) : Prop := ∀ r', reach any r r' → mt (parts b) r' → ∃ s', reach any s s' ∧ mt (parts p) s'
theorem leads_refl (any : Bool) (p s : List UInt8) : leads any p s p s := fun r h1 h2 => ⟨r, h1, h2⟩
theorem leads_trans {any : Bool} {a r b s c t : List UInt8} (h : leads any a r b s) (h2 : leads any b s c t) : leads any a r c t := fun r' h3 h4 => by
  obtain ⟨s', h5, h6⟩ := h r' h3 h4
  exact h2 s' h5 h6
theorem leads_byte (any : Bool) (c : UInt8) (p t : List UInt8) (hc : c ≠ 42) : leads any (c :: p) (c :: t) p t := fun r' h1 h2 => by
  rw [parts_byte c p hc] at h2
  cases r' with
  | nil => exact absurd h2 (front_one _ _)
  | cons d r =>
    obtain ⟨rfl, h5⟩ := (front_one_next _ _ _ _).1 h2
    rcases reach_next h1 with h1 | ⟨h1, h3⟩
    · simp only [List.cons.injEq, true_and] at h1
      subst h1
      exact ⟨_, reach_refl _ _, h5⟩
    · refine ⟨r, reach_trans h1 ?_, h5⟩
      exact reach_cons (reach_refl _ _) h3
theorem leads_star (any : Bool) (p s : List UInt8) (hp : ∀ x, p ≠ 42 :: x) : leads any (42 :: p) s p s := fun r' h1 h2 => by
  rw [parts_star p hp, mt_star] at h2
  obtain ⟨s', h3, h4⟩ := h2
  exact ⟨s', reach_trans h1 (reach_any h3), h4⟩
theorem leads_more {any : Bool} {b r p : List UInt8} {c : UInt8} {t : List UInt8} (h : leads any b r p (c :: t)) (hn : ¬ mt (parts p) (c :: t)) : leads any b r p t := fun r' h1 h2 => by
  obtain ⟨s', h3, h4⟩ := h r' h1 h2
  rcases reach_next h3 with rfl | ⟨h3, _⟩
  · exact absurd h4 hn
  · exact ⟨s', h3, h4⟩

/-- What the matching loop knows: a group of one (m1, b1, r1), one of two (m2, b2, r2), what is left of the pattern and of the text. -/
structure Mid (ANS : Prop) (m1 : Bool) (b1 r1 : List UInt8) (m2 : Bool) (b2 r2 p s : List UInt8) : Prop where
  same : m1 = true → (mt (parts b1) r1 ↔ mt (parts p) s)
  one : m1 = true → ∀ any, leads any b1 r1 p s
  both : m2 = true → m1 = true → ∀ any, leads any b2 r2 b1 r1
  two : m2 = true → m1 = false → ∀ any, leads any b2 r2 p s
  sound : m2 = true → m1 = true → ∀ s', reach false r1 s' → mt (parts b1) s' → mt (parts b2) r2
  same2 : m2 = true → m1 = false → (mt (parts b2) r2 ↔ mt (parts p) s)
  none1 : m1 = false → r1 = []
  none2 : m2 = false → r2 = []
  ans2 : m2 = true → (ANS ↔ ∃ r', reach true r2 r' ∧ mt (parts b2) r')
  ans1 : m2 = false → m1 = true → (ANS ↔ ∃ r', reach false r1 r' ∧ mt (parts b1) r')
  ans0 : m2 = false → m1 = false → (ANS ↔ mt (parts p) s)

theorem Mid.start (p s : List UInt8) : Mid (mt (parts p) s) false [] [] false [] [] p s where
  same h := by cases h
  one h := by cases h
  both h := by cases h
  two h := by cases h
  sound h := by cases h
  same2 h := by cases h
  none1 _ := rfl
  none2 _ := rfl
  ans2 h := by cases h
  ans1 _ h := by cases h
  ans0 _ _ := Iff.rfl

section
variable {ANS : Prop} {m1 m2 : Bool} {b1 r1 b2 r2 p s : List UInt8}
/-- What is left is matched: so is the text from the last group of two on. -/
theorem Mid.back (h : Mid ANS m1 b1 r1 m2 b2 r2 p s) (hm : mt (parts p) s) (h2 : m2 = true) : mt (parts b2) r2 := by
  cases hm1 : m1 with
  | true => exact h.sound h2 hm1 r1 (reach_refl _ _) ((h.same hm1).2 hm)
  | false => exact (h.same2 h2 hm1).2 hm
theorem Mid.yes (h : Mid ANS m1 b1 r1 m2 b2 r2 p s) (hm : mt (parts p) s) : ANS := by
  cases h2 : m2 with
  | true => exact (h.ans2 h2).2 ⟨r2, reach_refl _ _, h.back hm h2⟩
  | false =>
    cases h1 : m1 with
    | true => exact (h.ans1 h2 h1).2 ⟨r1, reach_refl _ _, (h.same h1).2 hm⟩
    | false => exact (h.ans0 h2 h1).2 hm
theorem Mid.done (h : Mid ANS m1 b1 r1 m2 b2 r2 [] []) : ANS := h.yes rfl
theorem Mid.leads2 (h : Mid ANS m1 b1 r1 m2 b2 r2 p s) (h2 : m2 = true) (any : Bool) : leads any b2 r2 p s := by
  cases h1 : m1 with
  | true => exact leads_trans (h.both h2 h1 any) (h.one h1 any)
  | false => exact h.two h2 h1 any
/-- A byte. -/
theorem Mid.byte {c : UInt8} (h : Mid ANS m1 b1 r1 m2 b2 r2 (c :: p) (c :: s)) (hc : c ≠ 42) : Mid ANS m1 b1 r1 m2 b2 r2 p s := by
  have e : mt (parts (c :: p)) (c :: s) ↔ mt (parts p) s := by
    rw [parts_byte c p hc, front_one_next]
    exact ⟨fun h => h.2, fun h => ⟨rfl, h⟩⟩
  exact {
    same := fun h1 => (h.same h1).trans e
    one := fun h1 any => leads_trans (h.one h1 any) (leads_byte any c p s hc)
    both := h.both
    two := fun h2 h1 any => leads_trans (h.two h2 h1 any) (leads_byte any c p s hc)
    sound := h.sound
    same2 := fun h2 h1 => (h.same2 h2 h1).trans e
    none1 := h.none1
    none2 := h.none2
    ans2 := h.ans2
    ans1 := h.ans1
    ans0 := fun h2 h1 => (h.ans0 h2 h1).trans e }
/-- A group of one. -/
theorem Mid.star (h : Mid ANS m1 b1 r1 m2 b2 r2 (42 :: p) s) (hp : ∀ x, p ≠ 42 :: x) : Mid ANS true p s m2 b2 r2 p s := by
  have e : mt (parts (42 :: p)) s ↔ ∃ s', reach false s s' ∧ mt (parts p) s' := by rw [parts_star p hp, mt_star]
  exact {
    same := fun _ => Iff.rfl
    one := fun _ any => leads_refl any p s
    both := fun h2 _ any => leads_trans (h.leads2 h2 any) (leads_star any p s hp)
    two := fun _ h1 => by cases h1
    sound := fun h2 _ s' h3 h4 => h.back (e.2 ⟨s', h3, h4⟩) h2
    same2 := fun _ h1 => by cases h1
    none1 := fun h1 => by cases h1
    none2 := h.none2
    ans2 := h.ans2
    ans1 := fun h2 _ => by
      cases h1 : m1 with
      | true =>
        refine ⟨fun ha => ?_, fun ⟨s', h3, h4⟩ => h.yes (e.2 ⟨s', h3, h4⟩)⟩
        obtain ⟨r', h3, h4⟩ := (h.ans1 h2 h1).1 ha
        obtain ⟨s', h5, h6⟩ := h.one h1 false r' h3 h4
        exact leads_star false p s hp s' h5 h6
      | false => exact (h.ans0 h2 h1).trans e
    ans0 := fun _ h1 => by cases h1 }
/-- A group of two. -/
theorem Mid.star2 (h : Mid ANS m1 b1 r1 m2 b2 r2 (42 :: 42 :: p) s) : Mid ANS false [] [] true p s p s := by
  have e : mt (parts (42 :: 42 :: p)) s ↔ ∃ s', reach true s s' ∧ mt (parts p) s' := by rw [parts_two, mt_star2]
  have up : ∀ s', reach true s s' → mt (parts (42 :: 42 :: p)) s' → ∃ s'', reach true s s'' ∧ mt (parts p) s'' := fun s' h3 h4 => by
    rw [parts_two, mt_star2] at h4
    obtain ⟨s'', h5, h6⟩ := h4
    exact ⟨s'', reach_trans h3 h5, h6⟩
  exact {
    same := fun h1 => by cases h1
    one := fun h1 => by cases h1
    both := fun _ h1 => by cases h1
    two := fun _ _ any => leads_refl any p s
    sound := fun _ h1 => by cases h1
    same2 := fun _ _ => Iff.rfl
    none1 := fun _ => rfl
    none2 := fun h2 => by cases h2
    ans2 := fun _ => by
      refine ⟨fun ha => ?_, fun ⟨s', h3, h4⟩ => h.yes (e.2 ⟨s', h3, h4⟩)⟩
      cases h2 : m2 with
      | true =>
        obtain ⟨r', h3, h4⟩ := (h.ans2 h2).1 ha
        obtain ⟨s', h5, h6⟩ := h.leads2 h2 true r' h3 h4
        exact up s' h5 h6
      | false =>
        cases h1 : m1 with
        | true =>
          obtain ⟨r', h3, h4⟩ := (h.ans1 h2 h1).1 ha
          obtain ⟨s', h5, h6⟩ := h.one h1 true r' (reach_any h3) h4
          exact up s' h5 h6
        | false => exact e.1 ((h.ans0 h2 h1).1 ha)
    ans1 := fun h2 => by cases h2
    ans0 := fun h2 => by cases h2 }
/-- The group of one takes a byte more. -/
theorem Mid.more1 {c : UInt8} {t : List UInt8} (h : Mid ANS m1 b1 (c :: t) m2 b2 r2 p s) (hc : c ≠ 46) (hn : ¬ mt (parts p) s) : Mid ANS true b1 t m2 b2 r2 b1 t := by
  have h1 : m1 = true := by
    cases h1 : m1 with
    | true => rfl
    | false => cases h.none1 h1
  have hn1 : ¬ mt (parts b1) (c :: t) := fun x => hn ((h.same h1).1 x)
  exact {
    same := fun _ => Iff.rfl
    one := fun _ any => leads_refl any b1 t
    both := fun h2 _ any => leads_more (h.both h2 h1 any) hn1
    two := fun _ h => by cases h
    sound := fun h2 _ s' h3 h4 => h.sound h2 h1 s' (reach_cons h3 (.inr hc)) h4
    same2 := fun _ h => by cases h
    none1 := fun h => by cases h
    none2 := h.none2
    ans2 := h.ans2
    ans1 := fun h2 _ => by
      refine (h.ans1 h2 h1).trans ⟨fun ⟨r', h3, h4⟩ => ?_, fun ⟨r', h3, h4⟩ => ⟨r', reach_cons h3 (.inr hc), h4⟩⟩
      rcases reach_next h3 with rfl | ⟨h3, _⟩
      · exact absurd h4 hn1
      · exact ⟨r', h3, h4⟩
    ans0 := fun _ h => by cases h }
/-- What the text's ends from the group of two on come to where the group of one can take no more. -/
theorem Mid.not2 (h : Mid ANS m1 b1 r1 m2 b2 r2 p s) (hs : stuck r1) (hn : ¬ mt (parts p) s) (h2 : m2 = true) (r' : List UInt8) (hr : reach false r2 r') (hf : m1 = true ∨ r' = r2) : ¬ mt (parts b2) r' := fun hm => by
  cases h1 : m1 with
  | true =>
    obtain ⟨s', h3, h4⟩ := h.both h2 h1 false r' hr hm
    rw [reach_stuck hs h3] at h4
    exact hn ((h.same h1).1 h4)
  | false =>
    rw [h1] at hf
    rcases hf with hf | rfl
    · cases hf
    · exact hn ((h.same2 h2 h1).1 hm)
theorem Mid.again2 {t : List UInt8} (h2 : m2 = true) (ha : ANS ↔ ∃ r', reach true t r' ∧ mt (parts b2) r') : Mid ANS false [] [] m2 b2 t b2 t :=
  { same := fun h1 => by cases h1
    one := fun h1 => by cases h1
    both := fun _ h1 => by cases h1
    two := fun _ _ any => leads_refl any b2 t
    sound := fun _ h1 => by cases h1
    same2 := fun _ _ => Iff.rfl
    none1 := fun _ => rfl
    none2 := fun h => by rw [h2] at h; cases h
    ans2 := fun _ => ha
    ans1 := fun h => by rw [h2] at h; cases h
    ans0 := fun h => by rw [h2] at h; cases h }
/-- The group of two takes a byte more. -/
theorem Mid.more2 {c : UInt8} {t : List UInt8} (h : Mid ANS m1 b1 r1 m2 b2 (c :: t) p s) (hs : stuck r1) (hn : ¬ mt (parts p) s) : Mid ANS false [] [] m2 b2 t b2 t := by
  have h2 : m2 = true := by
    cases h2 : m2 with
    | true => rfl
    | false => cases h.none2 h2
  refine Mid.again2 h2 ((h.ans2 h2).trans ⟨fun ⟨r', h3, h4⟩ => ?_, fun ⟨r', h3, h4⟩ => ⟨r', reach_cons h3 (.inl rfl), h4⟩⟩)
  rcases reach_next h3 with rfl | ⟨h3, _⟩
  · exact absurd h4 (h.not2 hs hn h2 _ (reach_refl _ _) (.inr rfl))
  · exact ⟨r', h3, h4⟩
theorem split_dot (x t r : List UInt8) (y : List UInt8) (h : x ++ 46 :: t = y ++ r) (hx : ∀ c ∈ x, c ≠ 46) : (∀ c ∈ y, c ≠ 46) ∨ ∃ z, t = z ++ r := by
  rcases List.append_eq_append_iff.1 h with ⟨a, rfl, ha⟩ | ⟨a, rfl, ha⟩
  · cases a with
    | nil => simp at ha; exact .inl (by simpa using hx)
    | cons d a =>
      simp at ha
      exact .inr ⟨a, ha.2⟩
  · exact .inl fun c hc => hx c (List.mem_append_left _ hc)
/-- The group of two goes on behind a dot. -/
theorem Mid.dot2 {x t : List UInt8} (h : Mid ANS m1 b1 r1 m2 b2 (x ++ 46 :: t) p s) (hx : ∀ c ∈ x, c ≠ 46) (h1 : m1 = true) (hs : stuck r1) (hn : ¬ mt (parts p) s) : Mid ANS false [] [] m2 b2 t b2 t := by
  have h2 : m2 = true := by
    cases h2 : m2 with
    | true => rfl
    | false => have := h.none2 h2; simp at this
  refine Mid.again2 h2 ((h.ans2 h2).trans ⟨fun ⟨r', ⟨y, h3, _⟩, h4⟩ => ?_, fun ⟨r', ⟨y, h3, _⟩, h4⟩ => ⟨r', ⟨x ++ 46 :: y, by rw [h3]; simp, .inl rfl⟩, h4⟩⟩)
  rcases split_dot x t r' y h3 hx with hy | ⟨z, rfl⟩
  · exact absurd h4 (h.not2 hs hn h2 r' ⟨y, h3, .inr hy⟩ (.inl h1))
  · exact ⟨r', ⟨z, rfl, .inl rfl⟩, h4⟩
/-- The group of two can take no more. -/
theorem Mid.no2 (h : Mid ANS m1 b1 r1 m2 b2 r2 p s) (hs : stuck r1) (hn : ¬ mt (parts p) s) (hf : (m1 = true ∧ ∀ c ∈ r2, c ≠ 46) ∨ r2 = []) : ¬ ANS := fun ha => by
  cases h2 : m2 with
  | true =>
    obtain ⟨r', h3, h4⟩ := (h.ans2 h2).1 ha
    rcases hf with ⟨h1, hf⟩ | rfl
    · obtain ⟨y, e, _⟩ := h3
      exact h.not2 hs hn h2 r' ⟨y, e, .inr fun c hc => hf c (by rw [e]; exact List.mem_append_left _ hc)⟩ (.inl h1) h4
    · obtain rfl := reach_nil h3
      exact h.not2 hs hn h2 [] (reach_refl _ _) (.inr rfl) h4
  | false =>
    cases h1 : m1 with
    | true =>
      obtain ⟨r', h3, h4⟩ := (h.ans1 h2 h1).1 ha
      rw [reach_stuck hs h3] at h4
      exact hn ((h.same h1).1 h4)
    | false => exact hn ((h.ans0 h2 h1).1 ha)
end
/-- Where the walk comes to no byte and to no group, what is left is not matched. -/
theorem not_left (p s : List UInt8) (h42 : ∀ x, p ≠ 42 :: x) (hne : p ≠ [] ∨ s ≠ []) (hb : ∀ c x y, p = c :: x → s = c :: y → False) : ¬ mt (parts p) s := by
  cases p with
  | nil =>
    intro h
    have h' : s = [] := h
    rcases hne with h1 | h1
    · exact h1 rfl
    · exact h1 h'
  | cons c p =>
    have hc : c ≠ 42 := by rintro rfl; exact h42 p rfl
    rw [parts_byte c p hc]
    cases s with
    | nil => exact front_one _ _
    | cons d s =>
      rw [front_one_next]
      rintro ⟨rfl, _⟩
      exact hb _ _ _ rfl rfl

/-! The measure of the loop. -/
/-- Five numbers, the first weighs most. -/
def heavy (K a b c d e : Nat) : Nat := (((a * K + b) * K + c) * K + d) * K + e
theorem digit {K a b a' b' : Nat} (h : a' < a) (hb : b' < K) : a' * K + b' < a * K + b := by
  have : (a' + 1) * K ≤ a * K := Nat.mul_le_mul_right K h
  rw [Nat.succ_mul] at this
  omega
theorem heavy_e {K a b c d e e' : Nat} (h : e' < e) : heavy K a b c d e' < heavy K a b c d e := by unfold heavy; omega
theorem heavy_d {K a b c d e d' e' : Nat} (h : d' < d) (he : e' < K) : heavy K a b c d' e' < heavy K a b c d e := by
  unfold heavy; exact digit (by omega) he
theorem heavy_c {K a b c d e c' d' e' : Nat} (h : c' < c) (hd : d' < K) (he : e' < K) : heavy K a b c' d' e' < heavy K a b c d e := by
  unfold heavy; exact digit (digit (by omega) hd) he
theorem heavy_b {K a b c d e b' c' d' e' : Nat} (h : b' < b) (hc : c' < K) (hd : d' < K) (he : e' < K) : heavy K a b' c' d' e' < heavy K a b c d e := by
  unfold heavy; exact digit (digit (digit (by omega) hc) hd) he
theorem heavy_a {K a b c d e a' b' c' d' e' : Nat} (h : a' < a) (hb : b' < K) (hc : c' < K) (hd : d' < K) (he : e' < K) : heavy K a' b' c' d' e' < heavy K a b c d e := by
  unfold heavy; exact digit (digit (digit (digit h hb) hc) hd) he

end Go.Proofs.Ythknlllaclgekaa.glo
