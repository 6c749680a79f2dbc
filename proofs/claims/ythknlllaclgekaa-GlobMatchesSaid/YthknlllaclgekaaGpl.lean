/- Plain facts on patterns of asterisks: division of a text among a pattern's parts, row by row and by hand; groups; literal patterns; doubled ones. -/
namespace Go.Proofs.Ythknlllaclgekaa.glo

/-- A part of a pattern: a byte, one asterisk, two. -/
inductive Part where
  | one (b : UInt8)
  | star
  | star2
/-- Whether a part matches a text. -/
def ok : Part → List UInt8 → Prop
  | .one b, s => s = [b]
  | .star, s => ∀ c ∈ s, c ≠ 46
  | .star2, _ => True
/-- Whether a text can be divided among parts. -/
def mt : List Part → List UInt8 → Prop
  | [], s => s = []
  | p :: ps, s => ∃ a b, s = a ++ b ∧ ok p a ∧ mt ps b

theorem mt_app (ps qs : List Part) : ∀ s, mt (ps ++ qs) s ↔ ∃ a b, s = a ++ b ∧ mt ps a ∧ mt qs b := by
  induction ps with
  | nil =>
    intro s
    constructor
    · intro h; exact ⟨[], s, rfl, rfl, h⟩
    · rintro ⟨a, b, rfl, ha, hb⟩
      have ha' : a = [] := ha
      subst ha'
      exact hb
  | cons p ps ih =>
    intro s
    constructor
    · rintro ⟨a, b, rfl, ha, hb⟩
      obtain ⟨c, d, rfl, hc, hd⟩ := (ih b).1 hb
      exact ⟨a ++ c, d, by rw [List.append_assoc], ⟨a, c, rfl, ha, hc⟩, hd⟩
    · rintro ⟨a, b, rfl, ⟨c, d, rfl, hc, hd⟩, hb⟩
      exact ⟨c, d ++ b, by rw [List.append_assoc], hc, (ih (d ++ b)).2 ⟨d, b, rfl, hd, hb⟩⟩
theorem mt_snoc (ps : List Part) (p : Part) (s : List UInt8) : mt (ps ++ [p]) s ↔ ∃ a b, s = a ++ b ∧ mt ps a ∧ ok p b := by
  rw [mt_app]
  constructor
  · rintro ⟨a, b, rfl, ha, c, d, hcd, hc, hd⟩
    have hd' : d = [] := hd
    subst hd'
    rw [List.append_nil] at hcd
    subst hcd
    exact ⟨a, b, rfl, ha, hc⟩
  · rintro ⟨a, b, rfl, ha, hb⟩
    exact ⟨a, b, rfl, ha, b, [], by rw [List.append_nil], hb, rfl⟩

/-- Row by row: a prefix of the text and one part more. -/
theorem row_one (ps : List Part) (b : UInt8) : ¬ mt (ps ++ [.one b]) [] := by
  rw [mt_snoc]
  rintro ⟨x, y, h, _, hy⟩
  have hy' : y = [b] := hy
  subst hy'
  simp at h
theorem row_one_next (ps : List Part) (b c : UInt8) (s : List UInt8) : mt (ps ++ [.one b]) (s ++ [c]) ↔ mt ps s ∧ c = b := by
  rw [mt_snoc]
  constructor
  · rintro ⟨x, y, h, hx, hy⟩
    have hy' : y = [b] := hy
    subst hy'
    obtain ⟨h1, h2⟩ := List.append_inj' h rfl
    subst h1
    exact ⟨hx, by simpa using h2⟩
  · rintro ⟨h, rfl⟩
    exact ⟨s, [c], rfl, h, rfl⟩
theorem row_star (ps : List Part) : mt (ps ++ [.star]) [] ↔ mt ps [] := by
  rw [mt_snoc]
  constructor
  · rintro ⟨x, y, h, hx, _⟩
    obtain ⟨rfl, rfl⟩ := List.append_eq_nil_iff.1 h.symm
    exact hx
  · intro h
    exact ⟨[], [], rfl, h, (fun c hc => by cases hc)⟩
theorem split_last {x y s : List UInt8} {c : UInt8} (h : s ++ [c] = x ++ y) : (y = [] ∧ x = s ++ [c]) ∨ ∃ z, y = z ++ [c] ∧ s = x ++ z := by
  rcases List.eq_nil_or_concat y with rfl | ⟨z, d, rfl⟩
  · exact .inl ⟨rfl, by rw [List.append_nil] at h; exact h.symm⟩
  · rw [List.concat_eq_append] at h ⊢
    rw [← List.append_assoc] at h
    obtain ⟨h1, h2⟩ := List.append_inj' h rfl
    obtain rfl : c = d := by simpa using h2
    exact .inr ⟨z, rfl, h1⟩
theorem row_star_next (ps : List Part) (c : UInt8) (s : List UInt8) : mt (ps ++ [.star]) (s ++ [c]) ↔ mt ps (s ++ [c]) ∨ (mt (ps ++ [.star]) s ∧ c ≠ 46) := by
  constructor
  · intro h
    rw [mt_snoc] at h
    obtain ⟨x, y, h, hx, hy⟩ := h
    rcases split_last h with ⟨rfl, rfl⟩ | ⟨z, rfl, rfl⟩
    · exact .inl hx
    · refine .inr ⟨(mt_snoc _ _ _).2 ⟨x, z, rfl, hx, fun d hd => hy d (List.mem_append_left _ hd)⟩, hy c (by simp)⟩
  · rintro (h | ⟨h, hc⟩)
    · exact (mt_snoc _ _ _).2 ⟨s ++ [c], [], by rw [List.append_nil], h, fun d hd => by cases hd⟩
    · obtain ⟨x, y, rfl, hx, hy⟩ := (mt_snoc _ _ _).1 h
      refine (mt_snoc _ _ _).2 ⟨x, y ++ [c], by rw [List.append_assoc], hx, fun d hd => ?_⟩
      rcases List.mem_append.1 hd with hd | hd
      · exact hy d hd
      · obtain rfl : d = c := by simpa using hd
        exact hc
theorem row_star2 (ps : List Part) : mt (ps ++ [.star2]) [] ↔ mt ps [] := by
  rw [mt_snoc]
  constructor
  · rintro ⟨x, y, h, hx, _⟩
    obtain ⟨rfl, rfl⟩ := List.append_eq_nil_iff.1 h.symm
    exact hx
  · intro h
    exact ⟨[], [], rfl, h, trivial⟩
theorem row_star2_next (ps : List Part) (c : UInt8) (s : List UInt8) : mt (ps ++ [.star2]) (s ++ [c]) ↔ mt ps (s ++ [c]) ∨ mt (ps ++ [.star2]) s := by
  constructor
  · intro h
    rw [mt_snoc] at h
    obtain ⟨x, y, h, hx, hy⟩ := h
    rcases split_last h with ⟨rfl, rfl⟩ | ⟨z, rfl, rfl⟩
    · exact .inl hx
    · exact .inr ((mt_snoc _ _ _).2 ⟨x, z, rfl, hx, trivial⟩)
  · rintro (h | h)
    · exact (mt_snoc _ _ _).2 ⟨s ++ [c], [], by rw [List.append_nil], h, trivial⟩
    · obtain ⟨x, y, rfl, hx, _⟩ := (mt_snoc _ _ _).1 h
      exact (mt_snoc _ _ _).2 ⟨x, y ++ [c], by rw [List.append_assoc], hx, trivial⟩

/-- From the front: what the first part takes. -/
theorem front_one (b : UInt8) (ps : List Part) : ¬ mt (.one b :: ps) [] := by
  rintro ⟨x, y, h, hx, _⟩
  have hx' : x = [b] := hx
  subst hx'
  cases h
theorem front_one_next (b c : UInt8) (ps : List Part) (s : List UInt8) : mt (.one b :: ps) (c :: s) ↔ c = b ∧ mt ps s := by
  constructor
  · rintro ⟨x, y, h, hx, hy⟩
    have hx' : x = [b] := hx
    subst hx'
    simp at h
    obtain ⟨rfl, rfl⟩ := h
    exact ⟨rfl, hy⟩
  · rintro ⟨rfl, h⟩
    exact ⟨[c], s, rfl, rfl, h⟩
theorem front_star (ps : List Part) (s : List UInt8) : mt (.star :: ps) s ↔ ∃ k, k ≤ s.length ∧ (∀ c ∈ s.take k, c ≠ 46) ∧ mt ps (s.drop k) := by
  constructor
  · rintro ⟨x, y, rfl, hx, hy⟩
    exact ⟨x.length, by simp, by rw [List.take_left]; exact hx, by rw [List.drop_left]; exact hy⟩
  · rintro ⟨k, _, h1, h2⟩
    exact ⟨s.take k, s.drop k, (List.take_append_drop k s).symm, h1, h2⟩
theorem front_star2 (ps : List Part) (s : List UInt8) : mt (.star2 :: ps) s ↔ ∃ k, k ≤ s.length ∧ mt ps (s.drop k) := by
  constructor
  · rintro ⟨x, y, rfl, _, hy⟩
    exact ⟨x.length, by simp, by rw [List.drop_left]; exact hy⟩
  · rintro ⟨k, _, h2⟩
    exact ⟨s.take k, s.drop k, (List.take_append_drop k s).symm, trivial, h2⟩
theorem front_star_next (ps : List Part) (c : UInt8) (s : List UInt8) : mt (.star :: ps) (c :: s) ↔ mt ps (c :: s) ∨ (c ≠ 46 ∧ mt (.star :: ps) s) := by
  constructor
  · rintro ⟨x, y, h, hx, hy⟩
    cases x with
    | nil => simp at h; subst h; exact .inl hy
    | cons d x =>
      simp at h
      obtain ⟨rfl, rfl⟩ := h
      exact .inr ⟨hx c (by simp), x, y, rfl, fun d hd => hx d (by simp [hd]), hy⟩
  · rintro (h | ⟨hc, x, y, rfl, hx, hy⟩)
    · exact ⟨[], c :: s, rfl, (fun d hd => by cases hd), h⟩
    · refine ⟨c :: x, y, rfl, fun d hd => ?_, hy⟩
      rcases List.mem_cons.1 hd with rfl | hd
      · exact hc
      · exact hx d hd
theorem front_star2_next (ps : List Part) (c : UInt8) (s : List UInt8) : mt (.star2 :: ps) (c :: s) ↔ mt ps (c :: s) ∨ mt (.star2 :: ps) s := by
  constructor
  · rintro ⟨x, y, h, _, hy⟩
    cases x with
    | nil => simp at h; subst h; exact .inl hy
    | cons d x =>
      simp at h
      obtain ⟨rfl, rfl⟩ := h
      exact .inr ⟨x, y, rfl, trivial, hy⟩
  · rintro (h | ⟨x, y, rfl, _, hy⟩)
    · exact ⟨[], c :: s, rfl, trivial, h⟩
    · exact ⟨c :: x, y, rfl, trivial, hy⟩
theorem front_star_nil (ps : List Part) : mt (.star :: ps) [] ↔ mt ps [] := by
  rw [front_star]
  constructor
  · rintro ⟨k, _, _, h⟩
    simpa using h
  · intro h
    exact ⟨0, Nat.le_refl _, (fun c hc => by cases hc), h⟩
theorem front_star2_nil (ps : List Part) : mt (.star2 :: ps) [] ↔ mt ps [] := by
  rw [front_star2]
  constructor
  · rintro ⟨k, _, h⟩
    simpa using h
  · intro h
    exact ⟨0, Nat.le_refl _, h⟩

/-- The parts of a pattern: two asterisks are read before one. -/
def parts : List UInt8 → List Part
  | [] => []
  | 42 :: 42 :: r => .star2 :: parts r
  | c :: r => (if c = 42 then .star else .one c) :: parts r

/-- Groups, the longest one, and the one that is being read. -/
def grp : Nat → Nat → Nat → List UInt8 → Nat × Nat
  | n, m, _, [] => (n, m)
  | n, m, r, c :: cs => if c = 42 then grp (if r = 0 then n + 1 else n) (max m (r + 1)) (r + 1) cs else grp n m 0 cs
/-- What Check returns. -/
def chk (p : List UInt8) : Int := if 1024 < p.length then 3 else if 16 < (grp 0 0 0 p).1 then 14 else if p = [] ∨ 2 < (grp 0 0 0 p).2 then 2 else 0
/-- Whether a pattern is valid and matches. -/
def hit (p s : List UInt8) : Prop := chk p = 0 ∧ mt (parts p) s

theorem grp_grows (l : List UInt8) : ∀ n m r, n ≤ (grp n m r l).1 ∧ m ≤ (grp n m r l).2 := by
  induction l with
  | nil => intro n m r; exact ⟨Nat.le_refl _, Nat.le_refl _⟩
  | cons c cs ih =>
    intro n m r
    unfold grp
    split
    · have h := ih (if r = 0 then n + 1 else n) (max m (r + 1)) (r + 1)
      refine ⟨Nat.le_trans ?_ h.1, Nat.le_trans (Nat.le_max_left _ _) h.2⟩
      split <;> omega
    · exact ih n m 0

/-- A text without asterisks: no groups, and its parts are its bytes. -/
theorem grp_plain (l : List UInt8) : ∀ n m r, (∀ c ∈ l, c ≠ 42) → grp n m r l = (n, m) := by
  induction l with
  | nil => intro n m r _; rfl
  | cons c cs ih =>
    intro n m r h
    unfold grp
    rw [if_neg (h c (by simp))]
    exact ih n m 0 fun d hd => h d (by simp [hd])
theorem grp_none (l : List UInt8) : (grp 0 0 0 l).1 = 0 ↔ ∀ c ∈ l, c ≠ 42 := by
  constructor
  · intro h
    have : ∀ (l : List UInt8) (m : Nat), (grp 0 m 0 l).1 = 0 → ∀ c ∈ l, c ≠ 42 := by
      intro l
      induction l with
      | nil => intro m _ c hc; cases hc
      | cons d ds ih =>
        intro m h c hc
        unfold grp at h
        by_cases hd : d = 42
        · rw [if_pos hd, if_pos rfl] at h
          have := (grp_grows ds (0 + 1) (max m (0 + 1)) (0 + 1)).1
          omega
        · rw [if_neg hd] at h
          rcases List.mem_cons.1 hc with rfl | hc
          · exact hd
          · exact ih m h c hc
    exact this l 0 h
  · intro h
    rw [grp_plain l 0 0 0 h]
theorem parts_plain (l : List UInt8) (h : ∀ c ∈ l, c ≠ 42) : parts l = l.map Part.one := by
  induction l with
  | nil => rfl
  | cons c cs ih =>
    have hc := h c (by simp)
    have ih := ih fun d hd => h d (by simp [hd])
    unfold parts
    split
    · simp_all
    · simp_all
    · rename_i d r _ heq
      simp at heq
      obtain ⟨rfl, rfl⟩ := heq
      rw [if_neg hc, ih]
      rfl
theorem mt_plain (l : List UInt8) : ∀ s, mt (l.map Part.one) s ↔ s = l := by
  induction l with
  | nil => intro s; exact Iff.rfl
  | cons c cs ih =>
    intro s
    cases s with
    | nil => exact ⟨fun h => absurd h (front_one _ _), fun h => by cases h⟩
    | cons d ds =>
      rw [List.map_cons, front_one_next, ih ds]
      constructor
      · rintro ⟨rfl, rfl⟩; rfl
      · intro h; simp at h; exact h
/-- A literal pattern matches itself alone. -/
theorem hit_plain (p s : List UInt8) (h : ∀ c ∈ p, c ≠ 42) : hit p s ↔ chk p = 0 ∧ s = p := by
  unfold hit
  rw [parts_plain p h, mt_plain]

/-- Two asterisks in each group. -/
def wide : Part → Part
  | .star => .star2
  | p => p
theorem mt_wide (ps : List Part) : ∀ s, mt ps s → mt (ps.map wide) s := by
  induction ps with
  | nil => intro s h; exact h
  | cons p ps ih =>
    rintro s ⟨a, b, rfl, ha, hb⟩
    refine ⟨a, b, rfl, ?_, ih b hb⟩
    cases p with
    | one c => exact ha
    | star => exact trivial
    | star2 => exact trivial
/-- The pattern with two asterisks in each group: prev tells whether the byte before was an asterisk. -/
def dbl : Bool → List UInt8 → List UInt8
  | _, [] => []
  | prev, c :: cs => if c = 42 then (if prev then dbl true cs else 42 :: 42 :: dbl true cs) else c :: dbl false cs

/-- The longest group that is being read or comes: at most two asterisks. -/
def tame : Nat → List UInt8 → Prop
  | _, [] => True
  | r, c :: cs => if c = 42 then r + 1 ≤ 2 ∧ tame (r + 1) cs else tame 0 cs
theorem tame_of (l : List UInt8) : ∀ n m r, (grp n m r l).2 ≤ 2 → tame r l := by
  induction l with
  | nil => intro n m r _; trivial
  | cons c cs ih =>
    intro n m r h
    unfold grp at h
    unfold tame
    split at h <;> rename_i hc
    · rw [if_pos hc]
      have := (grp_grows cs (if r = 0 then n + 1 else n) (max m (r + 1)) (r + 1)).2
      exact ⟨by omega, ih _ _ _ h⟩
    · rw [if_neg hc]
      exact ih _ _ _ h

theorem parts_two (r : List UInt8) : parts (42 :: 42 :: r) = .star2 :: parts r := by rw [parts]
theorem parts_byte (c : UInt8) (r : List UInt8) (h : c ≠ 42) : parts (c :: r) = .one c :: parts r := by
  conv => lhs; unfold parts
  split
  · simp_all
  · simp_all
  · rename_i d x _ heq
    simp at heq
    obtain ⟨rfl, rfl⟩ := heq
    rw [if_neg h]
theorem parts_star (r : List UInt8) (h : ∀ x, r ≠ 42 :: x) : parts (42 :: r) = .star :: parts r := by
  conv => lhs; unfold parts
  split
  · simp_all
  · rename_i x heq
    simp at heq
    exact absurd heq (h x)
  · rename_i d x _ heq
    simp at heq
    obtain ⟨rfl, rfl⟩ := heq
    rw [if_pos rfl]
/-- The parts of the doubled pattern. -/
theorem parts_dbl (n : Nat) : ∀ l : List UInt8, l.length ≤ n → tame 0 l → parts (dbl false l) = (parts l).map wide := by
  induction n with
  | zero =>
    intro l hl _
    have : l = [] := List.eq_nil_of_length_eq_zero (by omega)
    subst this
    rfl
  | succ n ih =>
    intro l hl ht
    match l, hl, ht with
    | [], _, _ => rfl
    | c :: cs, hl, ht =>
      by_cases hc : c = 42
      · subst hc
        match cs, hl, ht with
        | [], _, _ => rfl
        | d :: ds, hl, ht =>
          by_cases hd : d = 42
          · subst hd
            have ht2 : tame 2 ds := by
              unfold tame at ht
              rw [if_pos rfl] at ht
              have ht := ht.2
              unfold tame at ht
              rw [if_pos rfl] at ht
              exact ht.2
            have ht0 : tame 0 ds ∧ dbl true ds = dbl false ds := by
              cases ds with
              | nil => exact ⟨trivial, rfl⟩
              | cons e es =>
                unfold tame at ht2
                split at ht2 <;> rename_i he
                · omega
                · refine ⟨?_, ?_⟩
                  · unfold tame; rw [if_neg he]; exact ht2
                  · unfold dbl; rw [if_neg he, if_neg he]
            rw [parts_two]
            show parts (42 :: 42 :: dbl true ds) = _
            rw [parts_two, ht0.2, ih ds (by simp at hl; omega) ht0.1]
            rfl
          · have ht0 : tame 0 (d :: ds) := by
              unfold tame at ht
              rw [if_pos rfl] at ht
              have ht := ht.2
              unfold tame at ht ⊢
              rw [if_neg hd] at ht ⊢
              exact ht
            have hb : dbl true (d :: ds) = dbl false (d :: ds) := by unfold dbl; rw [if_neg hd, if_neg hd]
            rw [parts_star _ (by intro x hx; simp at hx; exact hd hx.1)]
            show parts (42 :: 42 :: dbl true (d :: ds)) = _
            rw [parts_two, hb, ih (d :: ds) (by simp at hl ⊢; omega) ht0]
            rfl
      · have ht0 : tame 0 cs := by
          unfold tame at ht
          rw [if_neg hc] at ht
          exact ht
        have e : dbl false (c :: cs) = c :: dbl false cs := by
          conv => lhs; unfold dbl
          rw [if_neg hc]
        rw [e, parts_byte c _ hc, parts_byte c _ hc, ih cs (by simp at hl; omega) ht0]
        rfl

/-- The doubled pattern has as many groups, none of more than two asterisks. -/
theorem grp_dbl (l : List UInt8) : ∀ (n m m' r : Nat) (prev : Bool), (prev = true ↔ 0 < r) → m ≤ 2 →
    (grp n m (if prev = true then 2 else 0) (dbl prev l)).1 = (grp n m' r l).1 ∧ (grp n m (if prev = true then 2 else 0) (dbl prev l)).2 ≤ 2 := by
  induction l with
  | nil => intro n m m' r prev _ hm; exact ⟨rfl, hm⟩
  | cons c cs ih =>
    intro n m m' r prev hp hm
    by_cases hc : c = 42
    · subst hc
      cases prev with
      | true =>
        have hr : 0 < r := hp.1 rfl
        have h := ih n m (max m' (r + 1)) (r + 1) true (by simp) hm
        have e : grp n m' r (42 :: cs) = grp n (max m' (r + 1)) (r + 1) cs := by
          conv => lhs; unfold grp
          rw [if_pos rfl, if_neg (by omega)]
        rw [e]
        exact h
      | false =>
        have hr : r = 0 := by
          rcases Nat.eq_zero_or_pos r with h | h
          · exact h
          · exact absurd (hp.2 h) (by simp)
        subst hr
        have h := ih (n + 1) (max (max m 1) 2) (max m' 1) 1 true (by simp) (by omega)
        have e : grp n m' 0 (42 :: cs) = grp (n + 1) (max m' 1) 1 cs := by
          conv => lhs; unfold grp
          rw [if_pos rfl, if_pos rfl]
        have e2 : grp n m 0 (dbl false (42 :: cs)) = grp (n + 1) (max (max m 1) 2) 2 (dbl true cs) := by
          show grp n m 0 (42 :: 42 :: dbl true cs) = _
          conv => lhs; unfold grp
          rw [if_pos rfl, if_pos rfl]
          conv => lhs; unfold grp
          rw [if_pos rfl, if_neg (by omega)]
        rw [e]
        show (grp n m 0 (dbl false (42 :: cs))).1 = _ ∧ (grp n m 0 (dbl false (42 :: cs))).2 ≤ 2
        rw [e2]
        exact h
    · have h := ih n m m' 0 false (by simp) hm
      have e : grp n m' r (c :: cs) = grp n m' 0 cs := by
        conv => lhs; unfold grp
        rw [if_neg hc]
      have e2 : ∀ k, grp n m k (dbl prev (c :: cs)) = grp n m 0 (dbl false cs) := fun k => by
        have : dbl prev (c :: cs) = c :: dbl false cs := by
          conv => lhs; unfold dbl
          rw [if_neg hc]
        rw [this]
        conv => lhs; unfold grp
        rw [if_neg hc]
      rw [e, e2]
      exact h
theorem dbl_length (l : List UInt8) : ∀ prev, (dbl prev l).length ≤ 2 * l.length := by
  induction l with
  | nil => intro prev; simp [dbl]
  | cons c cs ih =>
    intro prev
    unfold dbl
    split
    · split
      · have := ih true; simp; omega
      · have := ih true; simp; omega
    · have := ih false; simp; omega
theorem chk_zero (p : List UInt8) : chk p = 0 ↔ p.length ≤ 1024 ∧ (grp 0 0 0 p).1 ≤ 16 ∧ p ≠ [] ∧ (grp 0 0 0 p).2 ≤ 2 := by
  unfold chk
  split
  · constructor
    · intro h; cases h
    · intro h; omega
  · split
    · constructor
      · intro h; cases h
      · intro h; omega
    · split
      · rename_i h1
        constructor
        · intro h; cases h
        · rintro ⟨_, _, h2, h3⟩
          rcases h1 with h1 | h1
          · exact absurd h1 h2
          · omega
      · rename_i h1
        constructor
        · intro _
          exact ⟨by omega, by omega, fun h => h1 (.inl h), Nat.le_of_not_lt fun h => h1 (.inr h)⟩
        · intro _; rfl
/-- What a pattern of at most 500 bytes matches, the doubled one matches. -/
theorem hit_dbl (p s : List UInt8) (hp : p.length ≤ 500) (h : hit p s) : hit (dbl false p) s := by
  obtain ⟨h1, h2⟩ := h
  obtain ⟨g1, g2, g3, g4⟩ := (chk_zero p).1 h1
  have hd := grp_dbl p 0 0 0 0 false (by simp) (by decide)
  have hd1 : (grp 0 0 0 (dbl false p)).1 = (grp 0 0 0 p).1 := hd.1
  have hd2 : (grp 0 0 0 (dbl false p)).2 ≤ 2 := hd.2
  have hl := dbl_length p false
  refine ⟨(chk_zero _).2 ⟨by omega, by omega, ?_, hd2⟩, ?_⟩
  · match p, g3 with
    | c :: cs, _ =>
      unfold dbl
      split <;> simp
  · rw [parts_dbl p.length p (Nat.le_refl _) (tame_of p 0 0 0 g4)]
    exact mt_wide _ s h2

/-! Rows of bools: which prefixes of a text the first parts match. -/
noncomputable def rowB (ps : List Part) (s : List UInt8) (i : Nat) : Bool := @decide (mt ps (s.take i)) (Classical.propDecidable _)
theorem rowB_iff (ps : List Part) (s : List UInt8) (i : Nat) : rowB ps s i = true ↔ mt ps (s.take i) := by
  unfold rowB
  exact @decide_eq_true_iff _ (Classical.propDecidable _)
theorem rowB_start (s : List UInt8) (i : Nat) (hi : i ≤ s.length) : rowB [] s i = decide (i = 0) := by
  rw [Bool.eq_iff_iff, rowB_iff, decide_eq_true_iff]
  constructor
  · intro h
    have h' : s.take i = [] := h
    have := congrArg List.length h'
    rw [List.length_take] at this
    simp at this
    rcases this with h1 | h1
    · exact h1
    · subst h1; simp at hi; exact hi
  · rintro rfl; exact rfl
theorem take_snoc (s : List UInt8) (i : Nat) (hi : i < s.length) : s.take (i + 1) = s.take i ++ [s[i]] := List.take_succ_eq_append_getElem hi
theorem rowB_one_zero (ps : List Part) (b : UInt8) (s : List UInt8) : rowB (ps ++ [.one b]) s 0 = false := by
  rw [← Bool.not_eq_true, rowB_iff]
  exact row_one ps b
theorem rowB_one_next (ps : List Part) (b : UInt8) (s : List UInt8) (i : Nat) (hi : i < s.length) : rowB (ps ++ [.one b]) s (i + 1) = (rowB ps s i && s[i] == b) := by
  rw [Bool.eq_iff_iff, rowB_iff, take_snoc s i hi, row_one_next, Bool.and_eq_true, rowB_iff, beq_iff_eq]
theorem rowB_star_zero (ps : List Part) (s : List UInt8) : rowB (ps ++ [.star]) s 0 = rowB ps s 0 := by
  rw [Bool.eq_iff_iff, rowB_iff, rowB_iff]
  exact row_star ps
theorem rowB_star_next (ps : List Part) (s : List UInt8) (i : Nat) (hi : i < s.length) : rowB (ps ++ [.star]) s (i + 1) = (rowB ps s (i + 1) || (rowB (ps ++ [.star]) s i && s[i] != 46)) := by
  rw [Bool.eq_iff_iff, rowB_iff, Bool.or_eq_true, Bool.and_eq_true, rowB_iff, rowB_iff, bne_iff_ne, take_snoc s i hi, row_star_next]
theorem rowB_star2_zero (ps : List Part) (s : List UInt8) : rowB (ps ++ [.star2]) s 0 = rowB ps s 0 := by
  rw [Bool.eq_iff_iff, rowB_iff, rowB_iff]
  exact row_star2 ps
theorem rowB_star2_next (ps : List Part) (s : List UInt8) (i : Nat) (hi : i < s.length) : rowB (ps ++ [.star2]) s (i + 1) = (rowB ps s (i + 1) || rowB (ps ++ [.star2]) s i) := by
  rw [Bool.eq_iff_iff, rowB_iff, Bool.or_eq_true, rowB_iff, rowB_iff, take_snoc s i hi, row_star2_next]
/-- The whole text. -/
theorem rowB_whole (ps : List Part) (s : List UInt8) : rowB ps s s.length = true ↔ mt ps s := by rw [rowB_iff, List.take_length]

end Go.Proofs.Ythknlllaclgekaa.glo
