/- Addresses, plain: what is read of the text of an address or of a module path, and the text of what is read. -/
import Derived.Test.YthekabflbpfjoaaGreatDoorAvlm
namespace Go.Proofs.YthekabflbpfjoaaGreatDoor.adr
open Go.Proofs.YthekabflbpfjoaaGreatDoor

theorem dropW_head {p : UInt8 → Bool} (l : List UInt8) (h : (l.takeWhile p).length < l.length) : ∃ c, l = l.takeWhile p ++ c :: l.drop ((l.takeWhile p).length + 1) ∧ p c = false := by
  have hs := takeWhile_split (p := p) l
  have ht := takeWhile_stop (p := p) l
  obtain ⟨c, t, hct⟩ : ∃ c t, l.drop (l.takeWhile p).length = c :: t := by
    cases hx : l.drop (l.takeWhile p).length with
    | nil =>
      have := congrArg List.length hx
      rw [List.length_drop, List.length_nil] at this
      omega
    | cons c t => exact ⟨c, t, rfl⟩
  have e : l.drop ((l.takeWhile p).length + 1) = t := by rw [← List.drop_drop, hct]; rfl
  refine ⟨c, ?_, ht c (by rw [hct]; rfl)⟩
  rw [e, ← hct]
  exact hs
theorem cutD_head {c : UInt8} (l : List UInt8) (h : (cutD c l).length < l.length) : l = cutD c l ++ c :: l.drop ((cutD c l).length + 1) := by
  obtain ⟨x, h1, h2⟩ := dropW_head (p := fun x => x != c) l h
  have : x = c := by simpa using h2
  subst this
  exact h1

theorem rdS_inv (t : List UInt8) (k : K) (r : List UInt8) (h : rdS t = some (k, r)) : 91 :: t = fK k ++ r ∧ okK k = true := by
  unfold rdS at h
  split at h
  · rename_i hc
    obtain ⟨h1, h2, h3⟩ := hc
    obtain ⟨o1, o2, o3⟩ := unq_ok t h1
    generalize (lit.unq t).2.1.toNat = n at *
    generalize (lit.unq t).1 = x at *
    simp only [Option.some.injEq, Prod.mk.injEq] at h
    obtain ⟨rfl, rfl⟩ := h
    have ho : okS (⟨x.toArray⟩ : ByteArray).data.toList = true := by rw [ba_list]; exact o1
    refine ⟨?_, okK_str o1⟩
    rw [fK_str ho, ba_list, List.cons_append, List.append_assoc, List.singleton_append]
    congr 1
    have hh : t.drop n = 93 :: t.drop (n + 1) := by
      cases hx : t.drop n with
      | nil => rw [hx] at h2; cases h2
      | cons a b =>
        rw [hx] at h2
        simp only [List.head?_cons, Option.some.injEq] at h2
        subst h2
        rw [← List.drop_drop, hx]
        rfl
    rw [h3, ← hh, List.take_append_drop]
  · cases h
theorem rdN_inv (t : List UInt8) (k : K) (r : List UInt8) (h : rdN t = some (k, r)) : 91 :: t = fK k ++ r ∧ okK k = true := by
  unfold rdN at h
  split at h
  · rename_i hc
    obtain ⟨h1, h2, h3⟩ := hc
    rcases num.parse_cases (cutD 93 t) with ⟨_, hg, hi⟩ | ⟨he, _⟩ | ⟨he, _⟩
    · simp only [Option.some.injEq, Prod.mk.injEq] at h
      obtain ⟨rfl, rfl⟩ := h
      refine ⟨?_, okK_num h3 hg.2⟩
      rw [fK_num h3 hg.2, hi, List.cons_append, List.append_assoc, List.singleton_append]
      congr 1
      exact cutD_head t h2
    · rw [he] at h1; cases h1
    · rw [he] at h1; cases h1
  · cases h
theorem rdK_inv (l : List UInt8) (k : K) (r : List UInt8) (h : rdK l = some (k, r)) : l = fK k ++ r ∧ okK k = true := by
  cases l with
  | nil =>
    simp only [rdK, Option.some.injEq, Prod.mk.injEq] at h
    obtain ⟨rfl, rfl⟩ := h
    exact ⟨rfl, okK_zero⟩
  | cons c t =>
    by_cases hc : c = 91
    · subst hc
      rw [rdK_open] at h
      split at h
      · exact rdS_inv t k r h
      · exact rdN_inv t k r h
    · rw [show rdK (c :: t) = (if c = 91 then (if t.head? = some 34 then rdS t else rdN t) else some (K.zero, c :: t)) from rfl, if_neg hc] at h
      simp only [Option.some.injEq, Prod.mk.injEq] at h
      obtain ⟨rfl, rfl⟩ := h
      exact ⟨rfl, okK_zero⟩
theorem rdNm_inv (l : List UInt8) (s : St) (r : List UInt8) (h : rdNm l = some (s, r)) : l = s.name.data.toList ++ (fK s.key ++ r) ∧ chkN s.name s.key = 0 := by
  unfold rdNm at h
  split at h
  · rename_i hi
    cases hk : rdK (l.drop (word l).length) with
    | none => rw [hk] at h; cases h
    | some x =>
      obtain ⟨k, r'⟩ := x
      rw [hk] at h
      simp only [Option.map_some, Option.some.injEq, Prod.mk.injEq] at h
      obtain ⟨rfl, rfl⟩ := h
      obtain ⟨h1, h2⟩ := rdK_inv _ _ _ hk
      simp only
      refine ⟨?_, ?_⟩
      · rw [← h1]
        exact takeWhile_split l
      · unfold chkN
        rw [ba_list, hi, h2]
        rfl
  · cases h
theorem isId_nil : isId [] = false := rfl
theorem rdNm_nil : rdNm [] = none := rfl
theorem rdR'_inv (d : Bool) (s : List UInt8) (r : Rs) (h : rdR' d s = some r) : s = r.type.data.toList ++ (46 :: (r.name.data.toList ++ fK r.key)) ∧ r.data = d ∧ chkR r = 0 := by
  unfold rdR' at h
  split at h
  · rename_i st hn
    split at h
    · rename_i ht
      simp only [Option.some.injEq] at h
      subst h
      have hlt : (cutD 46 s).length < s.length := by
        rcases Nat.lt_or_ge (cutD 46 s).length s.length with hx | hx
        · exact hx
        · rw [List.drop_of_length_le (by omega), rdNm_nil] at hn
          cases hn
      obtain ⟨e1, e2⟩ := rdNm_inv _ _ _ hn
      rw [List.append_nil] at e1
      have e3 := cutD_head s hlt
      rw [e1] at e3
      refine ⟨by simp only; exact e3, rfl, ?_⟩
      unfold chkR
      simp only
      rw [ht, if_neg (by decide)]
      exact e2
    · cases h
  · cases h
theorem pre_split (l p : List UInt8) (h : Lib.hasPrefix l p = true) : l = p ++ Lib.trimPrefix l p := by
  unfold Lib.trimPrefix
  rw [if_pos h]
  unfold Lib.hasPrefix at h
  rw [List.isPrefixOf_iff_prefix] at h
  obtain ⟨t, rfl⟩ := h
  rw [List.drop_left]
theorem pre_app (p t : List UInt8) : Lib.hasPrefix (p ++ t) p = true ∧ Lib.trimPrefix (p ++ t) p = t := by
  have h : Lib.hasPrefix (p ++ t) p = true := by
    unfold Lib.hasPrefix
    rw [List.isPrefixOf_iff_prefix]
    exact List.prefix_append _ _
  refine ⟨h, ?_⟩
  unfold Lib.trimPrefix
  rw [if_pos h, List.drop_left]
theorem pre_not (l p : List UInt8) (h : Lib.hasPrefix l p = false) : Lib.trimPrefix l p = l := by
  unfold Lib.trimPrefix
  rw [if_neg (by rw [h]; decide)]
theorem rdR_inv (l : List UInt8) (r : Rs) (h : rdR l = some r) : l = tR r ∧ chkR r = 0 := by
  obtain ⟨h1, h2, h3⟩ := rdR'_inv _ _ _ h
  refine ⟨?_, h3⟩
  unfold tR
  rw [h2, ← h1]
  cases hp : Lib.hasPrefix l dataB with
  | true =>
    rw [if_pos rfl]
    exact pre_split l _ hp
  | false =>
    rw [if_neg (by decide), List.nil_append]
    exact (pre_not l _ hp).symm
/-- A text that begins with a name and a dot begins with no other name and a dot. -/
theorem pre_name (t w x : List UInt8) (ht : t.all idc = true) (hw : w.all idc = true) (hne : t ≠ w) : Lib.hasPrefix (t ++ 46 :: x) (w ++ [46]) = false := by
  cases hp : Lib.hasPrefix (t ++ 46 :: x) (w ++ [46]) with
  | false => rfl
  | true =>
    have e := pre_split _ _ hp
    rw [List.append_assoc, List.singleton_append] at e
    have hx : ∀ y : List UInt8, ∀ c, (46 :: y).head? = some c → idc c = false := fun y c hc => by
      simp only [List.head?_cons, Option.some.injEq] at hc
      subst hc
      exact idc_dot
    have e1 := takeWhile_app ht (hx x)
    have e2 := takeWhile_app hw (hx (Lib.trimPrefix (t ++ 46 :: x) (w ++ [46])))
    rw [← e, e1] at e2
    exact absurd e2 hne
theorem modB_eq : modB = [109, 111, 100, 117, 108, 101] ++ [46] := rfl
theorem dataB_eq : dataB = [100, 97, 116, 97] ++ [46] := rfl
theorem ty_ne {t w : List UInt8} (h : isTy t = true) (hw : w ∈ words) : t ≠ w := fun e => ((isTy_iff t).1 h).1 (e ▸ hw)
theorem rdR_mod (r : Rs) (h : chkR r = 0) : Lib.hasPrefix (tR r) modB = false := by
  have ht : isTy r.type.data.toList = true := by
    unfold chkR at h
    split at h
    · cases h
    · rename_i hx; rwa [Bool.not_eq_false] at hx
  unfold tR
  cases r.data with
  | true => rfl
  | false =>
    rw [if_neg (by decide), List.nil_append, modB_eq]
    exact pre_name _ _ _ (isId_all (isTy_id ht)) (by decide) (ty_ne ht (by decide))
theorem rdR_back (r : Rs) (h : chkR r = 0) : rdR (tR r) = some r := by
  have ht : isTy r.type.data.toList = true ∧ chkN r.name r.key = 0 := by
    unfold chkR at h
    split at h
    · cases h
    · rename_i hx; exact ⟨by rwa [Bool.not_eq_false] at hx, h⟩
  have key : ∀ d, rdR' d (r.type.data.toList ++ (46 :: (r.name.data.toList ++ fK r.key))) = some ⟨d, r.type, r.name, r.key⟩ := by
    intro d
    have hc : cutD 46 (r.type.data.toList ++ (46 :: (r.name.data.toList ++ fK r.key))) = r.type.data.toList := by
      refine cutD_app ?_
      have hall := isId_all (isTy_id ht.1)
      rw [List.all_eq_true] at hall ⊢
      intro x hx
      have := hall x hx
      rw [bne_iff_ne]
      rintro rfl
      rw [idc_dot] at this
      cases this
    have hn := rdNm_back ⟨r.name, r.key⟩ [] ht.2 (fun c hc => by cases hc)
    simp only [List.append_nil] at hn
    unfold rdR'
    have hd : (r.type.data.toList ++ (46 :: (r.name.data.toList ++ fK r.key))).drop (r.type.data.toList.length + 1) = r.name.data.toList ++ fK r.key := by
      rw [← List.drop_drop, List.drop_left]
      rfl
    rw [hc, hd, hn]
    simp only
    rw [if_pos ht.1, ba_mk]
  unfold rdR tR
  cases hd : r.data with
  | true =>
    rw [if_pos rfl, (pre_app _ _).1, (pre_app _ _).2, key true, ← hd]
  | false =>
    have hp : Lib.hasPrefix (r.type.data.toList ++ (46 :: (r.name.data.toList ++ fK r.key))) dataB = false := by
      rw [dataB_eq]
      exact pre_name _ _ _ (isId_all (isTy_id ht.1)) (by decide) (ty_ne ht.1 (by decide))
    rw [if_neg (by decide), List.nil_append, hp, pre_not _ _ hp, key false, ← hd]

/-! ### any number of steps -/
def full (l : List UInt8) : Option (List St × Option Rs) := place (l.length + 1) l
theorem rdNm_len (l : List UInt8) (s : St) (r : List UInt8) (h : rdNm l = some (s, r)) : r.length + 1 ≤ l.length := by
  obtain ⟨h1, h2⟩ := rdNm_inv l s r h
  have hne : 0 < s.name.data.toList.length := by
    unfold chkN at h2
    split at h2
    · cases h2
    · rename_i hx
      rw [Bool.not_eq_false] at hx
      exact List.length_pos_iff.2 ((isId_iff _).1 hx).1
  rw [h1, List.length_append, List.length_append]
  omega
theorem trim_len (l p : List UInt8) (h : Lib.hasPrefix l p = true) : l.length = p.length + (Lib.trimPrefix l p).length := by
  have := congrArg List.length (pre_split l p h)
  rwa [List.length_append] at this
theorem place_fuel : ∀ (f g : Nat) (l : List UInt8), l.length < f → l.length < g → place f l = place g l := by
  intro f
  induction f with
  | zero => intro g l h; omega
  | succ f ih =>
    intro g l hf hg
    cases g with
    | zero => omega
    | succ g =>
      unfold place
      cases hp : Lib.hasPrefix l modB with
      | false => rfl
      | true =>
        rw [if_neg (by decide), if_neg (by decide)]
        have hl := trim_len l modB hp
        have hm : modB.length = 7 := rfl
        cases hn : rdNm (Lib.trimPrefix l modB) with
        | none => rfl
        | some x =>
          obtain ⟨st, r⟩ := x
          have hr := rdNm_len _ _ _ hn
          cases r with
          | nil => rfl
          | cons c r =>
            simp only
            rw [List.length_cons] at hr
            rw [ih g r (by omega) (by omega)]
theorem full_eq (l : List UInt8) : full l = if Lib.hasPrefix l modB = false then (rdR l).map fun r => ([], some r)
    else match rdNm (Lib.trimPrefix l modB) with
      | none => none
      | some (st, []) => some ([st], none)
      | some (st, c :: r) => if c = 46 then (full r).map fun x => (st :: x.1, x.2) else none := by
  unfold full
  rw [place]
  cases hp : Lib.hasPrefix l modB with
  | false => rfl
  | true =>
    rw [if_neg (by decide), if_neg (by decide)]
    have hl := trim_len l modB hp
    have hm : modB.length = 7 := rfl
    cases hn : rdNm (Lib.trimPrefix l modB) with
    | none => rfl
    | some x =>
      obtain ⟨st, r⟩ := x
      have hr := rdNm_len _ _ _ hn
      cases r with
      | nil => rfl
      | cons c r =>
        simp only
        rw [List.length_cons] at hr
        rw [place_fuel l.length (r.length + 1) r (by omega) (by omega)]
theorem full_res (l : List UInt8) (h : Lib.hasPrefix l modB = false) : full l = (rdR l).map fun r => ([], some r) := by rw [full_eq, if_pos h]
theorem full_none (l : List UInt8) (h : Lib.hasPrefix l modB = true) (hn : rdNm (Lib.trimPrefix l modB) = none) : full l = none := by
  rw [full_eq, if_neg (by rw [h]; decide), hn]
theorem full_path (l : List UInt8) (st : St) (h : Lib.hasPrefix l modB = true) (hn : rdNm (Lib.trimPrefix l modB) = some (st, [])) : full l = some ([st], none) := by
  rw [full_eq, if_neg (by rw [h]; decide), hn]
theorem full_more (l : List UInt8) (st : St) (r : List UInt8) (h : Lib.hasPrefix l modB = true) (hn : rdNm (Lib.trimPrefix l modB) = some (st, 46 :: r)) : full l = (full r).map fun x => (st :: x.1, x.2) := by
  rw [full_eq, if_neg (by rw [h]; decide), hn]
  simp
theorem full_bad (l : List UInt8) (st : St) (c : UInt8) (r : List UInt8) (h : Lib.hasPrefix l modB = true) (hn : rdNm (Lib.trimPrefix l modB) = some (st, c :: r)) (hc : ¬ c = 46) : full l = none := by
  rw [full_eq, if_neg (by rw [h]; decide), hn]
  simp [hc]

/-- The text of a module path. -/
def tP : List St → List UInt8
  | [] => []
  | s :: t => match t with
    | [] => tS s
    | _ :: _ => tS s ++ (46 :: tP t)
theorem chkS_cons (s : St) (t : List St) : chkS (s :: t) = 0 ↔ chkN s.name s.key = 0 ∧ chkS t = 0 := by
  show (if chkN s.name s.key = 0 then chkS t else chkN s.name s.key) = 0 ↔ _
  split
  · rename_i h; exact ⟨fun x => ⟨h, x⟩, fun x => x.2⟩
  · rename_i h; exact ⟨fun x => absurd x h, fun x => absurd x.1 h⟩
theorem step_pre (s : St) (rest : List UInt8) : Lib.hasPrefix (tS s ++ rest) modB = true ∧ Lib.trimPrefix (tS s ++ rest) modB = s.name.data.toList ++ (fK s.key ++ rest) := by
  unfold tS
  rw [List.append_assoc, List.append_assoc]
  exact pre_app _ _
theorem full_back : ∀ (ms : List St) (r : Rs), chkS ms = 0 → chkR r = 0 → full (tSs ms ++ tR r) = some (ms, some r)
  | [], r, _, hr => by
    show full (tR r) = _
    rw [full_res _ (rdR_mod r hr), rdR_back r hr]
    rfl
  | s :: t, r, hs, hr => by
    obtain ⟨h1, h2⟩ := (chkS_cons s t).1 hs
    have e : tSs (s :: t) ++ tR r = tS s ++ (46 :: (tSs t ++ tR r)) := by
      show (tS s ++ (46 :: tSs t)) ++ tR r = _
      rw [List.append_assoc]
      rfl
    have hp := step_pre s (46 :: (tSs t ++ tR r))
    rw [e, full_more _ s _ hp.1 (by rw [hp.2]; exact rdNm_back s _ h1 (fun c hc => by simpa using hc.symm)), full_back t r h2 hr]
    rfl
theorem path_back : ∀ (ms : List St), ms ≠ [] → chkS ms = 0 → full (tP ms) = some (ms, none)
  | [], h, _ => absurd rfl h
  | [s], _, hs => by
    obtain ⟨h1, _⟩ := (chkS_cons s []).1 hs
    have hp := step_pre s []
    rw [List.append_nil] at hp
    show full (tS s) = _
    rw [full_path _ s hp.1 (by rw [hp.2]; exact rdNm_back s [] h1 (fun c hc => by cases hc))]
  | s :: u :: t, _, hs => by
    obtain ⟨h1, h2⟩ := (chkS_cons s (u :: t)).1 hs
    have hp := step_pre s (46 :: tP (u :: t))
    show full (tS s ++ (46 :: tP (u :: t))) = _
    rw [full_more _ s _ hp.1 (by rw [hp.2]; exact rdNm_back s _ h1 (fun c hc => by simpa using hc.symm)), path_back (u :: t) (by simp) h2]
    rfl
theorem full_inv : ∀ (n : Nat) (l : List UInt8) (ms : List St) (x : Option Rs), l.length ≤ n → full l = some (ms, x) → chkS ms = 0 ∧ (∀ r, x = some r → chkR r = 0 ∧ l = tSs ms ++ tR r) ∧ (x = none → ms ≠ []) ∧ 8 * ms.length ≤ l.length + 1 := by
  intro n
  induction n with
  | zero =>
    intro l ms x hl h
    obtain rfl : l = [] := List.eq_nil_of_length_eq_zero (by omega)
    rw [full_res _ rfl] at h
    cases h
  | succ n ih =>
    intro l ms x hl h
    cases hp : Lib.hasPrefix l modB with
    | false =>
      rw [full_res _ hp] at h
      cases hr : rdR l with
      | none => rw [hr] at h; cases h
      | some r =>
        rw [hr] at h
        simp only [Option.map_some, Option.some.injEq, Prod.mk.injEq] at h
        obtain ⟨rfl, rfl⟩ := h
        obtain ⟨h1, h2⟩ := rdR_inv _ _ hr
        refine ⟨rfl, fun r' hr' => ?_, (fun h => by cases h), by simp⟩
        simp only [Option.some.injEq] at hr'
        subst hr'
        exact ⟨h2, h1⟩
    | true =>
      have hlen := trim_len l modB hp
      have hm : modB.length = 7 := rfl
      cases hn : rdNm (Lib.trimPrefix l modB) with
      | none => rw [full_none _ hp hn] at h; cases h
      | some y =>
        obtain ⟨st, r⟩ := y
        have hr := rdNm_len _ _ _ hn
        obtain ⟨i1, i2⟩ := rdNm_inv _ _ _ hn
        cases r with
        | nil =>
          rw [full_path _ st hp hn] at h
          simp only [Option.some.injEq, Prod.mk.injEq] at h
          obtain ⟨rfl, rfl⟩ := h
          refine ⟨(chkS_cons st []).2 ⟨i2, rfl⟩, (fun r h => by cases h), (fun _ => by simp), ?_⟩
          simp only [List.length_cons, List.length_nil] at hr ⊢
          omega
        | cons c r =>
          by_cases hc : c = 46
          · subst hc
            rw [full_more _ st r hp hn] at h
            rw [List.length_cons] at hr
            cases hf : full r with
            | none => rw [hf] at h; cases h
            | some z =>
              obtain ⟨ms', x'⟩ := z
              rw [hf] at h
              simp only [Option.map_some, Option.some.injEq, Prod.mk.injEq] at h
              obtain ⟨rfl, rfl⟩ := h
              obtain ⟨j1, j2, j3, j4⟩ := ih r ms' x' (by omega) hf
              refine ⟨(chkS_cons st ms').2 ⟨i2, j1⟩, fun q hq => ?_, (fun _ => by simp), by rw [List.length_cons]; omega⟩
              obtain ⟨k1, k2⟩ := j2 q hq
              refine ⟨k1, ?_⟩
              have e := pre_split l modB hp
              rw [i1, k2] at e
              rw [e]
              show _ = (tS st ++ (46 :: tSs ms')) ++ tR q
              unfold tS
              simp [List.append_assoc]
          · rw [full_bad _ st c r hp hn hc] at h
            cases h

/-! ### at most k steps -/
theorem chunk_res (k : Nat) (l : List UInt8) (h : Lib.hasPrefix l modB = false) : chunk k l = (rdR l).map fun r => ([], some r, []) := by
  unfold chunk
  rw [if_pos h]
theorem chunk_stop (l : List UInt8) (h : Lib.hasPrefix l modB = true) : chunk 0 l = some ([], none, l) := by
  unfold chunk
  rw [if_neg (by rw [h]; decide)]
theorem chunk_none (k : Nat) (l : List UInt8) (h : Lib.hasPrefix l modB = true) (hn : rdNm (Lib.trimPrefix l modB) = none) : chunk (k + 1) l = none := by
  rw [chunk, if_neg (by rw [h]; decide)]
  rw [hn]
theorem chunk_path (k : Nat) (l : List UInt8) (st : St) (h : Lib.hasPrefix l modB = true) (hn : rdNm (Lib.trimPrefix l modB) = some (st, [])) : chunk (k + 1) l = some ([st], none, []) := by
  rw [chunk, if_neg (by rw [h]; decide)]
  rw [hn]
theorem chunk_more (k : Nat) (l : List UInt8) (st : St) (r : List UInt8) (h : Lib.hasPrefix l modB = true) (hn : rdNm (Lib.trimPrefix l modB) = some (st, 46 :: r)) : chunk (k + 1) l = (chunk k r).map fun x => (st :: x.1, x.2) := by
  rw [chunk, if_neg (by rw [h]; decide)]
  rw [hn]
  simp
theorem chunk_bad (k : Nat) (l : List UInt8) (st : St) (c : UInt8) (r : List UInt8) (h : Lib.hasPrefix l modB = true) (hn : rdNm (Lib.trimPrefix l modB) = some (st, c :: r)) (hc : ¬ c = 46) : chunk (k + 1) l = none := by
  rw [chunk, if_neg (by rw [h]; decide)]
  rw [hn]
  simp [hc]
/-- What a chunk says of the whole. -/
def Says (k : Nat) (l : List UInt8) : Option (List St × Option Rs × List UInt8) → Prop
  | none => full l = none
  | some (ms, x, rest) => (rest = [] → full l = some (ms, x) ∧ ms.length ≤ k) ∧
      (rest ≠ [] → x = none ∧ ms.length = k ∧ Lib.hasPrefix rest modB = true ∧ full l = (full rest).map (fun y => (ms ++ y.1, y.2)) ∧ rest.length + 8 * k ≤ l.length)
theorem chunk_says : ∀ (k : Nat) (l : List UInt8), Says k l (chunk k l) := by
  intro k
  induction k with
  | zero =>
    intro l
    cases hp : Lib.hasPrefix l modB with
    | false =>
      rw [chunk_res 0 l hp]
      cases hr : rdR l with
      | none => exact (full_res l hp).trans (by rw [hr]; rfl)
      | some r => exact ⟨fun _ => ⟨(full_res l hp).trans (by rw [hr]; rfl), Nat.le_refl _⟩, fun h => absurd rfl h⟩
    | true =>
      rw [chunk_stop l hp]
      refine ⟨fun h => ?_, fun h => ⟨rfl, rfl, hp, ?_, by simp⟩⟩
      · rw [h] at hp; cases hp
      · cases full l with
        | none => rfl
        | some y => rfl
  | succ k ih =>
    intro l
    cases hp : Lib.hasPrefix l modB with
    | false =>
      rw [chunk_res (k + 1) l hp]
      cases hr : rdR l with
      | none => exact (full_res l hp).trans (by rw [hr]; rfl)
      | some r => exact ⟨fun _ => ⟨(full_res l hp).trans (by rw [hr]; rfl), Nat.zero_le _⟩, fun h => absurd rfl h⟩
    | true =>
      have hlen := trim_len l modB hp
      have hm : modB.length = 7 := rfl
      cases hn : rdNm (Lib.trimPrefix l modB) with
      | none =>
        rw [chunk_none k l hp hn]
        exact full_none l hp hn
      | some y =>
        obtain ⟨st, r⟩ := y
        have hr := rdNm_len _ _ _ hn
        cases r with
        | nil =>
          rw [chunk_path k l st hp hn]
          exact ⟨fun _ => ⟨full_path l st hp hn, by simp⟩, fun h => absurd rfl h⟩
        | cons c r =>
          rw [List.length_cons] at hr
          by_cases hc : c = 46
          · subst hc
            rw [chunk_more k l st r hp hn]
            have hs := ih r
            cases hk : chunk k r with
            | none =>
              rw [hk] at hs
              have hs' : full r = none := hs
              exact (full_more l st r hp hn).trans (by rw [hs']; rfl)
            | some z =>
              obtain ⟨ms, x, rest⟩ := z
              rw [hk] at hs
              obtain ⟨h1, h2⟩ := hs
              refine ⟨fun e => ?_, fun e => ?_⟩
              · obtain ⟨g1, g2⟩ := h1 e
                exact ⟨(full_more l st r hp hn).trans (by rw [g1]; rfl), by simpa using g2⟩
              · obtain ⟨g1, g2, g3, g4, g5⟩ := h2 e
                refine ⟨g1, by simpa using g2, g3, ?_, by show rest.length + 8 * (k + 1) ≤ l.length; omega⟩
                show full l = (full rest).map fun y => ((st :: ms) ++ y.1, y.2)
                rw [full_more l st r hp hn, g4, Option.map_map]
                rfl
          · rw [chunk_bad k l st c r hp hn hc]
            exact full_bad l st c r hp hn hc

end Go.Proofs.YthekabflbpfjoaaGreatDoor.adr
