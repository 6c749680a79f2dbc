/- An address is within its own text, its static address and the paths of its modules: what the pure functions say. -/
import Derived.Test.YthekabflbpfjoaaDoorAvg
namespace Go.Proofs.YthekabflbpfjoaaDoor.adr
open Go.RowKit
open Go.Proofs.YthekabflbpfjoaaDoor

theorem tR_len {r : Rs} (h : chkR r = 0) : (tR r).length ≤ 25200 := by
  obtain ⟨t1, t2⟩ := chkR_ok h
  obtain ⟨n1, _⟩ := chkN_ok t2
  have h1 := id_size (isTy_id t1)
  have h2 := id_size n1
  rw [Lib.size_eq] at h1 h2
  have h3 := fK_len r.key
  have h4 : ((if r.data then dataB else []) : List UInt8).length ≤ 5 := by cases r.data <;> decide
  unfold tR
  rw [List.length_append, List.length_append, List.length_cons, List.length_append]
  omega
theorem own_parse {ms : List St} {r : Rs} (h16 : ms.length ≤ 16) (hs : chkS ms = 0) (hr : chkR r = 0) :
    pErr (tSs ms ++ tR r) = 0 ∧ pMods (tSs ms ++ tR r) = ms ∧ pRes (tSs ms ++ tR r) = r := by
  have h := full_back ms r hs hr
  unfold pErr pMods pRes
  rw [h]
  simp only
  rw [if_neg (by omega), if_neg (by omega), if_neg (by omega)]
  exact ⟨rfl, rfl, rfl⟩
theorem own_static {ms : List St} {r : Rs} (h16 : ms.length ≤ 16) (hs : chkS ms = 0) (hr : chkR r = 0) :
    fA ⟨ms.map bareS, bareR r⟩ = tSs (ms.map bareS) ++ tR (bareR r) := by
  have hc : chk ⟨ms.map bareS, bareR r⟩ = 0 := by
    unfold chk
    rw [if_neg (by simp only [List.length_map]; omega), bare_chkS ms hs, if_pos rfl]
    exact bare_chkR hr
  rw [fA_case, if_pos hc]
theorem own_len {ms : List St} {r : Rs} (h16 : ms.length ≤ 16) (hs : chkS ms = 0) (hr : chkR r = 0) : (tSs ms ++ tR r).length ≤ 500000 := by
  have h1 := tSs_len ms hs
  have h2 := tR_len hr
  rw [List.length_append]
  omega
theorem Mt.refl (x : St) : Mt x x := ⟨rfl, .inr rfl⟩
theorem Mt.bare (x : St) : Mt x (bareS x) := ⟨rfl, .inl rfl⟩
theorem own_self {ms : List St} {r : Rs} (h16 : ms.length ≤ 16) (hs : chkS ms = 0) (hr : chkR r = 0) : Wi (tSs ms ++ tR r) (tSs ms ++ tR r) := by
  obtain ⟨h1, h2, h3⟩ := own_parse h16 hs hr
  refine ⟨h1, ms, some r, full_back ms r hs hr, h16, ?_⟩
  rw [h2, h3]
  refine ⟨⟨Nat.le_refl _, fun i hi hi' => ?_⟩, .inr ⟨rfl, rfl, rfl, Mt.refl _⟩⟩
  rw [List.getElem_take]
  exact Mt.refl _
theorem own_bare {ms : List St} {r : Rs} (h16 : ms.length ≤ 16) (hs : chkS ms = 0) (hr : chkR r = 0) : Wi (tSs ms ++ tR r) (tSs (ms.map bareS) ++ tR (bareR r)) := by
  obtain ⟨h1, h2, h3⟩ := own_parse h16 hs hr
  refine ⟨h1, ms.map bareS, some (bareR r), full_back _ _ (bare_chkS ms hs) (bare_chkR hr), by rw [List.length_map]; exact h16, ?_⟩
  rw [h2, h3]
  refine ⟨⟨by rw [List.length_map]; exact Nat.le_refl _, fun i hi hi' => ?_⟩, .inr ⟨by rw [List.length_map], rfl, rfl, ⟨rfl, .inl rfl⟩⟩⟩
  rw [List.getElem_take, List.getElem_map]
  exact Mt.bare _
theorem own_path {ms ps : List St} {r : Rs} (h16 : ms.length ≤ 16) (hs : chkS ms = 0) (hr : chkR r = 0) (hne : ps ≠ []) (hp : chkS ps = 0) (hl : ps.length ≤ ms.length) (hm : Mts (ms.take ps.length) ps) : Wi (tSs ms ++ tR r) (tP ps) := by
  obtain ⟨h1, h2, h3⟩ := own_parse h16 hs hr
  refine ⟨h1, ps, none, path_back ps hne hp, by omega, ?_⟩
  rw [h2, h3]
  exact ⟨⟨hl, hm⟩, .inl rfl⟩
theorem tP_snoc : ∀ (a : List St) (s : St), a ≠ [] → tP (a ++ [s]) = tP a ++ (46 :: tS s)
  | [], _, h => absurd rfl h
  | [x], s, _ => rfl
  | x :: y :: a, s, _ => by
    have ih := tP_snoc (y :: a) s (by simp)
    show tS x ++ (46 :: tP ((y :: a) ++ [s])) = (tS x ++ (46 :: tP (y :: a))) ++ _
    rw [ih]
    simp [List.append_assoc]
theorem tP_tSs : ∀ (a : List St), a ≠ [] → tSs a = tP a ++ [46]
  | [], h => absurd rfl h
  | [x], _ => rfl
  | x :: y :: a, _ => by
    have ih := tP_tSs (y :: a) (by simp)
    show tS x ++ (46 :: tSs (y :: a)) = (tS x ++ (46 :: tP (y :: a))) ++ [46]
    rw [ih]
    simp
theorem tP_len (a : List St) (h16 : a.length ≤ 16) (h : chkS a = 0) : (tP a).length ≤ 401152 := by
  by_cases hn : a = []
  · subst hn; exact Nat.zero_le _
  have h1 := tSs_len a h
  rw [tP_tSs a hn, List.length_append] at h1
  omega
theorem chkS_app : ∀ (a b : List St), chkS a = 0 → chkS b = 0 → chkS (a ++ b) = 0
  | [], _, _, hb => hb
  | s :: t, b, ha, hb => by
    obtain ⟨h1, h2⟩ := (chkS_cons s t).1 ha
    exact (chkS_cons s (t ++ b)).2 ⟨h1, chkS_app t b h2 hb⟩
/-- The text of a path of the first steps: at a step, and behind its key. -/
def joinP (k : Nat) (p : List UInt8) (nm : List UInt8) : List UInt8 := (if k = 0 then p else p ++ [46]) ++ (modB ++ nm)
theorem tS_bare (s : St) : tS (bareS s) = modB ++ s.name.data.toList := by
  unfold tS
  rw [show fK (bareS s).key = [] from fK_zero, List.append_nil]
  rfl
theorem own_at {ms : List St} {k : Nat} (h : k < ms.length) : joinP k (tP (ms.take k)) ms[k].name.data.toList = tP (ms.take k ++ [bareS ms[k]]) := by
  unfold joinP
  by_cases h0 : k = 0
  · subst h0
    rw [if_pos rfl]
    show [] ++ _ = tS (bareS ms[0])
    rw [tS_bare]
    rfl
  · rw [if_neg h0, tP_snoc _ _ (by intro e; have := congrArg List.length e; rw [List.length_take, List.length_nil] at this; omega), tS_bare]
    simp [List.append_assoc]
theorem own_next {ms : List St} {k : Nat} (h : k < ms.length) : joinP k (tP (ms.take k)) ms[k].name.data.toList ++ fK ms[k].key = tP (ms.take (k + 1)) := by
  unfold joinP
  rw [List.take_succ_eq_append_getElem h]
  by_cases h0 : k = 0
  · subst h0
    rw [if_pos rfl]
    show ([] ++ _) ++ _ = tS ms[0]
    unfold tS
    simp [List.append_assoc]
  · rw [if_neg h0, tP_snoc _ _ (by intro e; have := congrArg List.length e; rw [List.length_take, List.length_nil] at this; omega)]
    unfold tS
    simp [List.append_assoc]
theorem chkS_bare_at {ms : List St} (hs : chkS ms = 0) {k : Nat} (h : k < ms.length) : chkS (ms.take k ++ [bareS ms[k]]) = 0 := by
  refine chkS_app _ _ (chkS_take ms k hs) ((chkS_cons _ _).2 ⟨?_, rfl⟩)
  exact bare_chkN (n := ms[k].name) (k := ms[k].key) (chkS_mem ms hs ms[k] (List.getElem_mem h))
theorem own_wi_at {ms : List St} {r : Rs} (h16 : ms.length ≤ 16) (hs : chkS ms = 0) (hr : chkR r = 0) {k : Nat} (h : k < ms.length) : Wi (tSs ms ++ tR r) (joinP k (tP (ms.take k)) ms[k].name.data.toList) := by
  rw [own_at h]
  have hl : (ms.take k ++ [bareS ms[k]]).length = k + 1 := by rw [List.length_append, List.length_take]; simp; omega
  refine own_path h16 hs hr (by simp) (chkS_bare_at hs h) (by rw [hl]; exact h) (fun i hi hi' => ?_)
  rw [List.getElem_take]
  rw [hl] at hi'
  by_cases e : i < k
  · rw [List.getElem_append_left (by rw [List.length_take]; omega), List.getElem_take]
    exact Mt.refl _
  · obtain rfl : i = k := by omega
    rw [List.getElem_append_right (by rw [List.length_take]; omega)]
    simp only [List.length_take, Nat.min_eq_left (Nat.le_of_lt h), Nat.sub_self, List.getElem_cons_zero]
    exact Mt.bare _
theorem own_wi_next {ms : List St} {r : Rs} (h16 : ms.length ≤ 16) (hs : chkS ms = 0) (hr : chkR r = 0) {k : Nat} (h : k < ms.length) : Wi (tSs ms ++ tR r) (tP (ms.take (k + 1))) := by
  have hl : (ms.take (k + 1)).length = k + 1 := by rw [List.length_take]; omega
  refine own_path h16 hs hr (by intro e; rw [e] at hl; cases hl) (chkS_take ms _ hs) (by rw [hl]; exact h) (fun i hi hi' => ?_)
  rw [List.getElem_take, List.getElem_take]
  exact Mt.refl _

end Go.Proofs.YthekabflbpfjoaaDoor.adr
