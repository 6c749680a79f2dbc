/- Lists in lists, lists of nulls, strings of zeros, plain. -/
import Derived.Test.YtjmchjphdfbhiaaDoorWfi
import Derived.Test.YtjmchjphdfbhiaaDoorVak
namespace Go.Proofs.YtjmchjphdfbhiaaDoor.val
open Go.RowKit
open Go.Proofs.YtjmchjphdfbhiaaDoor
open Go.Proofs.YtjmchjphdfbhiaaDoor.val.cp (Fit FitL Fit_iff FitL_cons FitL_nil FitL_mem)
def nest : Nat → V
  | 0 => vN
  | m + 1 => ⟨4, 0, ⟨#[]⟩, [nest m], []⟩
theorem nest_num (m : Nat) : (nest m).num = 0 := by cases m <;> rfl
theorem nest_str (m : Nat) : (nest m).str = ⟨#[]⟩ := by cases m <;> rfl
theorem nest_keys (m : Nat) : (nest m).keys = [] := by cases m <;> rfl
theorem nest_nodes : ∀ m, nodes (nest m) = m + 1
  | 0 => rfl
  | m + 1 => by
    show nodes ⟨4, 0, ⟨#[]⟩, [nest m], []⟩ = _
    rw [nodes, nodesL, nodesL, nest_nodes m]
    omega
theorem nest_wf : ∀ m, Wf (nest m)
  | 0 => wf_leaf 0 0 (by decide) (by decide)
  | m + 1 => (Wf_iff _).2 ⟨(show (-9223372036854775808 : Int) ≤ 4 ∧ (4 : Int) ≤ 9223372036854775807 from by decide), (show (-9223372036854775808 : Int) ≤ 0 ∧ (0 : Int) ≤ 9223372036854775807 from by decide), Nat.zero_le _, (show 1 ≤ maxLen from by decide), Nat.zero_le _, (fun x hx => absurd hx (List.not_mem_nil)), (WfL_cons _ _).2 ⟨nest_wf m, WfL_nil⟩⟩
theorem nest_fit : ∀ m, Fit (nest m)
  | 0 => fit_leaf 0 0
  | m + 1 => (Fit_iff _).2 ⟨Nat.zero_le _, (fun x hx => absurd hx (List.not_mem_nil)), (show 1 ≤ 1000000 from by decide), Nat.zero_le _, (FitL_cons _ _).2 ⟨nest_fit m, FitL_nil⟩⟩
theorem node_null : nodeE 0 0 ⟨#[]⟩ [] [] = 0 := by decide
theorem node_list (l : List V) : nodeE 4 0 ⟨#[]⟩ l [] = 0 := by
  have h : shB 4 0 ⟨#[]⟩ l [] = true := by
    unfold shB
    simp
    decide
  unfold nodeE
  rw [h, if_neg (by decide), if_neg (by omega)]
  decide
theorem chk_null (lv bf : Nat) : chkV vN lv bf = if 32 < lv then (4, bf) else if 4096 ≤ bf then (14, bf) else (0, bf + 1) := by
  show chkV ⟨0, 0, ⟨#[]⟩, [], []⟩ lv bf = _
  rw [chkV_eq, node_null, if_pos rfl, chkL_nil]
theorem chk_null_full (bf : Nat) (h : 4096 ≤ bf) : chkV vN 2 bf = (14, bf) := by rw [chk_null, if_neg (show ¬ 32 < 2 by decide), if_pos h]
theorem chk_null_room (bf : Nat) (h : ¬ 4096 ≤ bf) : chkV vN 2 bf = (0, bf + 1) := by rw [chk_null, if_neg (show ¬ 32 < 2 by decide), if_neg h]
theorem chk_list (l : List V) (lv bf : Nat) : chkV ⟨4, 0, ⟨#[]⟩, l, []⟩ lv bf = if 32 < lv then (4, bf) else if 4096 ≤ bf then (14, bf) else chkL l (lv + 1) (bf + 1) := by
  rw [chkV_eq, node_list, if_pos rfl]
theorem chk_nest : ∀ (m lv bf : Nat), bf + m + 1 ≤ 4096 → (chkV (nest m) lv bf).1 = if 32 < lv + m then 4 else 0
  | 0, lv, bf, h => by
    show (chkV vN lv bf).1 = _
    rw [chk_null]
    by_cases h1 : 32 < lv
    · rw [if_pos h1, if_pos (by omega)]
    · rw [if_neg h1, if_neg (by omega), if_neg (by omega)]
  | m + 1, lv, bf, h => by
    show (chkV ⟨4, 0, ⟨#[]⟩, [nest m], []⟩ lv bf).1 = _
    rw [chk_list]
    by_cases h1 : 32 < lv
    · rw [if_pos h1, if_pos (by omega)]
    · rw [if_neg h1, if_neg (by omega), chkL_cons, chkL_nil]
      have ih := chk_nest m (lv + 1) (bf + 1) (by omega)
      by_cases h2 : (chkV (nest m) (lv + 1) (bf + 1)).1 = 0
      · rw [if_pos h2]
        rw [h2] at ih
        by_cases h3 : 32 < lv + 1 + m
        · rw [if_pos h3] at ih
          exact absurd ih (by decide)
        · rw [if_neg (by omega)]
      · rw [if_neg h2, ih]
        by_cases h3 : 32 < lv + 1 + m
        · rw [if_pos h3, if_pos (by omega)]
        · rw [if_neg h3, if_neg (by omega)]
theorem chkE_nest (m : Nat) (h : m ≤ 100) : chkE (nest m) = if 32 < m + 1 then 4 else 0 := by
  unfold chkE
  rw [chk_nest m 1 0 (by omega), Nat.add_comm]
theorem chk_nulls : ∀ (q bf : Nat), bf ≤ 4096 → (chkL (List.replicate q vN) 2 bf).1 = if 4096 < bf + q then 14 else 0
  | 0, bf, h => by
    rw [List.replicate_zero, chkL_nil, if_neg (by omega)]
  | q + 1, bf, h => by
    rw [List.replicate_succ, chkL_cons]
    by_cases h1 : 4096 ≤ bf
    · rw [chk_null_full bf h1, if_neg (show ¬ (14 : Int) = 0 by decide), if_pos (show 4096 < bf + (q + 1) by omega)]
    · rw [chk_null_room bf h1, if_pos rfl, chk_nulls q (bf + 1) (by omega)]
      by_cases h2 : 4096 < bf + 1 + q
      · rw [if_pos h2, if_pos (by omega)]
      · rw [if_neg h2, if_neg (by omega)]
theorem chkE_nulls (q : Nat) : chkE ⟨4, 0, ⟨#[]⟩, List.replicate q vN, []⟩ = if 4096 < q + 1 then 14 else 0 := by
  unfold chkE
  rw [chk_list, if_neg (by omega), if_neg (by omega), chk_nulls q 1 (by omega), Nat.add_comm]
theorem nodes_nulls : ∀ q, nodesL (List.replicate q vN) = q
  | 0 => rfl
  | q + 1 => by
    rw [List.replicate_succ, nodesL, nodes_nulls q, show nodes vN = 1 from rfl]
    omega
theorem chkE_str (s : ByteArray) : chkE ⟨3, 0, s, [], []⟩ = textE s := by
  unfold chkE
  rw [chkV_eq, if_neg (by omega), if_neg (by omega)]
  have h : nodeE 3 0 s [] [] = textE s := by
    have h : shB 3 0 s [] [] = true := by
      unfold shB
      simp
    unfold nodeE
    rw [h, if_neg (by decide), if_neg (by omega)]
    by_cases hz : textE s = 0
    · rw [if_pos hz, hz]; rfl
    · rw [if_neg hz]
  rw [h]
  by_cases hz : textE s = 0
  · rw [if_pos hz, chkL_nil, hz]
  · rw [if_neg hz]
theorem chkE_map (s : ByteArray) : chkE ⟨5, 0, ⟨#[]⟩, [vN], [s]⟩ = textE s := by
  unfold chkE
  rw [chkV_eq, if_neg (by omega), if_neg (by omega)]
  have h : nodeE 5 0 ⟨#[]⟩ [vN] [s] = textE s := by
    have h : shB 5 0 ⟨#[]⟩ [vN] [s] = true := by
      unfold shB
      simp
      decide
    have ht : textE ⟨#[]⟩ = 0 := by decide
    unfold nodeE
    rw [h, if_neg (by decide), if_neg (by omega), if_pos ht, keysE_cons]
    by_cases hz : textE s = 0
    · rw [if_pos hz, hz]; rfl
    · rw [if_neg hz]
  rw [h]
  by_cases hz : textE s = 0
  · rw [if_pos hz, chkL_cons, chk_null_room 1 (by decide), if_pos rfl, chkL_nil, hz]
  · rw [if_neg hz]

end Go.Proofs.YtjmchjphdfbhiaaDoor.val
