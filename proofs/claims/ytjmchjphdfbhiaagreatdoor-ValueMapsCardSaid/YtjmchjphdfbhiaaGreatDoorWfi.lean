/- Valid values can be copied, and their keys are in order. -/
import Derived.Test.YtjmchjphdfbhiaaGreatDoorVco
namespace Go.Proofs.YtjmchjphdfbhiaaGreatDoor.val
open Go.RowKit
open Go.Proofs.YtjmchjphdfbhiaaGreatDoor
open Go.Proofs.YtjmchjphdfbhiaaGreatDoor.val.cp (Fit FitL Fit_iff FitL_cons FitL_nil)
theorem textE_zero {s : ByteArray} (h : textE s = 0) : s.size ≤ 4096 := by
  unfold textE at h
  split at h
  · omega
  · omega
theorem chk_fit : (∀ (v : V) (lv bf : Nat), bf ≤ 4096 → (chkV v lv bf).1 = 0 → Fit v) ∧ (∀ (l : List V) (lv bf : Nat), bf ≤ 4096 → (chkL l lv bf).1 = 0 → FitL l) := by
  refine V.both (P := fun v => ∀ (lv bf : Nat), bf ≤ 4096 → (chkV v lv bf).1 = 0 → Fit v) (Q := fun l => ∀ (lv bf : Nat), bf ≤ 4096 → (chkL l lv bf).1 = 0 → FitL l) ?_ ?_ ?_
  · intro k n s l ks ih lv bf hb h
    have hs := chk_sane.1 ⟨k, n, s, l, ks⟩ lv bf h
    rw [chkV_eq] at h
    by_cases h1 : 32 < lv
    · rw [if_pos h1] at h; exact absurd (show (4 : Int) = 0 from h) (by decide)
    rw [if_neg h1] at h
    by_cases h2 : 4096 ≤ bf
    · rw [if_pos h2] at h; exact absurd (show (14 : Int) = 0 from h) (by decide)
    rw [if_neg h2] at h
    by_cases h3 : nodeE k n s l ks = 0
    · rw [if_pos h3] at h
      obtain ⟨g1, g2, g3, g4⟩ := nodeE_zero h3
      obtain ⟨g5, g6⟩ := shB_iff g1
      have hl : l.length ≤ nodesL l := len_nodes l
      have hn : nodes (V.mk k n s l ks) = 1 + nodesL l := by rw [nodes]
      have hks : ks.length ≤ 4096 := by
        by_cases h5 : k = 5
        · rw [g5.2.1 h5]; omega
        · rw [g5.2.2 h5]; exact Nat.zero_le _
      refine (Fit_iff _).2 ⟨?_, fun x hx => ?_, ?_, ?_, ih (lv + 1) (bf + 1) (by omega) h⟩
      · have := textE_zero g3
        show s.size ≤ _
        omega
      · have := textE_zero ((keysE_asc ks none g4).2.2 x hx)
        omega
      · show l.length ≤ _
        omega
      · show ks.length ≤ _
        omega
    · rw [if_neg h3] at h
      exact absurd h h3
  · intro lv bf _ _
    exact FitL_nil
  · intro v t h1 h2 lv bf hb h
    rw [chkL_cons] at h
    by_cases h3 : (chkV v lv bf).1 = 0
    · rw [if_pos h3] at h
      have := (chk_sane.1 v lv bf h3).2
      exact (FitL_cons _ _).2 ⟨h1 lv bf hb h3, h2 lv _ (by omega) h⟩
    · rw [if_neg h3] at h
      exact absurd h h3
theorem valid_fit {v : V} (h : chkE v = 0) : Fit v := chk_fit.1 v 1 0 (by omega) h
theorem valid_node {v : V} (h : chkE v = 0) : nodeE v.kind v.num v.str v.items v.keys = 0 := by
  obtain ⟨k, n, s, l, ks⟩ := v
  unfold chkE at h
  rw [chkV_eq, if_neg (by omega), if_neg (by omega)] at h
  by_cases h3 : nodeE k n s l ks = 0
  · exact h3
  · rw [if_neg h3] at h
    exact absurd h h3
theorem valid_srt {v : V} (h : chkE v = 0) : v.keys.Pairwise (fun a b => cT a b < 0) := (keysE_asc _ _ (nodeE_zero (valid_node h)).2.2.2).1
theorem valid_shape {v : V} (h : chkE v = 0) : shape v.kind v.num v.str v.items v.keys := (shB_iff (nodeE_zero (valid_node h)).1).1

end Go.Proofs.YtjmchjphdfbhiaaGreatDoor.val
