/- The reference's keys, plain: digits and then a bracket is what stands before the bracket and is a number. -/
import Derived.Test.YthekabflbpfjoaaGreatDoorApcm
import Derived.Test.YthekabflbpfjoaaGreatDoorAvlm
namespace Go.Proofs.YthekabflbpfjoaaGreatDoor.adr
open Go.Proofs.YthekabflbpfjoaaGreatDoor

/-- The digits at the beginning of a text. -/
def digs (l : List UInt8) : List UInt8 := l.takeWhile txt.digit
theorem head_at {l : List UInt8} {c : UInt8} (h : l.head? = some c) : l = c :: l.drop 1 := by
  cases l with
  | nil => cases h
  | cons a b =>
    simp only [List.head?_cons, Option.some.injEq] at h
    subst h
    rfl
theorem digs_noneg (l : List UInt8) (h : l.all txt.digit = true) : Lib.hasPrefix l [45] = false := by
  cases hx : Lib.hasPrefix l [45] with
  | false => rfl
  | true =>
    have h1 := pre_split l [45] hx
    rw [h1, List.all_append, Bool.and_eq_true] at h
    exact absurd h.1 (by decide)
theorem pv_digs (l : List UInt8) (h : l.all txt.digit = true) : 0 ≤ num.pv l := by
  unfold num.pv
  split
  · exact Int.le_refl 0
  split
  · rw [if_neg (by rw [digs_noneg l h]; decide)]
    exact Int.natCast_nonneg _
  · exact Int.le_refl 0
theorem rdN_ref (t : List UInt8) : rdN t = if num.pe (digs t) = 0 ∧ (t.drop (digs t).length).head? = some 93 then some (⟨1, num.pv (digs t), ⟨#[]⟩⟩, t.drop ((digs t).length + 1)) else none := by
  have hall : (digs t).all txt.digit = true := takeWhile_all t
  by_cases h : num.pe (digs t) = 0 ∧ (t.drop (digs t).length).head? = some 93
  · rw [if_pos h]
    have h2 : t = digs t ++ 93 :: (t.drop (digs t).length).drop 1 := by
      have h3 := takeWhile_split (p := txt.digit) t
      have h4 : t.takeWhile txt.digit = digs t := rfl
      rw [h4] at h3
      rw [← head_at h.2]
      exact h3
    have hne : (digs t).all (fun x => x != 93) = true := by
      rw [List.all_eq_true] at hall ⊢
      intro x hx
      simpa using (digit_ne (hall x hx)).1
    have hc : cutD 93 t = digs t := by
      have h5 := cutD_app (b := (t.drop (digs t).length).drop 1) hne
      rw [← h2] at h5
      exact h5
    have hlt : (digs t).length < t.length := by
      have := congrArg List.length h2
      rw [List.length_append, List.length_cons] at this
      omega
    unfold rdN
    rw [hc, if_pos ⟨h.1, hlt, pv_digs _ hall⟩]
  · rw [if_neg h]
    cases hx : rdN t with
    | none => rfl
    | some y =>
      exfalso
      obtain ⟨k, r⟩ := y
      obtain ⟨g1, g2⟩ := rdN_inv t k r hx
      have hk : k.kind = 1 := by
        unfold rdN at hx
        split at hx
        · simp only [Option.some.injEq, Prod.mk.injEq] at hx
          rw [← hx.1]
        · cases hx
      rcases okK_cases k g2 with rfl | ⟨h1, h2, h3, h4⟩ | ⟨h1, _⟩
      · exact absurd hk (by decide)
      · obtain ⟨kd, n, s⟩ := k
        simp only at h1 h2 h3 h4
        subst h1 h4
        rw [fK_num h2 h3, List.cons_append, List.append_assoc, List.singleton_append, List.cons.injEq] at g1
        have hd : digs t = Lib.itoa n := by
          rw [g1.2]
          exact takeWhile_app (itoa_digits n h2) (fun c hc => by
            simp only [List.head?_cons, Option.some.injEq] at hc
            rw [← hc]
            decide)
        apply h
        rw [hd]
        refine ⟨((num.parse_itoa n).1 ⟨by omega, h3⟩).2, ?_⟩
        rw [g1.2, List.drop_left]
        rfl
      · rw [hk] at h1
        exact absurd h1 (by decide)
/-- The string key, with all that the reference asks. -/
theorem rdS_ref (t : List UInt8) (h : (lit.unq t).2.2 = 0) : okK ⟨2, 0, ⟨(lit.unq t).1.toArray⟩⟩ = true := okK_str (unq_ok t h).1

end Go.Proofs.YthekabflbpfjoaaGreatDoor.adr
