/- isMap, the search for a key, and Get. -/
import Derived.Test.YtjmchjphdfbhiaaGreatDoorVmk
import Derived.Test.YtjmchjphdfbhiaaGreatDoorSlb
import Derived.Test.YtjmchjphdfbhiaaGreatDoorVvi
import Derived.Test.YtjmchjphdfbhiaaGreatDoorVfi
namespace Go.Proofs.YtjmchjphdfbhiaaGreatDoor.val
open Go.RowKit
open Go.Proofs.YtjmchjphdfbhiaaGreatDoor
open Go.Proofs.YtjmchjphdfbhiaaGreatDoor.val.cp (Fit Fit_iff FitL_mem set5 set5_block set5_world set5_at)
/-! ### the place of a key -/
def srt (ks : List ByteArray) : Prop := ks.Pairwise (fun a b => cT a b < 0)
def pl : List ByteArray → ByteArray → Nat
  | [], _ => 0
  | a :: t, k => if cT a k < 0 then pl t k + 1 else 0
def fnd (ks : List ByteArray) (k : ByteArray) : Bool := decide (ks[pl ks k]? = some k)
theorem pl_le (k : ByteArray) : ∀ ks : List ByteArray, pl ks k ≤ ks.length
  | [] => Nat.le_refl _
  | a :: t => by
    rw [pl]
    split
    · simpa using pl_le k t
    · exact Nat.zero_le _
theorem pl_below (k : ByteArray) : ∀ (ks : List ByteArray) (i : Nat) (h : i < ks.length), i < pl ks k → cT ks[i] k < 0
  | [], _, h, _ => absurd h (Nat.not_lt_zero _)
  | a :: t, i, h, hp => by
    rw [pl] at hp
    split at hp
    · rename_i ha
      cases i with
      | zero => exact ha
      | succ i => exact pl_below k t i (by simpa using h) (by omega)
    · omega
theorem pl_above (k : ByteArray) : ∀ (ks : List ByteArray) (_ : srt ks) (i : Nat) (h : i < ks.length), pl ks k ≤ i → ¬ cT ks[i] k < 0
  | [], _, _, h, _ => absurd h (Nat.not_lt_zero _)
  | a :: t, hs, i, h, hp => by
    obtain ⟨h1, h2⟩ := List.pairwise_cons.1 hs
    rw [pl] at hp
    split at hp
    · rename_i ha
      cases i with
      | zero => omega
      | succ i => exact pl_above k t h2 i (by simpa using h) (by omega)
    · rename_i ha
      cases i with
      | zero => exact ha
      | succ i =>
        intro hc
        exact ha (tot_cT.less (h1 _ (List.getElem_mem _)) hc)
theorem fnd_at {ks : List ByteArray} {k : ByteArray} (h : fnd ks k = true) : ∃ hp : pl ks k < ks.length, ks[pl ks k] = k := by
  have := of_decide_eq_true h
  exact List.getElem?_eq_some_iff.1 this
/-- Look-up by the place. -/
theorem get_pl (k : ByteArray) : ∀ (ks : List ByteArray) (l : List V), srt ks → ks.length = l.length → getP (ks.zip l) k = if fnd ks k then l[pl ks k]? else none
  | [], l, _, _ => by simp [fnd, pl, getP]
  | a :: t, [], _, h => by simp at h
  | a :: t, x :: l, hs, h => by
    obtain ⟨h1, h2⟩ := List.pairwise_cons.1 hs
    rw [List.zip_cons_cons, getP]
    have ih := get_pl k t l h2 (by simpa using h)
    by_cases ha : cT a k < 0
    · have hp : pl (a :: t) k = pl t k + 1 := by rw [pl, if_pos ha]
      have hf : fnd (a :: t) k = fnd t k := by unfold fnd; rw [hp, List.getElem?_cons_succ]
      rw [if_neg (show ¬ cT a k = 0 by omega), ih, hf, hp, List.getElem?_cons_succ]
    · have hp : pl (a :: t) k = 0 := by rw [pl, if_neg ha]
      by_cases h0 : cT a k = 0
      · have e := (tot_cT.zero _ _).1 h0
        subst e
        have hf : fnd (a :: t) a = true := by unfold fnd; rw [hp]; simp
        rw [if_pos h0, hf, hp]
        rfl
      · have hf : fnd (a :: t) k = false := by
          unfold fnd
          rw [hp]
          simp only [List.getElem?_cons_zero, decide_eq_false_iff_not, Option.some.injEq]
          intro e
          exact h0 ((tot_cT.zero _ _).2 e)
        rw [if_neg h0, hf, if_neg (by decide)]
        refine get_none k _ (fun b hb e => ?_)
        have hb' : b.1 ∈ t := (List.of_mem_zip hb).1
        have g1 := h1 _ hb'
        have e' := (tot_cT.zero _ _).1 e
        rw [e'] at g1
        exact ha g1
/-- Insertion by the place. -/
theorem put_pl (k : ByteArray) (x : V) : ∀ (ks : List ByteArray) (l : List V), srt ks → ks.length = l.length →
    putP (ks.zip l) k x = if fnd ks k then ks.zip (l.set (pl ks k) x) else (ks.take (pl ks k) ++ k :: ks.drop (pl ks k)).zip (l.take (pl ks k) ++ x :: l.drop (pl ks k))
  | [], l, _, h => by
    cases l with
    | nil => simp [fnd, pl, putP]
    | cons => simp at h
  | a :: t, [], _, h => by simp at h
  | a :: t, y :: l, hs, h => by
    obtain ⟨h1, h2⟩ := List.pairwise_cons.1 hs
    rw [List.zip_cons_cons, putP]
    have ih := put_pl k x t l h2 (by simpa using h)
    by_cases ha : cT a k < 0
    · have hp : pl (a :: t) k = pl t k + 1 := by rw [pl, if_pos ha]
      have hf : fnd (a :: t) k = fnd t k := by unfold fnd; rw [hp, List.getElem?_cons_succ]
      rw [if_pos ha, ih, hf, hp]
      split
      · rw [List.set_cons_succ, List.zip_cons_cons]
      · rw [List.take_succ_cons, List.drop_succ_cons, List.take_succ_cons, List.drop_succ_cons, List.cons_append, List.cons_append, List.zip_cons_cons]
    · have hp : pl (a :: t) k = 0 := by rw [pl, if_neg ha]
      rw [if_neg ha]
      by_cases h0 : cT a k = 0
      · have e := (tot_cT.zero _ _).1 h0
        subst e
        have hf : fnd (a :: t) a = true := by unfold fnd; rw [hp]; simp
        rw [if_pos h0, hf, hp]
        rfl
      · have hf : fnd (a :: t) k = false := by
          unfold fnd
          rw [hp]
          simp only [List.getElem?_cons_zero, decide_eq_false_iff_not, Option.some.injEq]
          intro e
          exact h0 ((tot_cT.zero _ _).2 e)
        rw [if_neg h0, hf, if_neg (by decide), hp]
        rfl
/-- What slices.BinarySearch says of ascending keys. -/
theorem search_any (ks : List ByteArray) (hs : srt ks) (A : Option Addr) (c : Nat) (key : ByteArray) (w : World) (h : Ks (.slice A ks.length c) ks w) (hn : ks.length ≤ 1000000) :
    Calls Tryz.prog 52 #[.slice A ks.length c, .string key] w fun e w' => e = .returned (.tuple #[.int .i64 (pl ks key : Nat), .bool (fnd ks key)]) ∧ Q w w' := by
  by_cases h0 : ks = []
  · subst h0
    have cS := Any2.slices_BinarySearch_string_empty Tryz.lays2x26 A c key w
    change Calls Tryz.prog 52 _ _ _ at cS
    refine cS.mono ?_
    rintro e w' ⟨rfl, rfl⟩
    exact ⟨rfl, Q.refl _⟩
  obtain ⟨A', c', e, hc, g⟩ := h
  simp only [Value.slice.injEq] at e
  obtain ⟨rfl, -, rfl⟩ := e
  obtain ⟨b, o, rfl, hk⟩ := g h0
  have cS := Any2.slices_BinarySearch_string Tryz.lays2x26 b o ks.length c (fun t => ks[t]?.getD key) key w (by omega) (fun j hj => by rw [KL.at ks b o w hk j hj, List.getElem?_eq_getElem hj]; rfl)
  change Calls Tryz.prog 52 _ _ _ at cS
  have hb : Lib.bsGo (fun t => Op.bytesLess (ks[t]?.getD key).toList key.toList) ks.length 0 ks.length = pl ks key := by
    refine Lib.bsGo_spec _ (pl ks key) (fun t ht => ?_) (fun t ht => ?_) _ _ _ (Nat.le_refl _) (Nat.zero_le _) (pl_le key ks)
    · have hl : t < ks.length := Nat.lt_of_lt_of_le ht (pl_le key ks)
      rw [List.getElem?_eq_getElem hl, less_cT']
      exact decide_eq_true (pl_below key ks t hl ht)
    · rw [less_cT']
      refine decide_eq_false ?_
      rcases Nat.lt_or_ge t ks.length with hl | hl
      · rw [List.getElem?_eq_getElem hl]
        exact pl_above key ks hs t hl ht
      · rw [List.getElem?_eq_none hl]
        show ¬ cT key key < 0
        have := (tot_cT.zero key key).2 rfl
        omega
  rw [hb] at cS
  have hf : decide (pl ks key < ks.length ∧ ks[pl ks key]?.getD key = key) = fnd ks key := by
    unfold fnd
    rcases Nat.lt_or_ge (pl ks key) ks.length with hl | hl
    · rw [List.getElem?_eq_getElem hl]
      simp [hl]
    · rw [List.getElem?_eq_none hl]
      simp [Nat.not_lt.2 hl]
  rw [hf] at cS
  refine cS.mono ?_
  rintro e w' ⟨rfl, n, rfl⟩
  exact ⟨rfl, Q.drewN _ _⟩
set_option maxRecDepth 100000 in
theorem isMap_any (k n : Int) (s : ByteArray) (A3 A4 : Option Addr) (n3 n4 k3 k4 : Nat) (w : World) :
    Calls Tryz.prog 53 #[.agg #[.int .i64 k, .int .i64 n, .string s, .slice A3 n3 k3, .slice A4 n4 k4]] w fun e w' => e = .returned (.bool (decide (k = 5 ∧ n4 = n3))) ∧ Q w w' := by
  by_cases h5 : k = 5
  · have e : decide (k = 5 ∧ n4 = n3) = ((n4 : Int) == (n3 : Int)) := by
      rw [Bool.eq_iff_iff]
      simp only [decide_eq_true_eq, beq_iff_eq]
      constructor
      · rintro ⟨_, h⟩; omega
      · intro h; exact ⟨h5, by omega⟩
    rw [e]
    clear e
    have h5' : (k == 5) = true := by rw [h5]; rfl
    clear h5
    go_enter Tryz.func53, Tryz.ntmps53
    go_wp2_with fail
    go_ret
    exact ⟨rfl, Q.box _ _⟩
  · rw [decide_eq_false (fun g => h5 g.1)]
    have h5' : (k == 5) = false := beq_eq_false_iff_ne.2 h5
    clear h5
    go_enter Tryz.func53, Tryz.ntmps53
    go_wp2_with fail
    go_ret
    exact ⟨rfl, Q.box _ _⟩

end Go.Proofs.YtjmchjphdfbhiaaGreatDoor.val
