/- A row of cells written over in the midst; and insert into a row that the call owns. -/
import Derived.Test.YtjmchjphdfbhiaaGreatDoorVin
import Derived.Deep.Upon
namespace Go.Proofs.YtjmchjphdfbhiaaGreatDoor.val
open Go.RowKit Go.Lib
open Go.Proofs.YtjmchjphdfbhiaaGreatDoor
/-- The block itself. -/
theorem block_setCells (g : Nat) (e : TypeId) (f : Nat × Nat) : ∀ (vs p mid q : List Value) (w : World), mid.length = vs.length → w.heap[g]? = some (.cells (p ++ mid ++ q).toArray e f) → (w.setCells g p.length vs).heap[g]? = some (.cells (p ++ vs ++ q).toArray e f)
  | [], p, mid, q, w, hl, h => by
    obtain rfl : mid = [] := List.length_eq_zero_iff.1 (by simpa using hl)
    exact h
  | v :: r, p, [], q, w, hl, h => by simp at hl
  | v :: r, p, m :: mr, q, w, hl, h => by
    have h1 : (w.setCell ⟨g, p.length, none⟩ v).heap[g]? = some (.cells ((p ++ [v]) ++ mr ++ q).toArray e f) := by
      show (w.heap.modify g _)[g]? = _
      rw [Array.getElem?_modify, if_pos rfl, h]
      simp
    have h2 := block_setCells g e f r (p ++ [v]) mr q _ (by simpa using hl) h1
    rw [World.setCells]
    simpa using h2
theorem block_put (g : Nat) (e : TypeId) (f : Nat × Nat) (L vs : List Value) (o : Nat) (w : World) (ho : o + vs.length ≤ L.length) (h : w.heap[g]? = some (.cells L.toArray e f)) :
    (w.setCells g o vs).heap[g]? = some (.cells (L.take o ++ vs ++ L.drop (o + vs.length)).toArray e f) := by
  have h1 := block_setCells g e f vs (L.take o) ((L.drop o).take vs.length) (L.drop (o + vs.length)) w (by simp; omega) (by
    rw [h, List.append_assoc, ← List.drop_drop, List.take_append_drop, List.take_append_drop])
  rwa [List.length_take, Nat.min_eq_left (by omega)] at h1
theorem grown_setCells (g : Nat) : ∀ (vs : List Value) (o : Nat) (w : World), w.grownBy (w.setCells g o vs) (some g)
  | [], _, w => ⟨rfl, rfl, rfl, Nat.le_refl _, fun _ _ _ => rfl⟩
  | v :: r, o, w => by
    have h := grown_setCells g r (o + 1) (w.setCell ⟨g, o, none⟩ v)
    refine ⟨h.os, h.tape, h.output, by have := h.size; rwa [World.size_setCell] at this, fun k hk hne => ?_⟩
    rw [World.setCells, h.block k (by rwa [World.size_setCell]) hne]
    show (w.heap.modify g _)[k]? = _
    rw [Array.getElem?_modify, if_neg (by rintro rfl; exact hne rfl)]
/-- Into a row that the call owns. -/
theorem insert_any (B D n c i : Nat) (A : Option Addr) (xs ys : List Value) (w : World) (own : w.ownsRow B 26 5 (.slice A n c) n xs) (hi : i ≤ n) (hn : n ≤ 1000000) (hB : B ≤ w.heap.size) (hDB : ∀ g, (Value.slice A n c).ownBlock = some g → D ≠ g) (hys : ys.length = 5) (hbD : Bk D ys.toArray 26 w) (h1x : ∀ v ∈ xs, v.oneCell' = true) (h1y : ∀ v ∈ ys, v.oneCell' = true) :
    Calls Tryz.prog 57 #[.slice A n c, .int .i64 i, .slice (some ⟨D, 0, none⟩) 1 1] w (Ins B n (.slice A n c) (xs.take (i * 5) ++ ys ++ xs.drop (i * 5)) w) := by
  have hxl : xs.length = n * 5 := own.1
  by_cases hin : i = n
  · subst hin
    rw [List.take_of_length_le (by omega), List.drop_of_length_le (by omega), List.append_nil]
    exact insert_end B D i c A xs ys w own hn hB hys hbD h1y
  rcases own.2 with ⟨e, e0⟩ | ⟨g, cap, cur, e, hBg, hg, h1, h2, hcs, hxs⟩
  · omega
  simp only [Value.slice.injEq] at e
  obtain ⟨rfl, _, rfl⟩ := e
  have hgw : g < w.heap.size := by
    rcases Nat.lt_or_ge g w.heap.size with h | h
    · exact h
    · rw [Array.getElem?_eq_none h] at hg
      cases hg
  have hD : D ≠ g := hDB g rfl
  have hc63 : c ≤ 9223372036854775807 := by unfold maxLen at h2; omega
  by_cases hroom : n + 1 ≤ c
  · refine (insert_room g D n c i cur xs ys w (by omega) hroom hn hc63 hD hg hcs hxs hys hbD h1x h1y).mono fun e w' h => ?_
    obtain ⟨rfl, rfl⟩ := h
    have hl : cur.toList.length = c * 5 := by rw [Array.length_toList, hcs]
    have b1 := block_put g 26 (0, 0) cur.toList (xs.drop (i * 5)) ((i + 1) * 5) w.drew (by rw [List.length_drop, hl]; omega) hg
    have b2 := block_put g 26 (0, 0) _ ys (i * 5) _ (by simp only [List.length_append, List.length_take, List.length_drop, hl]; omega) b1
    refine ⟨g, c, rfl, ⟨by simp only [List.length_append, List.length_take, List.length_drop]; omega, Or.inr ⟨g, c, _, rfl, hBg, b2, hroom, h2, ?_, ?_⟩⟩, ?_, Or.inl rfl⟩
    · simp only [List.size_toArray, List.length_append, List.length_take, List.length_drop, hl]
      omega
    · have ht : cur.toList.take (i * 5) = xs.take (i * 5) := by rw [← hxs, List.take_take, Nat.min_eq_left (by omega)]
      have hk : ((cur.toList.take ((i + 1) * 5) ++ xs.drop (i * 5) ++ cur.toList.drop ((i + 1) * 5 + (xs.drop (i * 5)).length)).take (i * 5)) = xs.take (i * 5) := by
        rw [List.append_assoc, List.take_append_of_le_length (by rw [List.length_take, hl]; omega), List.take_take, Nat.min_eq_left (by omega), ht]
      have hd : ((cur.toList.take ((i + 1) * 5) ++ xs.drop (i * 5) ++ cur.toList.drop ((i + 1) * 5 + (xs.drop (i * 5)).length)).drop (i * 5 + ys.length)) = xs.drop (i * 5) ++ cur.toList.drop ((i + 1) * 5 + (xs.drop (i * 5)).length) := by
        rw [List.append_assoc, List.drop_append_of_le_length (by rw [List.length_take, hl]; omega), List.drop_of_length_le (by rw [List.length_take, hl]; omega), List.nil_append]
      rw [hk, hd]
      rw [← List.append_assoc, List.take_append_of_le_length (by simp only [List.length_append, List.length_take, List.length_drop]; omega), List.take_of_length_le (by simp only [List.length_append, List.length_take, List.length_drop]; omega)]
    · have g1 := grown_setCells g (xs.drop (i * 5)) ((i + 1) * 5) w.drew
      have g2 := grown_setCells g ys (i * 5) (w.drew.setCells g ((i + 1) * 5) (xs.drop (i * 5)))
      have hs1 := g1.size
      exact ⟨g2.os.trans g1.os, g2.tape.trans g1.tape, g2.output.trans g1.output, Nat.le_trans g1.size g2.size, fun k hk hne => (g2.block k (Nat.lt_of_lt_of_le hk g1.size) hne).trans (g1.block k hk hne)⟩
  · have hxc : ∀ j v, xs[j]? = some v → w.cell? ⟨g, j, none⟩ = some v := fun j v hj => by
      have hjl : j < n * 5 := by have := (List.getElem?_eq_some_iff.1 hj).1; omega
      rw [← hxs, List.getElem?_take, if_pos hjl, Array.getElem?_toList] at hj
      unfold World.cell?
      simp only [hg]
      exact hj
    refine (insert_grow g D n c i xs ys w (by omega) h1 (by omega) hn hgw hxl hxc hys hbD h1x h1y).mono fun e w' h => ?_
    obtain ⟨rfl, rfl⟩ := h
    obtain ⟨G, hG⟩ : ∃ G, G = grownCap w (n + 1) c 26 := ⟨_, rfl⟩
    have hGe : n + 1 ≤ G := by rw [hG]; exact grownCap_ge w _ _ _
    have hGm : G ≤ maxLen := by rw [hG]; exact grownCap_le_maxLen w _ _ _ (by unfold maxLen; omega)
    rw [← hG]
    obtain ⟨L, hL⟩ : ∃ L : List Value, L = ((xs.take (i * 5)).toArray ++ Builtin.zeroCells z5 (n + 1 - i) ++ Builtin.zeroCells z5 (G - (n + 1))).toList := ⟨_, rfl⟩
    have hz : ∀ m, (Builtin.zeroCells z5 m).size = m * 5 := fun m => by
      rw [size_zeroCells]
      rfl
    have hl : L.length = G * 5 := by
      rw [hL, Array.length_toList, Array.size_append, Array.size_append, hz, hz, List.size_toArray, List.length_take]
      omega
    have ht : L.take (i * 5) = xs.take (i * 5) := by
      rw [hL, Array.toList_append, Array.toList_append, List.append_assoc, List.take_append_of_le_length (by simp only [List.length_take]; omega), List.take_of_length_le (by simp only [List.length_take]; omega)]
    have hgb : ∀ a : Array Value, a = a.toList.toArray := fun a => by simp
    have b0 : (w.alloc (.cells ((xs.take (i * 5)).toArray ++ Builtin.zeroCells z5 (n + 1 - i) ++ Builtin.zeroCells z5 (G - (n + 1))) 26)).drew.heap[w.heap.size]? = some (.cells L.toArray 26 (0, 0)) := by
      rw [hL, ← hgb]
      exact heap_alloc_new w _
    obtain ⟨W0, hW0⟩ : ∃ W0, W0 = (w.alloc (.cells ((xs.take (i * 5)).toArray ++ Builtin.zeroCells z5 (n + 1 - i) ++ Builtin.zeroCells z5 (G - (n + 1))) 26)).drew := ⟨_, rfl⟩
    have q0 : w.grownBy W0 none := by
      rw [hW0]
      refine ⟨rfl, rfl, rfl, by simp, fun k hk _ => ?_⟩
      exact Array.getElem?_push_lt .. |>.trans (Array.getElem?_eq_getElem hk).symm
    rw [← hW0] at b0 ⊢
    have b1 := block_put w.heap.size 26 (0, 0) L ys (i * 5) W0 (by omega) b0
    obtain ⟨L1, hL1⟩ : ∃ L1, L1 = L.take (i * 5) ++ ys ++ L.drop (i * 5 + ys.length) := ⟨_, rfl⟩
    rw [← hL1] at b1
    have hl1 : L1.length = G * 5 := by
      rw [hL1]
      simp only [List.length_append, List.length_take, List.length_drop]
      omega
    have b2 := block_put w.heap.size 26 (0, 0) L1 (xs.drop (i * 5)) ((i + 1) * 5) (W0.setCells w.heap.size (i * 5) ys).drew (by rw [List.length_drop]; omega) b1
    refine ⟨w.heap.size, G, rfl, ⟨by simp only [List.length_append, List.length_take, List.length_drop]; omega, Or.inr ⟨w.heap.size, G, _, rfl, hB, b2, hGe, hGm, ?_, ?_⟩⟩, ?_, Or.inr rfl⟩
    · simp only [List.size_toArray, List.length_append, List.length_take, List.length_drop]
      omega
    · have hk : L1.take ((i + 1) * 5) = xs.take (i * 5) ++ ys := by
        rw [hL1, List.take_append_of_le_length (by simp only [List.length_append, List.length_take]; omega), List.take_of_length_le (by simp only [List.length_append, List.length_take]; omega), ht]
      rw [hk]
      rw [List.take_append_of_le_length (by simp only [List.length_append, List.length_take, List.length_drop]; omega), List.take_of_length_le (by simp only [List.length_append, List.length_take, List.length_drop]; omega)]
    · have g1 := grown_setCells w.heap.size ys (i * 5) W0
      have g2 := grown_setCells w.heap.size (xs.drop (i * 5)) ((i + 1) * 5) (W0.setCells w.heap.size (i * 5) ys).drew
      have hs0 := q0.size
      have hs1 := g1.size
      refine ⟨g2.os.trans (g1.os.trans q0.os), g2.tape.trans (g1.tape.trans q0.tape), g2.output.trans (g1.output.trans q0.output), Nat.le_trans hs0 (Nat.le_trans hs1 g2.size), fun k hk hne => ?_⟩
      have hkne : some k ≠ some w.heap.size := by simp only [ne_eq, Option.some.injEq]; omega
      exact (g2.block k (Nat.lt_of_lt_of_le hk (Nat.le_trans hs0 hs1)) hkne).trans ((g1.block k (Nat.lt_of_lt_of_le hk hs0) hkne).trans (q0.block k hk (by simp)))
end Go.Proofs.YtjmchjphdfbhiaaGreatDoor.val
