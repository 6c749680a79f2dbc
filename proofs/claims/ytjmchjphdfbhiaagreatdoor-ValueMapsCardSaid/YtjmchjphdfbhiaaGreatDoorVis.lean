/- slices.Insert at strings: one string into a row that the call owns. -/
import Derived.Test.YtjmchjphdfbhiaaGreatDoorVic
import Derived.Test.YtjmchjphdfbhiaaGreatDoorSlb
namespace Go.Proofs.YtjmchjphdfbhiaaGreatDoor.val
open Go.RowKit Go.Lib
open Go.Proofs.YtjmchjphdfbhiaaGreatDoor
/-- What insert leaves. -/
def InsS (B n : Nat) (v : Value) (zs : List Value) (w : World) (e : Ending) (w' : World) : Prop := ∃ g c, e = .returned (.slice (some ⟨g, 0, none⟩) (n + 1) c) ∧ w'.ownsRow B 9 1 (.slice (some ⟨g, 0, none⟩) (n + 1) c) (n + 1) zs ∧ w.grownBy w' v.ownBlock ∧ (v.ownBlock = some g ∨ g = w.heap.size)
theorem zeroS (m : Nat) : (Builtin.zeroCells (Value.string ⟨#[]⟩).cells m).size = m := by
  rw [size_zeroCells]
  show m * 1 = m
  omega
theorem grown_alloc (w : World) (cs : Array Value) (T : TypeId) : w.grownBy (w.alloc (.cells cs T)).drew none := by
  refine ⟨rfl, rfl, rfl, by simp, fun k hk _ => ?_⟩
  exact Array.getElem?_push_lt .. |>.trans (Array.getElem?_eq_getElem hk).symm
/-- Two rows written one behind the other into a new one. -/
theorem two_rows (w : World) (T : TypeId) (ROW ys zs : List Value) (a b : Nat) (k : Nat) (ha : a + ys.length = b) (hb : b + zs.length = k) (hk : k ≤ ROW.length) :
    ∃ cur : List Value, ((((w.alloc (.cells ROW.toArray T)).drew.setCells w.heap.size a ys).drew).setCells w.heap.size b zs).heap[w.heap.size]? = some (.cells cur.toArray T (0, 0)) ∧ cur.length = ROW.length ∧ cur.take k = ROW.take a ++ ys ++ zs ∧
      w.grownBy ((((w.alloc (.cells ROW.toArray T)).drew.setCells w.heap.size a ys).drew).setCells w.heap.size b zs) none := by
  have b0 : (w.alloc (.cells ROW.toArray T)).drew.heap[w.heap.size]? = some (.cells ROW.toArray T (0, 0)) := heap_alloc_new w _
  have q0 := grown_alloc w ROW.toArray T
  obtain ⟨W0, hW0⟩ : ∃ W0, W0 = (w.alloc (.cells ROW.toArray T)).drew := ⟨_, rfl⟩
  rw [← hW0] at b0 q0 ⊢
  have b1 := block_put w.heap.size T (0, 0) ROW ys a W0 (by omega) b0
  obtain ⟨L1, hL1⟩ : ∃ L1, L1 = ROW.take a ++ ys ++ ROW.drop (a + ys.length) := ⟨_, rfl⟩
  rw [← hL1] at b1
  have hl1 : L1.length = ROW.length := by
    rw [hL1]
    simp only [List.length_append, List.length_take, List.length_drop]
    omega
  have b2 := block_put w.heap.size T (0, 0) L1 zs b (W0.setCells w.heap.size a ys).drew (by omega) b1
  refine ⟨_, b2, ?_, ?_, ?_⟩
  · simp only [List.length_append, List.length_take, List.length_drop]
    omega
  · have h : L1.take b = ROW.take a ++ ys := by
      rw [hL1, List.take_append_of_le_length (by simp only [List.length_append, List.length_take]; omega), List.take_of_length_le (by simp only [List.length_append, List.length_take]; omega)]
    rw [h, List.take_append_of_le_length (by simp only [List.length_append, List.length_take]; omega), List.take_of_length_le (by simp only [List.length_append, List.length_take]; omega)]
  · have g1 := grown_setCells w.heap.size ys a W0
    have g2 := grown_setCells w.heap.size zs b (W0.setCells w.heap.size a ys).drew
    have hs0 := q0.size
    have hs1 := g1.size
    refine ⟨g2.os.trans (g1.os.trans q0.os), g2.tape.trans (g1.tape.trans q0.tape), g2.output.trans (g1.output.trans q0.output), Nat.le_trans hs0 (Nat.le_trans hs1 g2.size), fun k hk hne => ?_⟩
    have hkne : some k ≠ some w.heap.size := by simp only [ne_eq, Option.some.injEq]; omega
    exact (g2.block k (Nat.lt_of_lt_of_le hk (Nat.le_trans hs0 hs1)) hkne).trans ((g1.block k (Nat.lt_of_lt_of_le hk hs0) hkne).trans (q0.block k hk (by simp)))
/-- Into a row that the call owns. -/
theorem insertS_any (B D n c i : Nat) (A : Option Addr) (xs : List Value) (y : ByteArray) (w : World) (own : w.ownsRow B 9 1 (.slice A n c) n xs) (hi : i ≤ n) (hn : n ≤ 1000000) (hB : B ≤ w.heap.size) (hDB : ∀ g, (Value.slice A n c).ownBlock = some g → D ≠ g) (hbD : Bk D #[.string y] 9 w) (h1x : ∀ v ∈ xs, v.oneCell' = true) :
    Calls Tryz.prog 56 #[.slice A n c, .int .i64 i, .slice (some ⟨D, 0, none⟩) 1 1] w (InsS B n (.slice A n c) (xs.take i ++ [.string y] ++ xs.drop i) w) := by
  have hxl : xs.length = n := by have := own.1; omega
  have hvs : ∀ j v, ([Value.string y])[j]? = some v → w.cell? ⟨D, 0 + j, none⟩ = some v := fun j v hj => by
    rw [Nat.zero_add]
    exact hbD.at j v (by simpa using hj)
  have h1v : ∀ v ∈ [Value.string y], v.oneCell' = true := fun v hv => by
    rw [List.mem_singleton.1 hv]
    rfl
  have hsa : w.shape? D = some (9, 1) := by
    unfold World.shape?
    simp only [show w.heap[D]? = _ from hbD]
    rfl
  rcases own.2 with ⟨e, e0⟩ | ⟨g, cap, cur, e, hBg, hg, h1, h2, hcs, hxs⟩
  · simp only [Value.slice.injEq] at e
    obtain ⟨rfl, _, rfl⟩ := e
    subst e0
    obtain rfl : i = 0 := by omega
    obtain rfl : xs = [] := List.length_eq_zero_iff.1 hxl
    refine (Any2.slices_Insert_string_end_grow Tryz.lays2x22 none 0 0 D 0 1 1 [] [.string y] w (by decide) (by decide) (by decide) (by decide) rfl rfl (fun _ => rfl) (fun a e => by cases e) hvs h1v).mono fun e w' h => ?_
    obtain ⟨rfl, rfl⟩ := h
    have hGe := grownCap_ge w (0 + 1) 0 9
    refine ⟨w.heap.size, _, rfl, ⟨rfl, Or.inr ⟨w.heap.size, _, _, rfl, hB, heap_alloc_new w.drew _, hGe, grownCap_le_maxLen w _ _ _ (by unfold maxLen; omega), ?_, ?_⟩⟩, ?_, Or.inr rfl⟩
    · simp only [Array.size_append, zeroS, List.size_toArray, List.nil_append, List.length_singleton]
      show 1 + (grownCap w (0 + 1) 0 9 - (0 + 1)) = grownCap w (0 + 1) 0 9 * 1
      omega
    · simp
    · exact grown_alloc w _ _
  simp only [Value.slice.injEq] at e
  obtain ⟨rfl, _, rfl⟩ := e
  have hgw : g < w.heap.size := by
    rcases Nat.lt_or_ge g w.heap.size with h | h
    · exact h
    · rw [Array.getElem?_eq_none h] at hg
      cases hg
  have hD : D ≠ g := hDB g rfl
  have hl : cur.toList.length = c := by rw [Array.length_toList, hcs]; omega
  have hc63 : c ≤ 9223372036854775807 := by unfold maxLen at h2; omega
  have hcell : ∀ j, w.cell? ⟨g, 0 + j, none⟩ = cur[j]? := fun j => by
    rw [Nat.zero_add]
    unfold World.cell?
    simp only [hg]
    rfl
  have hxc : ∀ j v, xs[j]? = some v → w.cell? ⟨g, 0 + j, none⟩ = some v := fun j v hj => by
    have hjl : j < n * 1 := by have := (List.getElem?_eq_some_iff.1 hj).1; omega
    rw [hcell]
    rw [← hxs, List.getElem?_take, if_pos hjl, Array.getElem?_toList] at hj
    exact hj
  have hsp : ∀ j, j < c → (w.cell? ⟨g, 0 + j, none⟩).isSome = true := fun j hj => by rw [hcell, Array.getElem?_eq_getElem (by omega)]; rfl
  have hfz : ∀ j, w.frozen? ⟨g, j, none⟩ = false := fun j => by
    unfold World.frozen?
    simp only [hg]
    rw [Bool.and_eq_false_iff]
    right
    exact decide_eq_false (by simp)
  have hsb : w.shape? g = some (9, cur.size) := by
    unfold World.shape?
    simp only [hg]
  by_cases hroom : n + 1 ≤ c
  · by_cases hin : i = n
    · subst hin
      rw [List.take_of_length_le (by omega), List.drop_of_length_le (by omega), List.append_nil]
      refine (Any2.slices_Insert_string_end_room Tryz.lays2x22 g 0 i c D 0 1 1 [.string y] w (by decide) hroom hc63 rfl (fun j hj => by rw [Nat.zero_add]; have := hsp (i + j) (by omega); rwa [Nat.zero_add] at this) (fun j hj => hfz _) hvs h1v).mono fun e w' h => ?_
      obtain ⟨rfl, rfl⟩ := h
      rw [Nat.zero_add]
      have b1 := block_put g 9 (0, 0) cur.toList [.string y] i w (by show i + 1 ≤ _; omega) hg
      refine ⟨g, c, rfl, ⟨by simp only [List.length_append, List.length_singleton]; omega, Or.inr ⟨g, c, _, rfl, hBg, b1, hroom, h2, ?_, ?_⟩⟩, grown_setCells g _ _ w, Or.inl rfl⟩
      · simp only [List.size_toArray, List.length_append, List.length_take, List.length_drop, List.length_singleton]
        omega
      · have ht : cur.toList.take i = xs := by rw [← hxs, Nat.mul_one]
        rw [ht, List.take_append_of_le_length (by simp only [List.length_append, List.length_singleton]; omega), List.take_of_length_le (by simp only [List.length_append, List.length_singleton]; omega)]
    · refine (Any2.slices_Insert_string_shift Tryz.lays2x22 g 0 n c i D 0 1 1 xs [.string y] w (by omega) (by decide) hroom hc63 hD hxl rfl hxc (fun j hj => hsp j (by omega)) (fun j _ => hfz _) hvs h1x h1v 9 9 1 cur.size hsa hsb (by omega) (hbD.frozen _) (hbD.frozen _)).mono fun e w' h => ?_
      obtain ⟨rfl, rfl⟩ := h
      rw [Nat.zero_add, Nat.zero_add]
      have b1 := block_put g 9 (0, 0) cur.toList (xs.drop i) (i + 1) w.drew (by rw [List.length_drop]; omega) hg
      have b2 := block_put g 9 (0, 0) _ [.string y] i _ (by simp only [List.length_append, List.length_take, List.length_drop, List.length_singleton, hl]; omega) b1
      refine ⟨g, c, rfl, ⟨by simp only [List.length_append, List.length_take, List.length_drop, List.length_singleton]; omega, Or.inr ⟨g, c, _, rfl, hBg, b2, hroom, h2, ?_, ?_⟩⟩, ?_, Or.inl rfl⟩
      · simp only [List.size_toArray, List.length_append, List.length_take, List.length_drop, List.length_singleton, hl]
        omega
      · have ht : cur.toList.take i = xs.take i := by rw [← hxs, List.take_take, Nat.min_eq_left (by omega)]
        have hk : ((cur.toList.take (i + 1) ++ xs.drop i ++ cur.toList.drop (i + 1 + (xs.drop i).length)).take i) = xs.take i := by
          rw [List.append_assoc, List.take_append_of_le_length (by rw [List.length_take, hl]; omega), List.take_take, Nat.min_eq_left (by omega), ht]
        have hd : ((cur.toList.take (i + 1) ++ xs.drop i ++ cur.toList.drop (i + 1 + (xs.drop i).length)).drop (i + [Value.string y].length)) = xs.drop i ++ cur.toList.drop (i + 1 + (xs.drop i).length) := by
          rw [List.append_assoc, List.length_singleton, List.drop_append_of_le_length (by rw [List.length_take, hl]; omega), List.drop_of_length_le (by rw [List.length_take, hl]; omega), List.nil_append]
        rw [hk, hd]
        rw [← List.append_assoc, List.take_append_of_le_length (by simp only [List.length_append, List.length_take, List.length_drop, List.length_singleton]; omega), List.take_of_length_le (by simp only [List.length_append, List.length_take, List.length_drop, List.length_singleton]; omega)]
      · have g1 := grown_setCells g (xs.drop i) (i + 1) w.drew
        have g2 := grown_setCells g [.string y] i (w.drew.setCells g (i + 1) (xs.drop i))
        exact ⟨g2.os.trans g1.os, g2.tape.trans g1.tape, g2.output.trans g1.output, Nat.le_trans g1.size g2.size, fun k hk hne => (g2.block k (Nat.lt_of_lt_of_le hk g1.size) hne).trans (g1.block k hk hne)⟩
  · have hbig : (n + 1) * 16 ≤ 140737488355328 := by omega
    obtain ⟨G, hG⟩ : ∃ G, G = grownCap w (n + 1) c 9 := ⟨_, rfl⟩
    have hGe : n + 1 ≤ G := by rw [hG]; exact grownCap_ge w _ _ _
    have hGm : G ≤ maxLen := by rw [hG]; exact grownCap_le_maxLen w _ _ _ (by unfold maxLen; omega)
    by_cases hin : i = n
    · subst hin
      rw [List.take_of_length_le (by omega), List.drop_of_length_le (by omega), List.append_nil]
      refine (Any2.slices_Insert_string_end_grow Tryz.lays2x22 (some ⟨g, 0, none⟩) i c D 0 1 1 xs [.string y] w (by decide) h1 (by omega) hbig hxl rfl (fun e => by cases e) (fun a e j v hj => by cases e; rw [Addr.add_lit]; exact hxc j v hj) hvs h1v).mono fun e w' h => ?_
      obtain ⟨rfl, rfl⟩ := h
      have hG' : grownCap w (i + 1) c (Tryz.lays2x22_ren.t 9) = G := hG.symm
      rw [hG']
      refine ⟨w.heap.size, G, rfl, ⟨by simp only [List.length_append, List.length_singleton]; omega, Or.inr ⟨w.heap.size, G, _, rfl, hB, heap_alloc_new w.drew _, hGe, hGm, ?_, ?_⟩⟩, ?_, Or.inr rfl⟩
      · simp only [Array.size_append, zeroS, List.size_toArray, List.length_append, List.length_singleton]
        omega
      · rw [Array.toList_append, List.take_append_of_le_length (by simp only [List.length_append, List.length_singleton]; omega), List.take_of_length_le (by simp only [List.length_append, List.length_singleton]; omega)]
      · have h := grown_alloc w ((xs ++ [Value.string y]).toArray ++ Builtin.zeroCells (Value.string ⟨#[]⟩).cells (G - (i + 1))) 9
        exact ⟨h.os, h.tape, h.output, h.size, fun k hk _ => h.block k hk (by simp)⟩
    · refine (Any2.slices_Insert_string_grow Tryz.lays2x22 g 0 n c i D 0 1 1 xs [.string y] w (by omega) (by decide) h1 (by omega) hbig hxl rfl hxc hvs h1x h1v).mono fun e w' h => ?_
      obtain ⟨rfl, rfl⟩ := h
      have hG' : grownCap w (n + 1) c (Tryz.lays2x22_ren.t 9) = G := hG.symm
      rw [hG']
      obtain ⟨ROW, hROW⟩ : ∃ ROW : List Value, ROW = ((xs.take i).toArray ++ Builtin.zeroCells (Value.string ⟨#[]⟩).cells (n + 1 - i) ++ Builtin.zeroCells (Value.string ⟨#[]⟩).cells (G - (n + 1))).toList := ⟨_, rfl⟩
      have hRl : ROW.length = G := by
        rw [hROW, Array.length_toList, Array.size_append, Array.size_append, zeroS, zeroS, List.size_toArray, List.length_take]
        omega
      have hRt : ROW.take i = xs.take i := by
        rw [hROW, Array.toList_append, Array.toList_append, List.append_assoc, List.take_append_of_le_length (by simp only [List.length_take]; omega), List.take_of_length_le (by simp only [List.length_take]; omega)]
      rw [show (xs.take i).toArray ++ Builtin.zeroCells (Value.string ⟨#[]⟩).cells (n + 1 - i) ++ Builtin.zeroCells (Value.string ⟨#[]⟩).cells (G - (n + 1)) = ROW.toArray by rw [hROW]]
      obtain ⟨cur2, h1', h2', h3', h4'⟩ := two_rows w 9 ROW [.string y] (xs.drop i) i (i + 1) (n + 1) rfl (by rw [List.length_drop]; omega) (by omega)
      refine ⟨w.heap.size, G, rfl, ⟨by simp only [List.length_append, List.length_take, List.length_drop, List.length_singleton]; omega, Or.inr ⟨w.heap.size, G, _, rfl, hB, h1', hGe, hGm, by rw [List.size_toArray]; omega, ?_⟩⟩, ⟨h4'.os, h4'.tape, h4'.output, h4'.size, fun k hk _ => h4'.block k hk (by simp)⟩, Or.inr rfl⟩
      show cur2.take _ = _
      rw [Nat.mul_one, h3', hRt]
end Go.Proofs.YtjmchjphdfbhiaaGreatDoor.val
