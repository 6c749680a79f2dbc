/- slices.Insert at values: one value into a row that the call owns. -/
import Derived.Test.YtjmchjphdfbhiaaGreatDoorVpw
import Derived.Shelf.Spec.SlicesInsert
import Derived.Shelf.Spec.SlicesInsertGrow
import Derived.Lib.Overlaps
import Derived.Lib.AppendZerosOnto
import Derived.Deep.AppendLies
namespace Go.Proofs.YtjmchjphdfbhiaaGreatDoor.val
open Go.RowKit Go.Lib
open Go.Proofs.YtjmchjphdfbhiaaGreatDoor
def z5 : Array Value := #[.int .i64 0, .int .i64 0, .string ⟨#[]⟩, .slice none 0 0, .slice none 0 0]
theorem size5 : (Tryz.prog.info? 26).map (·.size) = some 5 := by kernel_rfl
theorem sizeof5 (w : World) : (Go.sizeOf 26).run Tryz.prog w = .ok 5 w := by
  obtain ⟨i0, hi, hz0, hz1, hz2⟩ := info_parts info_val
  simp [sizeOf, typeInfo, hi, hz1]
/-- copy between rows of values. -/
theorem run_copy5 (w : World) (ty : TypeId) (b o dLen dCap : Nat) (a : Addr) (sLen sCap k : Nat) (cs : List Value) (hk : k = Nat.min sLen dLen) (hn : cs.length = k * 5)
    (hsrc : ∀ j v, cs[j]? = some v → w.cell? (a.add j) = some v) (hc : ∀ j, j < cs.length → (w.cell? ⟨b, o + j, none⟩).isSome = true) (hf : ∀ j, j < cs.length → w.frozen? ⟨b, o + j, none⟩ = false) (h1 : ∀ v ∈ cs, v.oneCell' = true) :
    (Builtin.copy_ #[23, 23] ty #[.slice (some ⟨b, o, none⟩) dLen dCap, .slice (some a) sLen sCap]).run Tryz.prog w = .ok (goInt k) (w.setCells b o cs) := by
  have hl := run_loadCells_list (P := Tryz.prog) w a cs hsrc
  have hst := run_storeCells_cells (P := Tryz.prog) b o cs 0 w (by simpa using hc) (by simpa using hf) h1
  have hs := size5
  cases hq : Tryz.prog.info? 26 with
  | none => simp [hq] at hs
  | some i =>
    have hi : i.size = 5 := by simpa [hq] using hs
    rw [hn] at hl
    simp [Builtin.copy_, run_underlying Tryz.underlying23, Builtin.lenOf, Builtin.firstCells, sizeOf, typeInfo, hq, hi, ← hk, hl, hst]
set_option maxHeartbeats 4000000 in
set_option maxRecDepth 100000 in
/-- There is room, and the place is not the end: in the block itself. -/
theorem insert_room (g D n c i : Nat) (cur : Array Value) (xs ys : List Value) (w : World) (hi : i < n) (hroom : n + 1 ≤ c) (hn : n ≤ 1000000) (hc63 : c ≤ 9223372036854775807) (hD : D ≠ g)
    (hg : w.heap[g]? = some (.cells cur 26 (0, 0))) (hcs : cur.size = c * 5) (hxs : cur.toList.take (n * 5) = xs) (hys : ys.length = 5) (hbD : Bk D ys.toArray 26 w) (h1x : ∀ v ∈ xs, v.oneCell' = true) (h1y : ∀ v ∈ ys, v.oneCell' = true) :
    Calls Tryz.prog 57 #[.slice (some ⟨g, 0, none⟩) n c, .int .i64 i, .slice (some ⟨D, 0, none⟩) 1 1] w fun e w' =>
      e = .returned (.slice (some ⟨g, 0, none⟩) (n + 1) c) ∧ w' = (w.drew.setCells g ((i + 1) * 5) (xs.drop (i * 5))).setCells g (i * 5) ys := by
  have hxl : xs.length = n * 5 := by rw [← hxs, List.length_take, Array.length_toList, hcs]; omega
  have hcell : ∀ j, j < c * 5 → w.cell? ⟨g, j, none⟩ = cur[j]? := fun j _ => by
    unfold World.cell?
    simp only [hg]
    rfl
  have hxc : ∀ j v, xs[j]? = some v → w.cell? ⟨g, j, none⟩ = some v := fun j v hj => by
    have hjl : j < n * 5 := by have := (List.getElem?_eq_some_iff.1 hj).1; omega
    rw [hcell j (by omega)]
    rw [← hxs, List.getElem?_take, if_pos hjl, Array.getElem?_toList] at hj
    exact hj
  have hsp : ∀ j, j < c * 5 → (w.cell? ⟨g, j, none⟩).isSome = true := fun j hj => by rw [hcell j hj, Array.getElem?_eq_getElem (by omega)]; rfl
  have hfz : ∀ j, w.frozen? ⟨g, j, none⟩ = false := fun j => by
    unfold World.frozen?
    simp only [hg]
    rw [Bool.and_eq_false_iff]
    right
    exact decide_eq_false (by simp)
  have hyc : ∀ j v, ys[j]? = some v → w.cell? ⟨D, j, none⟩ = some v := fun j v hj => hbD.at j v (by simpa using hj)
  have hsa : w.shape? D = some (26, ys.toArray.size) := by
    unfold World.shape?
    simp only [show w.heap[D]? = _ from hbD]
  have hsb : w.shape? g = some (26, cur.size) := by
    unfold World.shape?
    simp only [hg]
  have hov : ∀ lb cb, (callFunc 82 #[.slice (some ⟨D, 0, none⟩) 1 1, .slice (some ⟨g, (i + 1) * 5, none⟩) lb cb]).run Tryz.prog w = .ok (.value (.bool false)) w := fun lb cb => by
    rw [run_callFunc_extern Tryz.func82 (by kernel_rfl) (by kernel_rfl) (by kernel_rfl) (e := Extern.SlicesOverlaps.overlaps #[23, 23] #[4]) (by kernel_rfl),
      Lib.run_overlaps_apart w 23 4 26 Tryz.underlying23 5 sizeof5 ⟨D, 0, none⟩ ⟨g, (i + 1) * 5, none⟩ 1 1 lb cb hD 26 26 ys.toArray.size cur.size hsa hsb (by omega) (hbD.frozen 0) (hbD.frozen _)]
    rfl
  have hz2 : ¬ ((i : Int) = (n : Int)) := by omega
  have hz2' : ((i : Int) == (n : Int)) = false := by rw [beq_eq_false_iff_ne]; omega
  have hin : (i : Int) ≤ (n : Int) := by omega
  have hb1 : (n : Int) + 1 ≤ (c : Int) := by omega
  have hb2 : decide ((c : Int) < (n : Int) + 1) = false := decide_eq_false (by omega)
  have hb3 : (i : Int) + 1 ≤ (n : Int) + 1 := by omega
  have hw1 : IntKind.i64.wrap ((i : Int) + 1) = (i : Int) + 1 := by rw [IntKind.wrap_i64]; omega
  have hnb : (n : Int) ≤ 1000000 := by omega
  have hcb : (c : Int) ≤ 9223372036854775807 := by omega
  have hi0 : (0 : Int) ≤ (i : Int) + 1 := by omega
  have mixed : Tryz.prog.follows Departure.mixedOrders = true := by kernel_rfl
  have hc4 : ¬ (c = i + 1) := by omega
  have hc5 : ¬ (c = i) := by omega
  have hb4 : (i : Int) ≤ (n : Int) + 1 := by omega
  have htn : ((i : Int) + 1).toNat = i + 1 := by omega
  have hdl : (xs.drop (i * 5)).length = (n - i) * 5 := by rw [List.length_drop, hxl]; omega
  have hcp1 : ∀ ty dc sc, (Builtin.copy_ #[23, 23] ty #[.slice (some ⟨g, (i + 1) * 5, none⟩) (n - i) dc, .slice (some ⟨g, i * 5, none⟩) (n + 1 - i) sc]).run Tryz.prog w.drew = .ok (goInt (n - i : Nat)) (w.drew.setCells g ((i + 1) * 5) (xs.drop (i * 5))) := fun ty dc sc =>
    run_copy5 w.drew ty g ((i + 1) * 5) (n - i) dc ⟨g, i * 5, none⟩ (n + 1 - i) sc (n - i) (xs.drop (i * 5)) (by simp only [Nat.min_def]; split <;> omega) hdl
      (fun j v hj => by rw [Addr.add_lit]; exact hxc (i * 5 + j) v (by rwa [List.getElem?_drop] at hj))
      (fun j hj => hsp _ (by rw [hdl] at hj; omega)) (fun j _ => hfz _) (fun v hv => h1x v (List.mem_of_mem_drop hv))
  obtain ⟨W1, hW1⟩ : ∃ W1, W1 = w.drew.setCells g ((i + 1) * 5) (xs.drop (i * 5)) := ⟨_, rfl⟩
  have hsp1 : ∀ j, j < c * 5 → (W1.cell? ⟨g, j, none⟩).isSome = true := fun j hj => by
    rw [hW1]
    exact isSome_setCells g (xs.drop (i * 5)) ((i + 1) * 5) w.drew (fun k hk => hsp _ (by rw [hdl] at hk; omega)) _ (hsp j hj)
  have hcp2 : ∀ (W : World), (∀ x, W.cell? x = W1.cell? x) → (∀ x, W.frozen? x = W1.frozen? x) → ∀ ty dc, (Builtin.copy_ #[23, 23] ty #[.slice (some ⟨g, i * 5, none⟩) (n + 1 - i) dc, .slice (some ⟨D, 0, none⟩) 1 1]).run Tryz.prog W = .ok (goInt (1 : Nat)) (W.setCells g (i * 5) ys) := fun W hWc hWf ty dc =>
    run_copy5 W ty g (i * 5) (n + 1 - i) dc ⟨D, 0, none⟩ 1 1 1 ys (by simp only [Nat.min_def]; split <;> omega) (by rw [hys])
      (fun j v hj => by
        rw [Addr.add_lit, hWc, hW1, World.cell?_setCells_out g _ _ _ _ (fun h _ => absurd h hD), Nat.zero_add]
        exact hyc j v hj)
      (fun j hj => by rw [hWc]; exact hsp1 _ (by omega)) (fun j _ => by rw [hWf, hW1, World.frozen?_setCells]; exact hfz _) h1y
  rw [← hW1] at hcp1
  clear hcell hxc hsp hyc hsa hsb hxs hcs hdl hsp1
  go_enter Tryz.func57, Tryz.ntmps57
  go_wp2_with (simp only [hov])
  go_region_law_o (refine step_copy_runI rfl _ _ 23 23 rfl _ _ (by simp [Act.eval, Act.put]) (by simp [Act.eval, Act.put]) (hcp1 _ _ _) ?_)
  go_wp2_with (at_builtin; refine wpList_copy_runI _ rfl _ _ 23 23 rfl _ _ rfl rfl (hcp2 _ (fun _ => rfl) (fun _ => rfl) _ _) ?_)
  go_ret
  first | exact ⟨rfl, rfl⟩ | exact ⟨rfl, by rw [hW1]⟩
set_option maxHeartbeats 4000000 in
set_option maxRecDepth 100000 in
/-- No room, and the place is not the end: a new row. -/
theorem insert_grow (g D n c i : Nat) (xs ys : List Value) (w : World) (hi : i < n) (hnc : n ≤ c) (hroom : c < n + 1) (hn : n ≤ 1000000)
    (hgw : g < w.heap.size) (hxl : xs.length = n * 5) (hxc : ∀ j v, xs[j]? = some v → w.cell? ⟨g, j, none⟩ = some v) (hys : ys.length = 5) (hbD : Bk D ys.toArray 26 w) (h1x : ∀ v ∈ xs, v.oneCell' = true) (h1y : ∀ v ∈ ys, v.oneCell' = true) :
    Calls Tryz.prog 57 #[.slice (some ⟨g, 0, none⟩) n c, .int .i64 i, .slice (some ⟨D, 0, none⟩) 1 1] w fun e w' =>
      e = .returned (.slice (some ⟨w.heap.size, 0, none⟩) (n + 1) (grownCap w (n + 1) c 26)) ∧
      w' = (((w.alloc (.cells ((xs.take (i * 5)).toArray ++ Builtin.zeroCells z5 (n + 1 - i) ++ Builtin.zeroCells z5 (grownCap w (n + 1) c 26 - (n + 1))) 26)).drew.setCells w.heap.size (i * 5) ys).drew).setCells w.heap.size ((i + 1) * 5) (xs.drop (i * 5)) := by
  obtain ⟨i0, hi0, hz0, hzs, hzb⟩ := info_parts info_val
  have hDw : D < w.heap.size := hbD.lt
  have hyc : ∀ j v, ys[j]? = some v → w.cell? ⟨D, j, none⟩ = some v := fun j v hj => hbD.at j v (by simpa using hj)
  have hkk : (n : Int) + 1 - (i : Int) = ((n + 1 - i : Nat) : Int) := by omega
  have hik : i + (n + 1 - i) = n + 1 := by omega
  have hold : (Builtin.firstCells i0.size i (.slice (some ⟨g, 0, none⟩) i c)).run Tryz.prog w.drew = .ok (xs.take (i * 5)).toArray w.drew := by
    rw [hzs]
    exact run_firstCells_some w.drew 5 i ⟨g, 0, none⟩ i c (xs.take (i * 5)) (by rw [List.length_take]; omega) (fun j v hj => by
      rw [Addr.add_lit, Nat.zero_add]
      rw [List.getElem?_take] at hj
      split at hj
      · exact hxc j v hj
      · cases hj)
  have hrz : ∀ ty, (Builtin.append_ #[23, 3] ty #[.slice (some ⟨g, 0, none⟩) i c, .int .i64 ((n : Int) + 1 - (i : Int))]).run Tryz.prog w =
      .ok (.slice (some ⟨w.heap.size, 0, none⟩) (n + 1) (grownCap w (n + 1) c 26)) (w.drew.alloc (.cells ((xs.take (i * 5)).toArray ++ Builtin.zeroCells z5 (n + 1 - i) ++ Builtin.zeroCells z5 (grownCap w (n + 1) c 26 - (n + 1))) 26)) := fun ty => by
    have h := Lib.run_append_grow_zeros w 23 3 ty 26 i0 _ .i64 .i64 Tryz.underlying23 Tryz.underlying3 hi0 hz0 (some ⟨g, 0, none⟩) i c (xs.take (i * 5)) hold (n + 1 - i) (by omega) (by omega) (by omega) (by omega) (by rw [hzb]; omega) (by rw [hzb, hik]; exact growslice_fits hroom (by omega))
    rw [hik] at h
    rw [hkk]
    exact h
  obtain ⟨G, hG⟩ : ∃ G, G = grownCap w (n + 1) c 26 := ⟨_, rfl⟩
  obtain ⟨ROW, hROW⟩ : ∃ ROW : Array Value, ROW = (xs.take (i * 5)).toArray ++ Builtin.zeroCells z5 (n + 1 - i) ++ Builtin.zeroCells z5 (G - (n + 1)) := ⟨_, rfl⟩
  rw [← hG] at hrz ⊢
  rw [← hROW] at hrz ⊢
  have hGn : n + 1 ≤ G := by rw [hG]; exact grownCap_ge w _ _ _
  have hRs : ROW.size = G * 5 := by
    rw [hROW]
    simp [Builtin.zeroCells, hxl, z5]
    omega
  obtain ⟨W1, hW1⟩ : ∃ W1, W1 = w.drew.alloc (.cells ROW 26) := ⟨_, rfl⟩
  rw [← hW1] at hrz
  have hN : ∀ j, j < G * 5 → (W1.cell? ⟨w.heap.size, j, none⟩).isSome = true := fun j hj => by
    rw [hW1, World.cell?_alloc_at (w := w.drew) ROW _ w.heap.size j rfl, Array.getElem?_eq_getElem (by omega)]; rfl
  have hNf : ∀ j, W1.frozen? ⟨w.heap.size, j, none⟩ = false := fun j => by rw [hW1]; exact World.frozen?_alloc_at (w := w.drew) ROW _ w.heap.size j rfl
  have hOb : ∀ j v, w.cell? ⟨g, j, none⟩ = some v → W1.cell? ⟨g, j, none⟩ = some v := fun j v h => by rw [hW1, World.cell?_alloc_past (w := w.drew) _ g j hgw]; exact h
  have hOv : ∀ j v, w.cell? ⟨D, j, none⟩ = some v → W1.cell? ⟨D, j, none⟩ = some v := fun j v h => by rw [hW1, World.cell?_alloc_past (w := w.drew) _ D j hDw]; exact h
  have hcpA : ∀ (W : World), (∀ x, W.cell? x = W1.cell? x) → (∀ x, W.frozen? x = W1.frozen? x) → ∀ ty dc, (Builtin.copy_ #[23, 23] ty #[.slice (some ⟨w.heap.size, i * 5, none⟩) (n + 1 - i) dc, .slice (some ⟨D, 0, none⟩) 1 1]).run Tryz.prog W = .ok (goInt (1 : Nat)) (W.setCells w.heap.size (i * 5) ys) := fun W hWc hWf ty dc =>
    run_copy5 W ty w.heap.size (i * 5) (n + 1 - i) dc ⟨D, 0, none⟩ 1 1 1 ys (by simp only [Nat.min_def]; split <;> omega) (by rw [hys])
      (fun j v hj => by rw [Addr.add_lit, hWc, Nat.zero_add]; exact hOv _ v (hyc j v hj))
      (fun j hj => by rw [hWc]; exact hN _ (by omega)) (fun j _ => by rw [hWf]; exact hNf _) h1y
  have hGi : ¬ (G = i) := by omega
  have hGim : ¬ (G = i + 1) := by omega
  have hci : ¬ (c = i) := by omega
  have hbN : g ≠ w.heap.size := by omega
  have hdl : (xs.drop (i * 5)).length = (n - i) * 5 := by rw [List.length_drop, hxl]; omega
  have hcpB : ∀ (W : World), (∀ x, W.cell? x = (W1.setCells w.heap.size (i * 5) ys).cell? x) → (∀ x, W.frozen? x = (W1.setCells w.heap.size (i * 5) ys).frozen? x) → ∀ ty dc sc, (Builtin.copy_ #[23, 23] ty #[.slice (some ⟨w.heap.size, (i + 1) * 5, none⟩) (n - i) dc, .slice (some ⟨g, i * 5, none⟩) (n - i) sc]).run Tryz.prog W = .ok (goInt (n - i : Nat)) (W.setCells w.heap.size ((i + 1) * 5) (xs.drop (i * 5))) := fun W hWc hWf ty dc sc =>
    run_copy5 W ty w.heap.size ((i + 1) * 5) (n - i) dc ⟨g, i * 5, none⟩ (n - i) sc (n - i) (xs.drop (i * 5)) (by simp only [Nat.min_def]; split <;> omega) hdl
      (fun j v hj => by
        rw [Addr.add_lit, hWc, World.cell?_setCells_out _ _ _ _ _ (fun h _ => absurd h hbN)]
        exact hOb _ v (hxc (i * 5 + j) v (by rwa [List.getElem?_drop] at hj)))
      (fun j hj => by rw [hWc]; exact isSome_setCells _ _ _ _ (fun t ht => hN _ (by omega)) _ (hN _ (by rw [hdl] at hj; omega)))
      (fun j _ => by rw [hWf, World.frozen?_setCells]; exact hNf _) (fun v hv => h1x v (List.mem_of_mem_drop hv))
  subst hW1
  have hE1 : ∀ x, ((w.alloc (.cells ROW 26)).drew).cell? x = (w.drew.alloc (.cells ROW 26)).cell? x := fun x => rfl
  have hE2 : ∀ x, ((w.alloc (.cells ROW 26)).drew).frozen? x = (w.drew.alloc (.cells ROW 26)).frozen? x := fun x => rfl
  have hF1 : ∀ x, (((w.alloc (.cells ROW 26)).drew.setCells w.heap.size (i * 5) ys).drew).cell? x = ((w.drew.alloc (.cells ROW 26)).setCells w.heap.size (i * 5) ys).cell? x := fun x => rfl
  have hF2 : ∀ x, (((w.alloc (.cells ROW 26)).drew.setCells w.heap.size (i * 5) ys).drew).frozen? x = ((w.drew.alloc (.cells ROW 26)).setCells w.heap.size (i * 5) ys).frozen? x := fun x => rfl
  have hw1 : IntKind.i64.wrap ((i : Int) + 1) = (i : Int) + 1 := by rw [IntKind.wrap_i64]; omega
  have hi0 : (0 : Int) ≤ (i : Int) + 1 := by omega
  have hin : i ≤ n := by omega
  have hin' : (i : Int) ≤ (n : Int) := by omega
  have htn : ((i : Int) + 1).toNat = i + 1 := by omega
  have hz2' : ((i : Int) == (n : Int)) = false := by rw [beq_eq_false_iff_ne]; omega
  have hb2 : decide ((c : Int) < (n : Int) + 1) = true := decide_eq_true (by omega)
  have hb2' : (c : Int) < (n : Int) + 1 := by omega
  have hnb : (n : Int) ≤ 1000000 := by omega
  have hb4 : (i : Int) ≤ (n : Int) + 1 := by omega
  have hb3 : (i : Int) + 1 ≤ (n : Int) + 1 := by omega
  have hci' : (i : Int) ≤ (c : Int) := by omega
  have mixed : Tryz.prog.follows Departure.mixedOrders = true := by kernel_rfl
  clear hkk hik hold hROW hG hRs
  go_enter Tryz.func57, Tryz.ntmps57
  go_wp2_with (first
    | (at_builtin; refine Lib.wpList_append_run _ rfl _ _ _ _ rfl _ _ rfl rfl _ _ (hrz _) ?_)
    | (at_builtin; refine wpList_copy_runI _ rfl _ _ 23 23 rfl _ _ rfl rfl (hcpA _ hE1 hE2 _ _) ?_))
  go_region_law_o (refine step_copy_runI rfl _ _ 23 23 rfl (.slice (some ⟨w.heap.size, (i + 1) * 5, none⟩) (n - i) (G - (i + 1))) (.slice (some ⟨g, i * 5, none⟩) (n - i) (c - i)) (by simp [Act.eval, Act.put]) (by simp [Act.eval, Act.put]) (hcpB _ hF1 hF2 3 (G - (i + 1)) (c - i)) ?_)
  go_wp2_with fail
  go_ret
  exact ⟨rfl, rfl⟩
/-- What insert leaves. -/
def Ins (B n : Nat) (v : Value) (zs : List Value) (w : World) (e : Ending) (w' : World) : Prop := ∃ g c, e = .returned (.slice (some ⟨g, 0, none⟩) (n + 1) c) ∧ w'.ownsRow B 26 5 (.slice (some ⟨g, 0, none⟩) (n + 1) c) (n + 1) zs ∧ w.grownBy w' v.ownBlock ∧ (v.ownBlock = some g ∨ g = w.heap.size)
set_option maxHeartbeats 4000000 in
set_option maxRecDepth 100000 in
/-- At the end. -/
theorem insert_end (B D n c : Nat) (A : Option Addr) (xs ys : List Value) (w : World) (own : w.ownsRow B 26 5 (.slice A n c) n xs) (hn : n ≤ 1000000) (hB : B ≤ w.heap.size) (hys : ys.length = 5) (hbD : Bk D ys.toArray 26 w) (h1y : ∀ v ∈ ys, v.oneCell' = true) :
    Calls Tryz.prog 57 #[.slice A n c, .int .i64 n, .slice (some ⟨D, 0, none⟩) 1 1] w (Ins B n (.slice A n c) (xs ++ ys) w) := by
  obtain ⟨i0, hi0, hz0, hzs, hzb⟩ := info_parts info_val
  have hyc : ∀ j v, ys[j]? = some v → w.cell? ((⟨D, 0, none⟩ : Addr).add j) = some v := fun j v hj => by
    rw [Addr.add_lit, Nat.zero_add]
    exact hbD.at j v (by simpa using hj)
  have hnb : (n : Int) ≤ 1000000 := by omega
  have hcn : (n : Int) ≤ (c : Int) ∧ (c : Int) ≤ 9223372036854775807 := by
    rcases own.2 with ⟨e, e0⟩ | ⟨g, cap, cur, e, _, _, h1, h2, _⟩
    · simp only [Value.slice.injEq] at e
      omega
    · simp only [Value.slice.injEq] at e
      unfold maxLen at h2
      omega
  have hcn1 := hcn.1
  have hcn2 := hcn.2
  have OWN := Lib.hid own
  obtain ⟨H, hH⟩ : ∃ H, w.heap.size = H := ⟨_, rfl⟩
  have HB := Lib.hid (show B ≤ w.heap.size ∧ n ≤ 1000000 ∧ ys.length = 1 * 5 from ⟨hB, hn, by omega⟩)
  clear own hcn hbD
  cases A with
  | none =>
    obtain ⟨rfl, rfl⟩ : n = 0 ∧ c = 0 := by
      rcases OWN.out.2 with ⟨e, e0⟩ | ⟨g, cap, cur, e, _⟩
      · simp only [Value.slice.injEq] at e
        omega
      · simp only [Value.slice.injEq] at e
        cases e.1
    go_enter Tryz.func57, Tryz.ntmps57
    go_wp2_with (at_builtin; refine wpList_append_lies w rfl _ _ 23 rfl B 26 i0 _ 5 80 Tryz.underlying23 hi0 hz0 hzs hzb rfl (by decide) _ 0 xs rfl OWN.out ⟨D, 0, none⟩ 1 1 ys rfl HB.out.2.2 hyc h1y (by decide) (by unfold maxLen; omega) (by omega) HB.out.1 H hH ?_; intro g2 c2 w2 O2 G2 h2 hlt2)
    go_wp2_with fail
    all_goals (go_ret; exact ⟨_, _, rfl, O2, G2, by rw [hH]; exact h2⟩)
  | some a =>
    obtain ⟨g, rfl⟩ : ∃ g, a = ⟨g, 0, none⟩ := by
      rcases OWN.out.2 with ⟨e, e0⟩ | ⟨g, cap, cur, e, _⟩
      · simp only [Value.slice.injEq] at e
        cases e.1
      · simp only [Value.slice.injEq, Option.some.injEq] at e
        exact ⟨g, e.1⟩
    go_enter Tryz.func57, Tryz.ntmps57
    go_wp2_with (at_builtin; refine wpList_append_lies w rfl _ _ 23 rfl B 26 i0 _ 5 80 Tryz.underlying23 hi0 hz0 hzs hzb rfl (by decide) _ n xs rfl OWN.out ⟨D, 0, none⟩ 1 1 ys rfl HB.out.2.2 hyc h1y (by decide) (by have := HB.out; unfold maxLen; omega) (by have := HB.out; omega) HB.out.1 H hH ?_; intro g2 c2 w2 O2 G2 h2 hlt2)
    go_wp2_with fail
    all_goals (go_ret; exact ⟨_, _, rfl, O2, G2, by rw [hH]; exact h2⟩)

end Go.Proofs.YtjmchjphdfbhiaaGreatDoor.val
