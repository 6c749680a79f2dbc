/- placesByKey: the comparison that it hands on; placesByKey; placesByKey: the walk; Map, plain: the places of the keys in order, and the map that they give. -/
import Derived.Test.YtjmchjphdfbhiaaGreatDoorVge
import Derived.BigQuiet
import Derived.Deep.OwnRows
import Derived.Deep.LoopGhost
import Derived.Test.YtjmchjphdfbhiaaGreatDoorSse
namespace Go.Proofs.YtjmchjphdfbhiaaGreatDoor.val
open Go.RowKit
open Go.Proofs.YtjmchjphdfbhiaaGreatDoor
set_option maxRecDepth 100000 in
theorem byKey_any (ks : List ByteArray) (b o c i j Bx : Nat) (w : World) (h : KL ks b o w) (hb : w.cell? ⟨Bx, 0, none⟩ = some (.slice (some ⟨b, o, none⟩) ks.length c)) (hi : i < ks.length) (hj : j < ks.length) :
    Calls Tryz.prog 76 #[.int .i64 (i : Nat), .int .i64 (j : Nat), .pointer (some ⟨Bx, 0, none⟩)] w fun e w' => e = .returned (.int .i64 (cT ks[i] ks[j])) ∧ ∃ q, w' = w.drewN q := by
  have c1 := KL.at ks b o w h i hi
  have c2 := KL.at ks b o w h j hj
  obtain ⟨x, hx⟩ : ∃ x, ks[i] = x := ⟨_, rfl⟩
  obtain ⟨y, hy⟩ : ∃ y, ks[j] = y := ⟨_, rfl⟩
  rw [hx] at c1
  rw [hy] at c2
  rw [hx, hy]
  obtain ⟨n, hnn⟩ : ∃ n, ks.length = n := ⟨_, rfl⟩
  rw [hnn] at hb hi hj
  have i1 : (i : Int) < (n : Int) := by omega
  have i2 : (j : Int) < (n : Int) := by omega
  have cC := Lib.hid (fun w' => Tryz.strings_Compare x y w')
  clear h hi hj hnn hx hy
  go_enter Tryz.func76, Tryz.ntmps76
  go_wp2_with fail
  go_quiet (first | (go_at_call 77; exact Calls.quiet_of_same (cC.out _)) | fail)
  go_wp2_with fail
  go_ret
  exact ⟨rfl, nq, rfl⟩

/-! ### the row of places -/
/-- Block R is a row of numbers. -/
def RI (R n : Nat) (F : Nat → Int) (w : World) : Prop := w.rowIs R 3 n (fun i => .int .i64 (F i))
theorem RI.stays {R n : Nat} {F : Nat → Int} {w w' : World} (h : RI R n F w) (q : Q w w') : RI R n F w' := World.rowIs.of_block h (q.block _ (World.rowIs.lt h))
def upto (k : Nat) : Nat → Int := fun j => if j < k then (j : Int) else 0
theorem RI.next {R n k : Nat} {w : World} (h : RI R n (upto k) w) : RI R n (upto (k + 1)) (w.setCell ⟨R, k, none⟩ (.int .i64 (k : Nat))) := by
  refine World.rowIs.congr (World.rowIs.set h k (.int .i64 (k : Nat))) fun j hj => ?_
  unfold upto
  by_cases e : j = k
  · subst e
    rw [if_pos rfl, if_pos (by omega)]
  · rw [if_neg e]
    by_cases e2 : j < k
    · rw [if_pos e2, if_pos (by omega)]
    · rw [if_neg e2, if_neg (by omega)]
theorem info_int : (Tryz.prog.info? 3).map (fun i => (i.zero, i.size, i.bytes)) = some (some (.int .i64 0), 1, 8) := by kernel_rfl
theorem make_ints (n : Nat) (hn : n ≤ 1000000) (w : World) :
    (Instr.makeSlice 60 (.int .i64 (n : Int)) (.int .i64 (n : Int))).run Tryz.prog w = .ok (.slice (some ⟨w.heap.size, 0, none⟩) n n) (w.alloc (.cells (madeCells #[.int .i64 0] n) 3)) :=
  run_make_row' 60 3 (.int .i64 0) 8 Tryz.underlying60 info_int rfl .i64 .i64 n (by omega) (by omega) w
theorem RI.made (w : World) (n : Nat) : RI w.heap.size n (upto 0) (w.alloc (.cells (madeCells #[.int .i64 0] n) 3)) := by
  refine World.rowIs.congr (World.rowIs_made w (.int .i64 0) n 3) fun j hj => ?_
  unfold upto
  rw [if_neg (by omega)]
/-- Places in the order of their keys. -/
structure Ord (ks : List ByteArray) (p : List Nat) : Prop where
  perm : p.Perm (List.range ks.length)
  asc : p.Pairwise (fun a b => ¬ cT (ks[b]?.getD ⟨#[]⟩) (ks[a]?.getD ⟨#[]⟩) < 0)
/-- What placesByKey leaves in block R. -/
def Placed (ks : List ByteArray) (R : Nat) (w w' : World) : Prop := ∃ p, Ord ks p ∧ (∀ j x, p[j]? = some x → w'.cell? ⟨R, j, none⟩ = some (.int .i64 (x : Nat))) ∧ Q w w'
theorem swo_keys {n : Nat} (K : Fin n → ByteArray) : Go.Sort.SWO (ltOf (fun i j => cT (K i) (K j))) := by
  refine ⟨fun x => ?_, fun x y z h1 h2 => ?_, fun x y z h1 h2 => ?_⟩
  · have := (tot_cT.zero (K x) (K x)).2 rfl
    have h0 : ¬ cT (K x) (K x) < 0 := by omega
    exact decide_eq_false h0
  · exact decide_eq_true (tot_cT.less (of_decide_eq_true h1) (of_decide_eq_true h2))
  · have g1 : ¬ cT (K x) (K y) < 0 := of_decide_eq_false h1
    have g2 : ¬ cT (K y) (K z) < 0 := of_decide_eq_false h2
    refine decide_eq_false (fun h => ?_)
    have h' : cT (K x) (K z) < 0 := h
    have a := tot_cT.anti (K x) (K y)
    have g3 := tot_cT.trans (K y) (K x) (K z) (by omega) (by omega)
    have e := (tot_cT.zero (K y) (K z)).1 (by omega)
    rw [← e] at h'
    exact g1 h'
/-- The comparison, as slices.SortFunc asks for it. -/
theorem lays_by (ks : List ByteArray) [Inhabited (Fin ks.length)] (b o c Bx R : Nat) (w : World) (h : KL ks b o w) (hbR : b ≠ R) (hBR : Bx ≠ R) (hb : w.cell? ⟨Bx, 0, none⟩ = some (.slice (some ⟨b, o, none⟩) ks.length c)) (size : Nat) :
    CmpLays1 Tryz.prog 76 #[.pointer (some ⟨Bx, 0, none⟩)] (fun i : Fin ks.length => .int .i64 (i.val : Nat)) (fun i j => cT ks[i] ks[j]) R 0 size w := by
  intro m os dk _ x y
  have hk : ∀ a : Addr, a.block ≠ R → ∀ u, w.cell? a = some u → (sortWorld (fun i : Fin ks.length => .int .i64 (i.val : Nat)) w R 0 m dk os).cell? a = some u := by
    intro a ha u hu
    unfold sortWorld
    rw [Go.Sort.cell?_grow _ _ _ (by rw [Go.Proofs.size_putRow]; exact cell_lt hu), Go.Sort.cell?_putRow_other _ _ _ _ _ _ (.inl ha)]
    exact hu
  have hK : KL ks b o (sortWorld (fun i : Fin ks.length => .int .i64 (i.val : Nat)) w R 0 m dk os) := KL.of_at _ _ _ _ (fun i hi => hk _ hbR _ (KL.at _ _ _ _ h i hi))
  refine (byKey_any ks b o c x.val y.val Bx _ hK (hk _ hBR _ hb) x.isLt y.isLt).mono ?_
  rintro e w' ⟨rfl, q, rfl⟩
  exact ⟨rfl, q, #[], by rw [Go.Sort.grow_empty]⟩

end Go.Proofs.YtjmchjphdfbhiaaGreatDoor.val

namespace Go.Proofs.YtjmchjphdfbhiaaGreatDoor.val
open Go.RowKit
open Go.Proofs.YtjmchjphdfbhiaaGreatDoor
set_option maxRecDepth 100000 in
theorem sort_none (R c : Nat) (g : Value) (w : World) : Calls Tryz.prog 75 #[.slice (some ⟨R, 0, none⟩) 0 c, g] w fun e w' => e = .returned (.tuple #[]) ∧ Q w w' := by
  have cI : Hid (∀ w, Calls Tryz.prog 106 #[.slice (some ⟨R, 0, none⟩) 0 c, .int .i64 0, .int .i64 0, g] w fun e w' => e = .returned (.tuple #[]) ∧ Q w w') := fun w => by
    go_enter Tryz.func106, Tryz.ntmps106
    go_wp2_with fail
    go_loop [8] (fun s8 => s8 = .int .i64 1) (fun _ => 0)
    case atStart => rfl
    case round =>
      subst hrel
      go_wp2_with fail
      go_returns
      exact ⟨rfl, Q.refl _⟩
  have cP : Hid (∀ w (l : Int), Calls Tryz.prog 95 #[.slice (some ⟨R, 0, none⟩) 0 c, .int .i64 0, .int .i64 0, .int .i64 l, g] w fun e w' => e = .returned (.tuple #[]) ∧ Q w w') := fun w l => by
    go_enter Tryz.func95, Tryz.ntmps95
    go_wp2_with fail
    go_loop [1, 2, 3, 10, 11] (fun s1 s2 s3 s10 s11 => s1 = .int .i64 0 ∧ s2 = .int .i64 0 ∧ s3 = .int .i64 l ∧ s10 = .bool true ∧ s11 = .bool true) (fun _ _ _ _ _ => 0)
    case atStart => exact ⟨rfl, rfl, rfl, rfl, rfl⟩
    case round =>
      obtain ⟨rfl, rfl, rfl, rfl, rfl⟩ := hrel
      go_wp2_with fail
      refine (cI.out _).mono ?_
      rintro e w1 ⟨rfl, q1⟩
      go_wp2_with fail
      go_returns
      exact ⟨rfl, q1⟩
  have cL : Hid (∀ w, Calls Tryz.prog 96 #[.int .u64 0] w fun e w' => e = .returned (.int .i64 (Lib.bitLen 0)) ∧ w' = w) := fun w => Any.bits_Len Tryz.lays2x125 0 w (by decide) (by decide)
  go_enter Tryz.func75, Tryz.ntmps75
  go_wp2_with fail
  refine (cL.out _).mono ?_
  rintro e w1 ⟨rfl, rfl⟩
  go_wp2_with fail
  refine (cP.out _ _).mono ?_
  rintro e w1 ⟨rfl, q1⟩
  go_wp2_with fail
  go_returns
  exact ⟨rfl, q1⟩

set_option maxHeartbeats 1000000 in
theorem sort_some (ks : List ByteArray) (h0 : 0 < ks.length) (b o c Bx R cap : Nat) (w : World) (h : KL ks b o w) (hR : RI R ks.length (upto ks.length) w) (hbR : b ≠ R) (hBR : Bx ≠ R) (hb : w.cell? ⟨Bx, 0, none⟩ = some (.slice (some ⟨b, o, none⟩) ks.length c)) (hn : ks.length ≤ 1000000) (w0 : World) (q0 : Q w0 w) (hR0 : w0.heap.size ≤ R) :
    Calls Tryz.prog 75 #[.slice (some ⟨R, 0, none⟩) ks.length cap, .func (.func 76) #[] #[.pointer (some ⟨Bx, 0, none⟩)]] w fun e w' => e = .returned (.tuple #[]) ∧ Placed ks R w0 w' := by
  haveI I : Inhabited (Fin ks.length) := ⟨⟨0, h0⟩⟩
  have hlt := World.rowIs.lt hR
  have hd : (Array.ofFn (fun i : Fin ks.length => i)).size = ks.length := by simp
  have hget : ∀ j (hj : j < ks.length), (Array.ofFn (fun i : Fin ks.length => i))[j]! = ⟨j, hj⟩ := fun j hj => by
    rw [getElem!_pos _ j (by rw [hd]; exact hj)]
    simp
  have cS := Tryz.slices_SortFunc (fun i : Fin ks.length => Value.int .i64 (i.val : Nat)) (fun _ => rfl) (fun i j => cT ks[i] ks[j]) (swo_keys (fun i => ks[i])) 76 #[.pointer (some ⟨Bx, 0, none⟩)] R 0 cap (Array.ofFn (fun i : Fin ks.length => i)) w
    (enters_of Tryz.func76 (by kernel_rfl) rfl)
    (lays_by ks b o c Bx R w h hbR hBR hb _)
    (fun j hj => by
      rw [hd] at hj
      refine ⟨?_, World.rowIs.frozen hR _⟩
      rw [Nat.zero_add, World.rowIs.cell hR hj, hget j hj]
      unfold upto
      rw [if_pos hj])
    hlt (by rw [hd]; omega)
  rw [hd] at cS
  refine cS.mono ?_
  rintro e w' ⟨rfl, d', n, os, hp, hs, rfl⟩
  have hsz : d'.size = ks.length := by have := hp.1; rw [hd] at this; exact this
  have hbang : ∀ j (hj : j < d'.size), d'[j]! = d'[j] := fun j hj => getElem!_pos _ j hj
  refine ⟨rfl, d'.toList.map Fin.val, ⟨?_, ?_⟩, ?_, ?_⟩
  · have h2 := hp.2.2
    rw [show (Array.ofFn (fun i : Fin ks.length => i)).extract 0 ks.length = Array.ofFn (fun i : Fin ks.length => i) from by
      have e : (Array.ofFn (fun i : Fin ks.length => i)).extract 0 (Array.ofFn (fun i : Fin ks.length => i)).size = Array.ofFn (fun i : Fin ks.length => i) := Array.extract_size
      rw [hd] at e
      exact e, show d'.extract 0 ks.length = d' from by
      have e : d'.extract 0 d'.size = d' := Array.extract_size
      rw [hsz] at e
      exact e] at h2
    have h3 := h2.map Fin.val
    have h4 : (Array.ofFn (fun i : Fin ks.length => i)).toList.map Fin.val = List.range ks.length := by
      refine List.ext_getElem (by simp) (fun i h1 h2 => ?_)
      simp
    rw [h4] at h3
    exact h3
  · rw [List.pairwise_map, List.pairwise_iff_getElem]
    intro i j hi hj hij
    rw [Array.length_toList] at hi hj
    have g := of_decide_eq_false (hs i j (Nat.zero_le _) hij (by omega))
    rw [hbang i hi, hbang j hj] at g
    rw [Array.getElem_toList, Array.getElem_toList, List.getElem?_eq_getElem (d'[j]).isLt, List.getElem?_eq_getElem (d'[i]).isLt]
    exact g
  · intro j x hx
    rw [List.getElem?_map, Array.getElem?_toList] at hx
    obtain ⟨y, hy, rfl⟩ := Option.map_eq_some_iff.1 hx
    obtain ⟨hj, hy⟩ := Array.getElem?_eq_some_iff.1 hy
    have hH : Go.Sort.Holds (fun i : Fin ks.length => Value.int .i64 (i.val : Nat)) (Go.Sort.ahead w n) R 0 (Array.ofFn (fun i : Fin ks.length => i)) := fun j hj => by
      rw [hd] at hj
      refine ⟨?_, World.rowIs.frozen hR _⟩
      show w.cell? _ = _
      rw [Nat.zero_add, World.rowIs.cell hR hj, hget j hj]
      unfold upto
      rw [if_pos hj]
    unfold sortWorld
    rw [Go.Sort.cell?_grow _ _ _ (by rw [Go.Proofs.size_putRow]; exact hlt)]
    have := Go.Sort.cell?_putRow (fun i : Fin ks.length => Value.int .i64 (i.val : Nat)) (Go.Sort.ahead w n) R 0 _ d' hH (by rw [hd, hsz]) j hj
    rw [Nat.zero_add, hbang j hj, hy] at this
    exact this
  · refine ⟨q0.os, q0.tape, q0.output, ?_, fun k hk => ?_⟩
    · show w0.heap.size ≤ (Go.Sort.grow _ _).heap.size
      rw [Go.Sort.size_grow, Go.Proofs.size_putRow]
      have := q0.size
      show _ ≤ w.heap.size + _
      omega
    · have hkw : k < w.heap.size := Nat.lt_of_lt_of_le hk q0.size
      unfold sortWorld
      rw [Go.Sort.heap_grow_old _ _ (by rw [Go.Proofs.size_putRow]; exact hkw)]
      unfold Go.Sort.putRow
      rw [← q0.block k hk]
      show (Go.Sort.mapBlock _ _ _).heap[k]? = _
      unfold Go.Sort.mapBlock
      simp only [Array.getElem?_modify]
      rw [if_neg (by omega)]
      rfl

end Go.Proofs.YtjmchjphdfbhiaaGreatDoor.val

namespace Go.Proofs.YtjmchjphdfbhiaaGreatDoor.val
open Go.RowKit
open Go.Proofs.YtjmchjphdfbhiaaGreatDoor
theorem Q.setNew {w w' : World} (q : Q w w') {R : Nat} (h : w.heap.size ≤ R) (j : Nat) (u : Value) : Q w (w'.setCell ⟨R, j, none⟩ u) := q.setCell (p := ⟨R, j, none⟩) h _
set_option maxHeartbeats 4000000 in
set_option maxRecDepth 100000 in
theorem placesByKey_any (ks : List ByteArray) (A : Option Addr) (c : Nat) (w : World) (h : Ks (.slice A ks.length c) ks w) (hn : ks.length ≤ 1000000) :
    Calls Tryz.prog 51 #[.slice A ks.length c] w fun e w' => e = .returned (.slice (some ⟨w.heap.size + 1, 0, none⟩) ks.length ks.length) ∧ Placed ks (w.heap.size + 1) w w' := by
  obtain ⟨n, hnn⟩ : ∃ n, ks.length = n := ⟨_, rfl⟩
  obtain ⟨Bx, hBx⟩ : ∃ Bx, w.heap.size = Bx := ⟨_, rfl⟩
  obtain ⟨R, hRx⟩ : ∃ R, Bx + 1 = R := ⟨_, rfl⟩
  obtain ⟨w1, hw1⟩ : ∃ w1, w.alloc (.cells #[.slice A n c] 24) = w1 := ⟨_, rfl⟩
  have hs1 : w1.heap.size = R := by rw [← hw1, size_alloc, hBx, hRx]
  have hmk := make_ints n (by omega) w1
  rw [hs1] at hmk
  obtain ⟨w2, hw2⟩ : ∃ w2, w1.alloc (.cells (madeCells #[.int .i64 0] n) 3) = w2 := ⟨_, rfl⟩
  rw [hw2] at hmk
  have q1 : Q w w1 := by rw [← hw1]; exact Q.box _ _
  have q2 : Q w1 w2 := by rw [← hw2]; exact Q.box _ _
  have bx1 : Bk Bx #[.slice A n c] 24 w1 := by rw [← hw1, ← hBx]; exact Bk.new _ _ _
  have r2 : RI R n (upto 0) w2 := by rw [← hw2, ← hs1]; exact RI.made _ _
  have bx2 := bx1.stays q2
  -- what the loop knows
  have H0 : Hid (∃ k, k = 0 ∧ RI R n (upto k) w2 ∧ Q w1 w2 ∧ Bk Bx #[.slice A n c] 24 w2) := ⟨0, rfl, r2, q2, bx2⟩
  have cS : Hid (∀ w3, RI R n (upto n) w3 → Q w1 w3 → Bk Bx #[.slice A n c] 24 w3 →
      Calls Tryz.prog 75 #[.slice (some ⟨R, 0, none⟩) n n, .func (.func 76) #[] #[.pointer (some ⟨Bx, 0, none⟩)]] w3 fun e w' => e = .returned (.tuple #[]) ∧ Placed ks R w w') := by
    intro w3 r3 q3 b3
    by_cases h0 : ks = []
    · subst h0
      subst hnn
      refine (sort_none R 0 _ w3).mono ?_
      rintro e w' ⟨rfl, q⟩
      exact ⟨rfl, [], ⟨List.Perm.refl _, List.Pairwise.nil⟩, (fun j x hx => by simp at hx), q1.trans (q3.trans q)⟩
    · obtain ⟨A', c', e, hc, g⟩ := h
      simp only [Value.slice.injEq] at e
      obtain ⟨rfl, -, rfl⟩ := e
      obtain ⟨b, o, rfl, hk⟩ := g h0
      subst hnn
      have hbw : b < w.heap.size := by
        cases ks with
        | nil => exact absurd rfl h0
        | cons a t => exact cell_lt hk.1
      exact sort_some ks (List.length_pos_iff.2 h0) b o c Bx R ks.length w3 (hk.stays (q1.trans q3)) r3 (by omega) (by omega) (b3.at 0 _ rfl) hn w (q1.trans q3) (by omega)
  have x0 := bx1.at 0 _ rfl
  rw [hnn, hBx, hRx]
  have hn1 : n ≤ 1000000 := hnn ▸ hn
  have Q1 := Lib.hid q1
  have HS1 := Lib.hid hs1
  have HBR := Lib.hid hRx
  clear h hn r2 q1 q2 bx1 bx2 hnn hs1 hRx
  go_enter Tryz.func51, Tryz.ntmps51
  go_wp2_with fail
  go_loopw [10] (fun i wr => ∃ k : Nat, k ≤ n ∧ i = .int .i64 k ∧ Hid (RI R n (upto k) wr ∧ Q w1 wr ∧ Bk Bx #[.slice A n c] 24 wr)) (fun i _ => n - (intOf i).toNat)
  case atStart =>
    obtain ⟨k, rfl, h⟩ := H0.out
    exact ⟨0, Nat.zero_le _, rfl, h⟩
  case round =>
    obtain ⟨k, hk, rfl, HK⟩ := hrel
    clear H0 hmk hw1 hw2 x0 hBx
    by_cases hlt : k < n
    · have q1 : (k : Int) < (n : Int) := by omega
      have fz := World.rowIs.frozen HK.out.1 k
      obtain ⟨d0, hd0⟩ := (⟨_, World.rowIs.cell HK.out.1 hlt⟩ : ∃ d, wr.cell? ⟨R, k, none⟩ = some d)
      have HN : Hid (RI R n (upto (k + 1)) (wr.setCell ⟨R, k, none⟩ (.int .i64 (k : Nat))) ∧ Q w1 (wr.setCell ⟨R, k, none⟩ (.int .i64 (k : Nat))) ∧ Bk Bx #[.slice A n c] 24 (wr.setCell ⟨R, k, none⟩ (.int .i64 (k : Nat)))) := ⟨HK.out.1.next, HK.out.2.1.setNew (Nat.le_of_eq HS1.out) k _, HK.out.2.2.other (by have := HBR.out; omega) k _⟩
      clear HK
      go_wp2_with fail
      go_roundw
      case rel => exact ⟨_, by omega, by go_num, HN⟩
      case measure => simp [intOf]; omega
    · have e : k = n := by omega
      subst e
      have hb := HK.out.2.2.at 0 _ rfl
      have q0 : ¬ ((k : Int) < (k : Int)) := by omega
      go_wp2_with fail
      refine (cS.out _ HK.out.1 HK.out.2.1 HK.out.2.2).mono ?_
      rintro e w4 ⟨rfl, hP⟩
      have HP := Lib.hid hP
      clear hP
      go_wp2_with fail
      go_ret
      exact ⟨rfl, HP.out⟩

end Go.Proofs.YtjmchjphdfbhiaaGreatDoor.val

namespace Go.Proofs.YtjmchjphdfbhiaaGreatDoor.val
open Go.Proofs.YtjmchjphdfbhiaaGreatDoor
def V0 : V := ⟨0, 0, ⟨#[]⟩, [], []⟩
def Kp (ks : List ByteArray) (p : List Nat) : List ByteArray := p.map (fun i => ks[i]?.getD ⟨#[]⟩)
def Lp (l : List V) (p : List Nat) : List V := p.map (fun i => l[i]?.getD V0)
theorem Kp_len (ks : List ByteArray) (p : List Nat) : (Kp ks p).length = p.length := by simp [Kp]
theorem Lp_len (l : List V) (p : List Nat) : (Lp l p).length = p.length := by simp [Lp]
theorem Ord.len {ks : List ByteArray} {p : List Nat} (h : Ord ks p) : p.length = ks.length := by rw [h.perm.length_eq, List.length_range]
theorem Ord.lt {ks : List ByteArray} {p : List Nat} (h : Ord ks p) {i : Nat} (hi : i ∈ p) : i < ks.length := by
  have := h.perm.mem_iff.1 hi
  exact List.mem_range.1 this
theorem range_map {α : Type} (l : List α) (d : α) : (List.range l.length).map (fun i => l[i]?.getD d) = l := by
  refine List.ext_getElem (by simp) (fun i h1 h2 => ?_)
  rw [List.getElem_map, List.getElem_range, List.getElem?_eq_getElem h2]
  rfl
theorem map_sorted {ks : List ByteArray} {l : List V} {p : List Nat} (h : Ord ks p) (hl : ks.length = l.length) (hs : srt (Kp ks p)) : mapP [] (ks.zip l) = some ((Kp ks p).zip (Lp l p)) := by
  have e : (Kp ks p).zip (Lp l p) = p.map (fun i => (ks[i]?.getD ⟨#[]⟩, l[i]?.getD V0)) := by unfold Kp Lp; rw [List.zip_map']
  refine map_of _ _ ?_ ?_
  · rw [e]
    unfold asc
    rw [List.pairwise_map]
    unfold srt Kp at hs
    rw [List.pairwise_map] at hs
    exact hs
  · rw [e]
    refine (h.perm.map _).trans ?_
    have e2 : (List.range ks.length).map (fun i => (ks[i]?.getD ⟨#[]⟩, l[i]?.getD V0)) = ks.zip l := by
      rw [← List.zip_map', range_map ks, hl, range_map l]
    rw [e2]
theorem map_dup {ks : List ByteArray} {l : List V} {p : List Nat} (h : Ord ks p) (hl : ks.length = l.length) {i : Nat} {x : ByteArray} (h1 : (Kp ks p)[i]? = some x) (h2 : (Kp ks p)[i + 1]? = some x) : mapP [] (ks.zip l) = none := by
  refine map_none _ (fun hn => ?_)
  have e : (ks.zip l).map (fun b => b.1) = ks := List.map_fst_zip (by omega)
  rw [e] at hn
  have hp : (Kp ks p).Perm ks := by
    have := h.perm.map (fun i => ks[i]?.getD ⟨#[]⟩)
    rw [range_map] at this
    exact this
  have hn' := (hp.nodup_iff).2 hn
  obtain ⟨g1, e1⟩ := List.getElem?_eq_some_iff.1 h1
  obtain ⟨g2, e2⟩ := List.getElem?_eq_some_iff.1 h2
  have := (List.pairwise_iff_getElem.1 hn') i (i + 1) g1 g2 (by omega)
  exact this (e1.trans e2.symm)
theorem srt_next {ks : List ByteArray} {p : List Nat} (h : Ord ks p) {k : Nat} (hk : k < p.length) (hs : srt ((Kp ks p).take k)) (hd : ∀ j, j + 1 = k → (Kp ks p)[j]? ≠ (Kp ks p)[k]?) : srt ((Kp ks p).take (k + 1)) := by
  have hk' : k < (Kp ks p).length := by rw [Kp_len]; exact hk
  have hord : ∀ i j (hi : i < (Kp ks p).length) (hj : j < (Kp ks p).length), i < j → cT (Kp ks p)[i] (Kp ks p)[j] ≤ 0 := by
    intro i j hi hj hij
    have h2 := List.pairwise_iff_getElem.1 h.asc i j (by rw [Kp_len] at hi; exact hi) (by rw [Kp_len] at hj; exact hj) hij
    have a := tot_cT.anti (Kp ks p)[i] (Kp ks p)[j]
    have e1 : (Kp ks p)[i] = ks[p[i]'(by rw [Kp_len] at hi; exact hi)]?.getD ⟨#[]⟩ := by simp [Kp]
    have e2 : (Kp ks p)[j] = ks[p[j]'(by rw [Kp_len] at hj; exact hj)]?.getD ⟨#[]⟩ := by simp [Kp]
    rw [← e1, ← e2] at h2
    omega
  rw [List.take_succ_eq_append_getElem hk']
  unfold srt
  rw [List.pairwise_append]
  refine ⟨hs, List.pairwise_singleton _ _, ?_⟩
  intro a ha b hb
  rw [List.mem_singleton] at hb
  subst hb
  obtain ⟨i, hi, rfl⟩ := List.mem_take_iff_getElem.1 ha
  have hik : i < k := by omega
  have hi2 : i < (Kp ks p).length := by omega
  have g1 := hord i k hi2 hk' hik
  by_cases e : cT (Kp ks p)[i] (Kp ks p)[k] = 0
  · have e' := (tot_cT.zero _ _).1 e
    by_cases h1 : i + 1 = k
    · exact absurd (by rw [List.getElem?_eq_getElem hi2, List.getElem?_eq_getElem hk', e']) (hd i h1)
    · have hm : k - 1 < (Kp ks p).length := by omega
      have g2 := List.pairwise_iff_getElem.1 hs i (k - 1) (by rw [List.length_take]; omega) (by rw [List.length_take]; omega) (by omega)
      rw [List.getElem_take, List.getElem_take] at g2
      have g3 := hord (k - 1) k hm hk' (by omega)
      rw [← e'] at g3
      have a := tot_cT.anti (Kp ks p)[i] (Kp ks p)[k - 1]
      omega
  · omega

end Go.Proofs.YtjmchjphdfbhiaaGreatDoor.val
