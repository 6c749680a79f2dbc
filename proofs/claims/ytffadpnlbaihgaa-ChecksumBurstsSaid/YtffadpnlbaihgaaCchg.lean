/- The statements' function that changes bits of a text: what it does to the register of the text's checksum. -/
import Derived.Test.YtffadpnlbaihgaaCawk
namespace Go.Proofs.Ytffadpnlbaihgaa.crc
open Go.RowKit

/-- The cells of the block g are the bytes l, and may be written. -/
def Has (g : Nat) (l : List UInt8) (w : World) : Prop :=
  (∀ (j : Nat) (hj : j < l.length), w.cell? ⟨g, j, none⟩ = some (.int .u8 (l[j].toNat : Int))) ∧ ∀ j, j < l.length → w.frozen? ⟨g, j, none⟩ = false
theorem Has.set {g : Nat} {l : List UInt8} {w : World} (h : Has g l w) (p : Nat) (hp : p < l.length) (b : UInt8) : Has g (l.set p b) (w.setCell ⟨g, p, none⟩ (.int .u8 (b.toNat : Int))) := by
  refine ⟨fun j hj => ?_, fun j hj => ?_⟩
  · rw [List.length_set] at hj
    by_cases e : p = j
    · subst e
      rw [World.cell?_setCell_same _ _ _ (h.1 p hp), List.getElem_set_self]
    · rw [World.cell?_setCell_other _ _ _ _ (by intro hh; cases hh; exact e rfl), h.1 j hj, List.getElem_set_ne e]
  · rw [List.length_set] at hj
    rw [World.frozen?_setCell]
    exact h.2 j hj
theorem addr_at (g j : Nat) : (⟨g, 0, none⟩ : Addr).add j = ⟨g, j, none⟩ := by
  unfold Addr.add
  split
  · subst_vars; rfl
  · simp
theorem Has.text {g : Nat} {l : List UInt8} {w : World} (h : Has g l w) (cap : Nat) : (convert 39 9 (.slice (some ⟨g, 0, none⟩) l.length cap)).run Try.prog w = .ok (.string ⟨l.toArray⟩) w := by
  refine run_convert_bytes_back w 39 9 5 ⟨g, 0, none⟩ cap l Try.underlying39 Try.underlying5 Try.underlying9 fun j hj => ?_
  rw [addr_at g j]
  exact h.1 j hj

theorem cell_of {w : World} {g : Nat} {cs : Array Value} {t : TypeId} {fr : Nat × Nat} (h : w.heap[g]? = some (.cells cs t fr)) (j : Nat) : w.cell? ⟨g, j, none⟩ = cs[j]? := by
  unfold World.cell?
  simp only [h]
  rfl
theorem frozen_of {w : World} {g : Nat} {cs : Array Value} {t : TypeId} {fr : Nat × Nat} (h : w.heap[g]? = some (.cells cs t fr)) (j : Nat) (hj : j < fr.1) : w.frozen? ⟨g, j, none⟩ = false := by
  unfold World.frozen?
  simp only [h]
  rw [decide_eq_false (by omega), Bool.false_and]
theorem bytesRow_size (s : ByteArray) (cap : Nat) : s.size ≤ (bytesRow s cap).size := by
  unfold bytesRow
  rw [Array.size_append, Array.size_map]
  exact Nat.le_add_right _ _
theorem bytes_new (s : ByteArray) (w : World) : ∃ C W1, (convert 9 39 (.string s)).run Try.prog w = .ok (.slice (some ⟨w.heap.size, 0, none⟩) s.size C) W1 ∧ Has w.heap.size s.data.toList W1 ∧ Q w W1 := by
  have hh := fun c => heap_alloc_new w.drew (.cells (bytesRow s c) 5 ((bytesRow s c).size, (bytesRow s c).size + 1))
  refine ⟨_, _, run_bytes_of_string w 9 39 5 s Try.underlying9 Try.underlying39 Try.underlying5, ⟨fun j hj => ?_, fun j hj => ?_⟩, ?_⟩
  · have hj' : j < s.data.size := by simpa using hj
    refine (cell_of (hh _) j).trans ?_
    exact bytesRow_at s _ j hj'
  · refine frozen_of (hh _) j ?_
    have := bytesRow_size s (grownCap w s.size 0 5)
    have e : s.data.toList.length = s.size := by simp
    show j < (bytesRow s _).size
    omega
  · exact (Q.drewN w 1).trans (Below.alloc (Below.refl _ _) (Nat.le_refl _) _)

theorem flip_step (c : Nat) (l : List UInt8) (p r : Nat) (hp : p < l.length) (hr : r < 8) (b' : UInt8) (hb : b'.toNat = l[p].toNat ^^^ 2 ^ r) :
    reg c (l.set p b') = reg c l ^^^ iter (8 * l.length - (8 * p + r)) 1 := by
  have e1 : l.set p b' = l.take p ++ b' :: l.drop (p + 1) := List.set_eq_take_append_cons_drop.trans (if_pos hp)
  have e2 : l = l.take p ++ l[p] :: l.drop (p + 1) := by rw [List.getElem_cons_drop, List.take_append_drop]
  rw [e1]
  conv => rhs; rw [e2]
  rw [reg_flip c (l.take p) (l.drop (p + 1)) l[p] b' r hr hb, ← e2]
  congr 2
  rw [List.length_drop]
  omega

/-- What the function returns: a text of the same length, and whether the mask M of changed bits is not empty; the registers differ by what M becomes. -/
def Chg (s : ByteArray) (at' : Nat) (w : World) (e : Ending) (w' : World) : Prop :=
  ∃ (l : List UInt8) (M : Nat), e = .returned (.tuple #[.string ⟨l.toArray⟩, .bool (decide (M ≠ 0))]) ∧ l.length = s.size ∧ M < 2 ^ 32 ∧ reg full l = reg full s.data.toList ^^^ iter (8 * s.size - at') M ∧ Q w w'

/-- What the outer loop knows after k rounds. -/
def Inv (s : ByteArray) (at' : Nat) (w : World) (k : Nat) (A : Bool) (wr : World) : Prop :=
  ∃ (l : List UInt8) (M : Nat), l.length = s.size ∧ A = decide (M ≠ 0) ∧ M < 2 ^ k ∧ reg full l = reg full s.data.toList ^^^ iter (8 * s.size - at') M ∧ Has w.heap.size l wr ∧ Q w wr
theorem Inv.start (s : ByteArray) (at' : Nat) (w W1 : World) (h : Has w.heap.size s.data.toList W1) (q : Q w W1) : Inv s at' w 0 false W1 :=
  ⟨s.data.toList, 0, by simp, rfl, by decide, by rw [iter_zero, Nat.xor_zero], h, q⟩
theorem Inv.skip {s : ByteArray} {at' : Nat} {w : World} {k : Nat} {A : Bool} {wr : World} (h : Inv s at' w k A wr) : Inv s at' w (k + 1) A wr := by
  obtain ⟨l, M, h1, h2, h3, h4⟩ := h
  exact ⟨l, M, h1, h2, by rw [Nat.pow_succ]; omega, h4⟩
theorem xor_byte_lt (a : UInt8) (r : Nat) (hr : r < 8) : a.toNat ^^^ 2 ^ r < 256 := by
  have h := a.toNat_lt
  have h2 : 2 ^ r < 2 ^ 8 := Nat.pow_lt_pow_right (by decide) hr
  exact Nat.xor_lt_two_pow (n := 8) (by omega) h2
theorem Inv.flip {s : ByteArray} {at' : Nat} {w : World} {k : Nat} {A : Bool} {wr : World} (h : Inv s at' w k A wr) (p r : Nat) (hr : r < 8) (hk : at' + k = 8 * p + r) (hp : p < s.size) :
    ∃ x : Nat, x < 256 ∧ wr.cell? ⟨w.heap.size, p, none⟩ = some (.int .u8 (x : Int)) ∧ wr.frozen? ⟨w.heap.size, p, none⟩ = false ∧ Inv s at' w (k + 1) true (wr.setCell ⟨w.heap.size, p, none⟩ (.int .u8 (bits .xor .u8 (x : Int) ((2 ^ r : Nat) : Int)))) := by
  obtain ⟨l, M, h1, h2, h3, h4, h5, h6⟩ := h
  have hpl : p < l.length := by omega
  have hx := xor_byte_lt l[p] r hr
  refine ⟨l[p].toNat, l[p].toNat_lt, h5.1 p hpl, h5.2 p hpl, l.set p (UInt8.ofNat (l[p].toNat ^^^ 2 ^ r)), M ^^^ 2 ^ k, by rw [List.length_set]; exact h1, (decide_eq_true (mask_next M k h3).2).symm, (mask_next M k h3).1, ?_, ?_, ?_⟩
  · rw [flip_step full l p r hpl hr _ (byte_val _ hx), h4, h1, ← hk, burst_next _ _ _ _ _ (by omega)]
  · have e : bits .xor .u8 (l[p].toNat : Int) ((2 ^ r : Nat) : Int) = (((UInt8.ofNat (l[p].toNat ^^^ 2 ^ r)).toNat : Nat) : Int) := by
      rw [byte_val _ hx]
      exact u8_xor_nat _ _ l[p].toNat_lt (Nat.pow_lt_pow_right (by decide) hr)
    rw [e]
    exact h5.set p hpl _
  · exact Below.setCell h6 (Nat.le_refl _) _
theorem Inv.done {s : ByteArray} {at' : Nat} {w : World} {A : Bool} {wr : World} (h : Inv s at' w 32 A wr) (cap : Nat) :
    ∃ t : ByteArray, (convert 39 9 (.slice (some ⟨w.heap.size, 0, none⟩) s.size cap)).run Try.prog wr = .ok (.string t) wr ∧ Chg s at' w (.returned (.tuple #[.string t, .bool A])) wr := by
  obtain ⟨l, M, h1, h2, h3, h4, h5, h6⟩ := h
  refine ⟨⟨l.toArray⟩, by rw [← h1]; exact h5.text cap, l, M, by rw [h2], h1, h3, h4, h6⟩

set_option maxRecDepth 100000 in
set_option maxHeartbeats 4000000 in
theorem changed_any (s : ByteArray) (at' : Nat) (mask : Nat) (w : World) (_hs : s.size ≤ 1000000) (ha : at' ≤ 10000000) (hm : mask < 4294967296) :
    Calls Try.prog 17 #[.string s, .int .i64 (at' : Int), .int .u32 (mask : Int)] w (Chg s at' w) := by
  obtain ⟨C, W1, hconv, hH, hQ⟩ := bytes_new s w
  have I0 : Hid (Inv s at' w 0 false W1) := Inv.start s at' w W1 hH hQ
  clear hH hQ
  have HM : Hid (mask < 4294967296) := hm
  clear hm
  go_enter Try.func17, Try.ntmps17
  go_wp2_with fail
  go_loopw [2, 9, 10] (fun m a i wr => ∃ (k mm : Nat) (A : Bool), k ≤ 32 ∧ i = .int .i64 k ∧ m = .int .u32 (mm : Int) ∧ a = .bool A ∧ Hid (mm < 4294967296 ∧ Inv s at' w k A wr)) (fun _ _ i _ => 32 - (intOf i).toNat)
  case atStart => exact ⟨0, mask, false, Nat.zero_le _, rfl, rfl, rfl, ⟨HM.out, I0.out⟩⟩
  case round =>
    obtain ⟨k, mm, A, hk, rfl, rfl, rfl, HI⟩ := hrel
    clear I0 HM
    by_cases hlt : k < 32
    · clear hk
      have HB : Hid ((mm : Int) / 2 % 4294967296 = ((mm / 2 : Nat) : Int) ∧ mm / 2 < 4294967296) := by
        have h := HI.out.1
        have : (mm : Int) / 2 % 4294967296 = ((mm / 2 : Nat) : Int) ∧ mm / 2 < 4294967296 := by omega
        exact this
      by_cases h1 : mm % 2 = 1
      · have hb1 : ((mm : Int) % 2 == 1) = true := by rw [show (mm : Int) % 2 = 1 by omega]; rfl
        clear h1
        by_cases h2 : (at' + k) / 8 < s.size
        · obtain ⟨p, r, hk, hr⟩ : ∃ p r, at' + k = 8 * p + r ∧ r < 8 := ⟨(at' + k) / 8, (at' + k) % 8, by omega, by omega⟩
          have hp : p < s.size := by omega
          have eP : ((at' : Int) + (k : Int)) / 8 = (p : Int) := by omega
          have eR : ((at' : Int) + (k : Int)) % 8 = (r : Int) := by omega
          obtain ⟨x, hx, hc, hf, HN'⟩ := Inv.flip HI.out.2 p r hr hk hp
          have HN : Hid (Inv s at' w (k + 1) true (wr.setCell ⟨w.heap.size, p, none⟩ (.int .u8 (bits .xor .u8 (x : Int) ((2 ^ r : Nat) : Int))))) := HN'
          have hb2 : (p : Int) < (s.size : Int) := by omega
          obtain ⟨PW, hPW⟩ : ∃ PW : Nat → Nat, ∀ j, 2 ^ j = PW j := ⟨_, fun _ => rfl⟩
          have P0 : Hid (PW 0 = 1) := by rw [← hPW]; rfl
          have PS : Hid (∀ j, j < 7 → PW (j + 1) = PW j * 2 ∧ PW j * 2 < 256) := fun j hj => by
            rw [← hPW, ← hPW, Nat.pow_succ]
            have : 2 ^ j ≤ 2 ^ 6 := Nat.pow_le_pow_right (by decide) (by omega)
            exact ⟨rfl, by omega⟩
          rw [hPW] at HN
          clear hPW HN' h2 hk
          go_wp2_with fail
          go_loop [12, 13] (fun v j => ∃ i : Nat, i ≤ r ∧ j = .int .i64 i ∧ v = .int .u8 (PW i : Int)) (fun _ j => r - (intOf j).toNat)
          case atStart => exact ⟨0, Nat.zero_le _, rfl, by rw [P0.out]; rfl⟩
          case round =>
            obtain ⟨i, hi, rfl, rfl⟩ := hrel
            by_cases hir : i < r
            · obtain ⟨s1, s2⟩ := PS.out i (by omega)
              have S1 := Lib.hid s1
              have s3 : (PW i : Int) * 2 < 256 := by omega
              clear s1 s2 hi hc hf
              go_wp2_with fail
              go_round
              case rel => exact ⟨i + 1, by omega, by go_num, by rw [S1.out, Int.natCast_mul]; rfl⟩
              case measure => simp [intOf]; omega
            · obtain rfl : i = r := by omega
              clear hi PS P0
              go_wp2_with fail
              go_roundw
              case rel => exact ⟨k + 1, mm / 2, true, by omega, by go_num, by rw [HB.out.1], rfl, ⟨HB.out.2, HN.out⟩⟩
              case measure => simp [intOf]; omega
        · have hb2 : ¬ ((at' : Int) + (k : Int)) / 8 < (s.size : Int) := by omega
          clear h2
          go_wp2_with fail
          go_roundw
          case rel => exact ⟨k + 1, mm / 2, A, by omega, by go_num, by rw [HB.out.1], rfl, ⟨HB.out.2, Inv.skip HI.out.2⟩⟩
          case measure => simp [intOf]; omega
      · have hb1 : ((mm : Int) % 2 == 1) = false := by rw [show (mm : Int) % 2 = 0 by omega]; rfl
        clear h1
        go_wp2_with fail
        go_roundw
        case rel => exact ⟨k + 1, mm / 2, A, by omega, by go_num, by rw [HB.out.1], rfl, ⟨HB.out.2, Inv.skip HI.out.2⟩⟩
        case measure => simp [intOf]; omega
    · obtain rfl : k = 32 := by omega
      obtain ⟨t, ht, hC⟩ := Inv.done HI.out.2 C
      have HC := Lib.hid hC
      clear hC HI hconv
      go_wp2_with fail
      go_ret2
      exact HC.out

end Go.Proofs.Ytffadpnlbaihgaa.crc
