/- The reference's step: a row of bools made from another. -/
import Derived.Test.YthknlllaclgekaaGf
import Derived.Deep.OwnRows
namespace Go.Proofs.Ythknlllaclgekaa.glo
open Go.RowKit

/-- Block b is a row of bools. -/
def RB (b n : Nat) (F : Nat → Bool) (w : World) : Prop := w.rowIs b 4 n (fun i => .bool (F i))
theorem RB.stays {b n : Nat} {F : Nat → Bool} {w w' : World} (h : RB b n F w) (q : Q w w') : RB b n F w' := World.rowIs.of_block h (q.block _ (World.rowIs.lt h))
theorem RB.cell {b n : Nat} {F : Nat → Bool} {w : World} (h : RB b n F w) {i : Nat} (hi : i < n) {x : Bool} (hx : F i = x) : w.cell? ⟨b, i, none⟩ = some (.bool x) := by
  rw [← hx]
  exact World.rowIs.cell h hi
/-- A row of which k cells are filled in. -/
def part (G : Nat → Bool) (k : Nat) : Nat → Bool := fun j => if j < k then G j else false
theorem RB.next {b n k : Nat} {G : Nat → Bool} {w : World} (h : RB b n (part G k) w) {x : Bool} (hx : G k = x) : RB b n (part G (k + 1)) (w.setCell ⟨b, k, none⟩ (.bool x)) := by
  refine World.rowIs.congr (World.rowIs.set h k (.bool x)) fun j hj => ?_
  unfold part
  by_cases e : j = k
  · subst e
    rw [if_pos rfl, if_pos (by omega), hx]
  · rw [if_neg e]
    by_cases e2 : j < k
    · rw [if_pos e2, if_pos (by omega)]
    · rw [if_neg e2, if_neg (by omega)]
theorem RB.full {b n : Nat} {G : Nat → Bool} {w : World} (h : RB b n (part G n) w) : RB b n G w :=
  World.rowIs.congr h fun j hj => by unfold part; rw [if_pos hj]
theorem info_bool : (Try.prog.info? 4).map (fun i => (i.zero, i.size, i.bytes)) = some (some (.bool false), 1, 1) := by kernel_rfl
theorem make_bools (n : Nat) (hn : n ≤ 1000000) (w : World) :
    (Instr.makeSlice 33 (.int .i64 (n : Int)) (.int .i64 (n : Int))).run Try.prog w = .ok (.slice (some ⟨w.heap.size, 0, none⟩) n n) (w.alloc (.cells (madeCells #[.bool false] n) 4)) :=
  run_make_row' 33 4 (.bool false) 1 Try.underlying33 info_bool rfl .i64 .i64 n (by omega) (by omega) w
theorem RB.made (w : World) (n : Nat) (G : Nat → Bool) : RB w.heap.size n (part G 0) (w.alloc (.cells (madeCells #[.bool false] n) 4)) := by
  refine World.rowIs.congr (World.rowIs_made w (.bool false) n 4) fun j hj => ?_
  unfold part
  rw [if_neg (by omega)]

/-- What step leaves. -/
def Stepped (n : Nat) (G : Nat → Bool) (w : World) (e : Ending) (w' : World) : Prop := e = .returned (.slice (some ⟨w.heap.size, 0, none⟩) n n) ∧ Hid (RB w.heap.size n G w' ∧ Q w w')
/-- What its loop knows. -/
structure Stp (b n : Nat) (L G : Nat → Bool) (w : World) (k : Nat) (wr : World) : Prop where
  l : RB b n L wr
  o : RB w.heap.size n (part G k) wr
  q : Q w wr
theorem Stp.next {b n k : Nat} {L G : Nat → Bool} {w wr : World} (h : Stp b n L G w k wr) (hb : b < w.heap.size) {x : Bool} (hx : G k = x) : Stp b n L G w (k + 1) (wr.setCell ⟨w.heap.size, k, none⟩ (.bool x)) :=
  ⟨World.rowIs.setOther h.l (by show b ≠ w.heap.size; omega) _, h.o.next hx, h.q.set _ (Nat.le_refl _) _ _⟩

set_option maxRecDepth 100000 in
set_option maxHeartbeats 4000000 in
theorem step_group (all : Bool) (c : Int) (b n : Nat) (L G : Nat → Bool) (s : ByteArray) (w : World) (hn : n = s.size + 1) (hs : s.size ≤ 1000) (hL : RB b n L w) (h0 : G 0 = L 0) (hG : ∀ j (hj : j < s.size), G (j + 1) = (L (j + 1) || (G j && (all || s[j] != 46)))) :
    Calls Try.prog 24 #[.slice (some ⟨b, 0, none⟩) n n, .string s, .int .u8 c, .bool true, .bool all] w (Stepped n G w) := by
  have hmk := make_bools n (by omega)
  have hb := World.rowIs.lt hL
  have H0 : Hid (Stp b n L G w 0 (w.alloc (.cells (madeCells #[.bool false] n) 4))) :=
    ⟨World.rowIs.alloc hL _, RB.made w n G, Below.alloc (Below.refl _ _) (Nat.le_refl _) _⟩
  have HG : Hid (G 0 = L 0 ∧ (∀ j (hj : j < s.size), G (j + 1) = (L (j + 1) || (G j && (all || s[j] != 46)))) ∧ n = s.size + 1) := ⟨h0, hG, hn⟩
  have HB := Lib.hid hb
  have hn1 : n ≤ 1001 := by omega
  clear hL h0 hG hs hn hb
  go_enter Try.func24, Try.ntmps24
  go_wp2_with fail
  go_loopw [12] (fun i wr => ∃ k : Nat, k ≤ n ∧ i = .int .i64 k ∧ Hid (Stp b n L G w k wr)) (fun i _ => n - (intOf i).toNat)
  case atStart => exact ⟨0, Nat.zero_le _, rfl, H0⟩
  case round =>
    obtain ⟨k, hk, rfl, HK⟩ := hrel
    clear H0 hmk
    by_cases hlt : k < n
    · have q1 : (k : Int) < (n : Int) := by omega
      have fz := World.rowIs.frozen HK.out.o k
      obtain ⟨d0, hd0⟩ := (⟨_, World.rowIs.cell HK.out.o hlt⟩ : ∃ d, wr.cell? ⟨w.heap.size, k, none⟩ = some d)
      cases hl : L k with
      | true =>
        have c1 := HK.out.l.cell hlt hl
        have HN : Hid (Stp b n L G w (k + 1) (wr.setCell ⟨w.heap.size, k, none⟩ (.bool true))) := HK.out.next HB.out (by
          cases k with
          | zero => rw [HG.out.1]; exact hl
          | succ j => rw [HG.out.2.1 j (by have := HG.out.2.2; omega), hl, Bool.true_or])
        clear hl HK HG HB
        go_wp2_with fail
        go_roundw
        case rel => exact ⟨_, by omega, by go_num, HN⟩
        case measure => simp [intOf]; omega
      | false =>
        have c1 := HK.out.l.cell hlt hl
        match k, hk, hlt, q1, fz, hd0, hl, c1, HK with
        | 0, hk, hlt, q1, fz, hd0, hl, c1, HK =>
          have HN : Hid (Stp b n L G w (0 + 1) (wr.setCell ⟨w.heap.size, 0, none⟩ (.bool false))) := HK.out.next HB.out (by
            rw [HG.out.1]; exact hl)
          clear hl HK HG HB
          go_wp2_with fail
          go_roundw
          case rel => exact ⟨_, by omega, by go_num, HN⟩
          case measure => simp [intOf]; omega
        | j + 1, hk, hlt, q1, fz, hd0, hl, c1, HK =>
          have q2 : (0 : Int) < ((j + 1 : Nat) : Int) := by omega
          have hj : j < s.size := by have := HG.out.2.2; omega
          have q3 : (j : Int) < (n : Int) := by omega
          have q4 : (j : Int) < (s.size : Int) := by omega
          have hgj : part G (j + 1) j = G j := if_pos (by omega)
          have hE := Lib.hid (HG.out.2.1 j hj)
          rw [hl, Bool.false_or] at hE
          clear HG
          cases hg : G j with
          | false =>
            have c2 := HK.out.o.cell (show j < n by omega) (hgj.trans hg)
            have HN : Hid (Stp b n L G w (j + 1 + 1) (wr.setCell ⟨w.heap.size, j + 1, none⟩ (.bool false))) := HK.out.next HB.out (by
              rw [hE.out, hg, Bool.false_and])
            clear hl HK HB hE hg hgj
            go_wp2_with fail
            go_roundw
            case rel => exact ⟨_, by omega, by go_num, HN⟩
            case measure => simp [intOf]; omega
          | true =>
            have c2 := HK.out.o.cell (show j < n by omega) (hgj.trans hg)
            rw [hg, Bool.true_and] at hE
            cases all with
            | true =>
              have HN : Hid (Stp b n L G w (j + 1 + 1) (wr.setCell ⟨w.heap.size, j + 1, none⟩ (.bool true))) := HK.out.next HB.out (by
                rw [hE.out]; rfl)
              clear hl HK HB hE hg hgj
              go_wp2_with fail
              go_roundw
              case rel => exact ⟨_, by omega, by go_num, HN⟩
              case measure => simp [intOf]; omega
            | false =>
              rw [Bool.false_or] at hE
              by_cases he : s[j].toNat = 46
              · have f1 : ((s[j].toNat : Int) != 46) = false := by rw [bne_eq_false_iff_eq]; omega
                have HN : Hid (Stp b n L G w (j + 1 + 1) (wr.setCell ⟨w.heap.size, j + 1, none⟩ (.bool false))) := HK.out.next HB.out (by
                  rw [hE.out, bne_eq_false_iff_eq]; exact UInt8.toNat_inj.1 he)
                clear hl HK HB hE hg hgj he
                go_wp2_with fail
                go_roundw
                case rel => exact ⟨_, by omega, by go_num, HN⟩
                case measure => simp [intOf]; omega
              · have f1 : ((s[j].toNat : Int) != 46) = true := by rw [bne_iff_ne]; omega
                have HN : Hid (Stp b n L G w (j + 1 + 1) (wr.setCell ⟨w.heap.size, j + 1, none⟩ (.bool true))) := HK.out.next HB.out (by
                  rw [hE.out, bne_iff_ne]; exact fun x => he (by rw [x]; rfl))
                clear hl HK HB hE hg hgj he
                go_wp2_with fail
                go_roundw
                case rel => exact ⟨_, by omega, by go_num, HN⟩
                case measure => simp [intOf]; omega
    · obtain rfl : k = n := by omega
      have HR : Hid (RB w.heap.size k G wr ∧ Q w wr) := ⟨HK.out.o.full, HK.out.q⟩
      clear HK HG HB hlt
      go_wp2_with fail
      go_ret
      exact ⟨rfl, HR⟩

set_option maxRecDepth 100000 in
set_option maxHeartbeats 4000000 in
theorem step_byte (all : Bool) (c : UInt8) (b n : Nat) (L G : Nat → Bool) (s : ByteArray) (w : World) (hn : n = s.size + 1) (hs : s.size ≤ 1000) (hL : RB b n L w) (h0 : G 0 = false) (hG : ∀ j (hj : j < s.size), G (j + 1) = (L j && s[j] == c)) :
    Calls Try.prog 24 #[.slice (some ⟨b, 0, none⟩) n n, .string s, .int .u8 (c.toNat : Int), .bool false, .bool all] w (Stepped n G w) := by
  have hmk := make_bools n (by omega)
  have hb := World.rowIs.lt hL
  have H0 : Hid (Stp b n L G w 0 (w.alloc (.cells (madeCells #[.bool false] n) 4))) :=
    ⟨World.rowIs.alloc hL _, RB.made w n G, Below.alloc (Below.refl _ _) (Nat.le_refl _) _⟩
  have HG : Hid (G 0 = false ∧ (∀ j (hj : j < s.size), G (j + 1) = (L j && s[j] == c)) ∧ n = s.size + 1) := ⟨h0, hG, hn⟩
  have HB := Lib.hid hb
  have hn1 : n ≤ 1001 := by omega
  clear hL h0 hG hs hn hb
  go_enter Try.func24, Try.ntmps24
  go_wp2_with fail
  go_loopw [12] (fun i wr => ∃ k : Nat, k ≤ n ∧ i = .int .i64 k ∧ Hid (Stp b n L G w k wr)) (fun i _ => n - (intOf i).toNat)
  case atStart => exact ⟨0, Nat.zero_le _, rfl, H0⟩
  case round =>
    obtain ⟨k, hk, rfl, HK⟩ := hrel
    clear H0 hmk
    by_cases hlt : k < n
    · have q1 : (k : Int) < (n : Int) := by omega
      have fz := World.rowIs.frozen HK.out.o k
      obtain ⟨d0, hd0⟩ := (⟨_, World.rowIs.cell HK.out.o hlt⟩ : ∃ d, wr.cell? ⟨w.heap.size, k, none⟩ = some d)
      match k, hk, hlt, q1, fz, hd0, HK with
      | 0, hk, hlt, q1, fz, hd0, HK =>
        have HN : Hid (Stp b n L G w (0 + 1) (wr.setCell ⟨w.heap.size, 0, none⟩ (.bool false))) := HK.out.next HB.out (by
          exact HG.out.1)
        clear HK HG HB
        go_wp2_with fail
        go_roundw
        case rel => exact ⟨_, by omega, by go_num, HN⟩
        case measure => simp [intOf]; omega
      | j + 1, hk, hlt, q1, fz, hd0, HK =>
        have q2 : (0 : Int) < ((j + 1 : Nat) : Int) := by omega
        have hj : j < s.size := by have := HG.out.2.2; omega
        have q3 : (j : Int) < (n : Int) := by omega
        have q4 : (j : Int) < (s.size : Int) := by omega
        have hE := Lib.hid (HG.out.2.1 j hj)
        clear HG
        cases hl : L j with
        | false =>
          have c2 := HK.out.l.cell (show j < n by omega) hl
          have HN : Hid (Stp b n L G w (j + 1 + 1) (wr.setCell ⟨w.heap.size, j + 1, none⟩ (.bool false))) := HK.out.next HB.out (by
            rw [hE.out, hl, Bool.false_and])
          clear hl HK HB hE
          go_wp2_with fail
          go_roundw
          case rel => exact ⟨_, by omega, by go_num, HN⟩
          case measure => simp [intOf]; omega
        | true =>
          have c2 := HK.out.l.cell (show j < n by omega) hl
          rw [hl, Bool.true_and] at hE
          by_cases he : s[j].toNat = c.toNat
          · have f1 : ((s[j].toNat : Int) == (c.toNat : Int)) = true := by rw [beq_iff_eq]; omega
            have HN : Hid (Stp b n L G w (j + 1 + 1) (wr.setCell ⟨w.heap.size, j + 1, none⟩ (.bool true))) := HK.out.next HB.out (by
              rw [hE.out, beq_iff_eq]; exact UInt8.toNat_inj.1 he)
            clear hl HK HB hE he
            go_wp2_with fail
            go_roundw
            case rel => exact ⟨_, by omega, by go_num, HN⟩
            case measure => simp [intOf]; omega
          · have f1 : ((s[j].toNat : Int) == (c.toNat : Int)) = false := by rw [beq_eq_false_iff_ne]; omega
            have HN : Hid (Stp b n L G w (j + 1 + 1) (wr.setCell ⟨w.heap.size, j + 1, none⟩ (.bool false))) := HK.out.next HB.out (by
              rw [hE.out, beq_eq_false_iff_ne]; exact fun x => he (by rw [x]))
            clear hl HK HB hE he
            go_wp2_with fail
            go_roundw
            case rel => exact ⟨_, by omega, by go_num, HN⟩
            case measure => simp [intOf]; omega
    · obtain rfl : k = n := by omega
      have HR : Hid (RB w.heap.size k G wr ∧ Q w wr) := ⟨HK.out.o.full, HK.out.q⟩
      clear HK HG HB hlt
      go_wp2_with fail
      go_ret
      exact ⟨rfl, HR⟩

end Go.Proofs.Ythknlllaclgekaa.glo
