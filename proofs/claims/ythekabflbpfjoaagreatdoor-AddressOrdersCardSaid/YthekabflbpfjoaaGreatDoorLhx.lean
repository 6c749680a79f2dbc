/- strconv.AppendInt at base 16, for a byte's number: the digits go in behind what the row holds. -/
import Derived.Test.YthekabflbpfjoaaGreatDoorLrow
namespace Go.Proofs.YthekabflbpfjoaaGreatDoor.lit
open Go.RowKit

theorem power16 (w : World) : Calls Tryz.prog 119 #[.int .i64 16] w fun e w' => e = .returned (.bool true) ∧ w = w' := by
  go_enter Tryz.func119, Tryz.ntmps119
  go_wp2_with fail
  go_ret
  exact ⟨rfl, rfl⟩
theorem zeros16 (w : World) (f : Fx w) : Calls Tryz.prog 131 #[.int .u64 16] w fun e w' => e = .returned (.int .i64 4) ∧ w = w' := by
  have hz : w.cell? ⟨5, (IntKind.u64.wrap (bits BinOp.and IntKind.u64 16 (IntKind.u64.wrap (-16)) * 285870213051353865) / 288230376151711744).toNat, none⟩ = some (.int .u8 4) := by
    rw [show (IntKind.u64.wrap (bits BinOp.and IntKind.u64 16 (IntKind.u64.wrap (-16)) * 285870213051353865) / 288230376151711744).toNat = 15 by decide +kernel]
    exact f.zeros
  clear f
  go_enter Tryz.func131, Tryz.ntmps131
  go_wp2_with fail
  go_ret
  exact ⟨rfl, rfl⟩
theorem trailing16 (w : World) (f : Fx w) : Calls Tryz.prog 120 #[.int .u64 16] w fun e w' => e = .returned (.int .i64 4) ∧ w = w' := by
  go_enter Tryz.func120, Tryz.ntmps120
  go_wp2_with fail
  refine (zeros16 _ f).mono ?_; rintro e w' ⟨rfl, rfl⟩
  go_wp2_with fail
  go_ret
  exact ⟨rfl, rfl⟩
/-- The digits' text of the library. -/
def digitsB : ByteArray := ⟨#[48, 49, 50, 51, 52, 53, 54, 55, 56, 57, 97, 98, 99, 100, 101, 102, 103, 104, 105, 106, 107, 108, 109, 110, 111, 112, 113, 114, 115, 116, 117, 118, 119, 120, 121, 122]⟩
theorem digitsB_at : ∀ n : Fin 16, digitsB[n.val]'(by have := n.isLt; show n.val < 36; omega) = hexd n.val := by decide +kernel
theorem zeros65 : Tryz.zeroCells129.size = 65 := by kernel_rfl

theorem digit_at (u : Nat) (hu : u < 16) (h : u < (⟨#[48, 49, 50, 51, 52, 53, 54, 55, 56, 57, 97, 98, 99, 100, 101, 102, 103, 104, 105, 106, 107, 108, 109, 110, 111, 112, 113, 114, 115, 116, 117, 118, 119, 120, 121, 122]⟩ : ByteArray).size) :
    (⟨#[48, 49, 50, 51, 52, 53, 54, 55, 56, 57, 97, 98, 99, 100, 101, 102, 103, 104, 105, 106, 107, 108, 109, 110, 111, 112, 113, 114, 115, 116, 117, 118, 119, 120, 121, 122]⟩ : ByteArray)[u]'h = hexd u := digitsB_at ⟨u, hu⟩

set_option maxHeartbeats 1000000 in
theorem bits16_lo (B u : Nat) (hu : u < 16) (sv : Value) (l : List UInt8) (w : World) (f : Fx w) (hown : Row B sv l w) (hBw : B ≤ w.heap.size) (hlim : l.length + 20 ≤ 140737488355328) :
    Calls Tryz.prog 110 #[sv, .int .u64 u, .int .i64 16, .bool false, .bool true] w fun e w' => ∃ v', e = .returned (.tuple #[v', .string ⟨#[]⟩]) ∧ Row B v' (l ++ hexs u) w' ∧ Below B w w' := by
  have F := Lib.hid f
  have O := Lib.hid hown
  clear f hown
  rw [show hexs u = [hexd u] by unfold hexs; rw [if_pos hu]]
  go_enter Tryz.func110, Tryz.ntmps110
  go_wp2_with fail
  refine (power16 _).mono ?_; rintro e w' ⟨rfl, rfl⟩
  go_wp2_with fail
  have q0 : Q w (w.alloc (Obj.cells Tryz.zeroCells129 129)) := Below.alloc (Below.refl _ _) (Nat.le_refl _) _
  refine (trailing16 _ (q0.fx F.out)).mono ?_
  rintro e w' ⟨rfl, rfl⟩
  clear F
  go_wp2_with fail
  go_loopw [1, 13] (fun a i wr => a = .int .u64 u ∧ i = .int .i64 65 ∧ wr = w.alloc (Obj.cells Tryz.zeroCells129 129)) (fun _ _ _ => 0)
  case atStart => exact ⟨rfl, rfl, rfl⟩
  case round =>
    obtain ⟨rfl, rfl, rfl⟩ := hrel
    have hlo : ¬ 16 ≤ (u : Int) := by omega
    go_wp2_with (at_builtin; refine wpList_row rfl _ _ rfl B _ l [hexd u] rfl (O.out.alloc _) ⟨w.heap.size, 64, none⟩ 1 rfl ?c1 ?c2 ?c3 ?_)
    case c1 =>
      refine new_cells w _ _ 64 [hexd u] fun j hj => ?_
      obtain rfl : j = 0 := by simpa using hj
      rw [digit_at u hu]
      show (Tryz.zeroCells129.setIfInBounds 64 _)[64]? = _
      rw [Array.getElem?_setIfInBounds_self, if_pos (by rw [zeros65]; decide)]
      rfl
    case c2 => simp only [List.length_singleton]; omega
    case c3 => simp; omega
    intro v' w1 hr hb
    go_wp2_with fail
    go_ret2
    exact ⟨v', rfl, hr, (Below.alloc (Below.refl B w) hBw _).trans hb⟩

set_option maxRecDepth 100000 in
theorem and15 : ∀ X : Fin 256, bits .and .u64 ((X.val : Nat) : Int) 15 = ((X.val % 16 : Nat) : Int) := by decide +kernel

set_option maxHeartbeats 2000000 in
theorem bits16_hi (B u : Nat) (hu : 16 ≤ u) (hu2 : u < 256) (sv : Value) (l : List UInt8) (w : World) (f : Fx w) (hown : Row B sv l w) (hBw : B ≤ w.heap.size) (hlim : l.length + 20 ≤ 140737488355328) :
    Calls Tryz.prog 110 #[sv, .int .u64 u, .int .i64 16, .bool false, .bool true] w fun e w' => ∃ v', e = .returned (.tuple #[v', .string ⟨#[]⟩]) ∧ Row B v' (l ++ hexs u) w' ∧ Below B w w' := by
  have F := Lib.hid f
  have O := Lib.hid hown
  clear f hown
  rw [show hexs u = [hexd (u / 16), hexd (u % 16)] by unfold hexs; rw [if_neg (by omega)]]
  go_enter Tryz.func110, Tryz.ntmps110
  go_wp2_with fail
  refine (power16 _).mono ?_; rintro e w' ⟨rfl, rfl⟩
  go_wp2_with fail
  have q0 : Q w (w.alloc (Obj.cells Tryz.zeroCells129 129)) := Below.alloc (Below.refl _ _) (Nat.le_refl _) _
  refine (trailing16 _ (q0.fx F.out)).mono ?_
  rintro e w' ⟨rfl, rfl⟩
  clear F
  go_wp2_with fail
  go_loopw [1, 13] (fun a i wr => (a = .int .u64 u ∧ i = .int .i64 65 ∧ wr = w.alloc (Obj.cells Tryz.zeroCells129 129)) ∨ (a = .int .u64 ((u / 16 : Nat) : Int) ∧ i = .int .i64 64 ∧ wr = w.alloc (Obj.cells (Tryz.zeroCells129.setIfInBounds 64 (.int .u8 ((hexd (u % 16)).toNat : Int))) 129))) (fun a _ _ => (intOf a).toNat)
  case atStart => exact .inl ⟨rfl, rfl, rfl⟩
  case round =>
    rcases hrel with ⟨rfl, rfl, rfl⟩ | ⟨rfl, rfl, rfl⟩
    · have hlo : 16 ≤ (u : Int) := by omega
      have hand : bits .and .u64 (u : Int) 15 = ((u % 16 : Nat) : Int) := and15 ⟨u, hu2⟩
      go_wp2_with fail
      refine ⟨.inr ⟨by rw [Int.natCast_ediv]; rfl, rfl, ?_⟩, by simp [intOf]; omega⟩
      rw [digit_at (u % 16) (by omega)]
    · have hlo : ¬ 16 ≤ (((u / 16 : Nat) : Int)) := by omega
      go_wp2_with (at_builtin; refine wpList_row rfl _ _ rfl B _ l [hexd (u / 16), hexd (u % 16)] rfl (O.out.alloc _) ⟨w.heap.size, 63, none⟩ 2 rfl ?c1 ?c2 ?c3 ?_)
      case c1 =>
        refine new_cells w _ _ 63 _ fun j hj => ?_
        rw [digit_at (u / 16) (by omega)]
        match j, hj with
        | 0, _ =>
          show (Array.setIfInBounds _ 63 _)[63]? = _
          rw [Array.getElem?_setIfInBounds_self, if_pos (by rw [Array.size_setIfInBounds, zeros65]; decide)]
          rfl
        | 1, _ =>
          show (Array.setIfInBounds _ 63 _)[64]? = _
          rw [Array.getElem?_setIfInBounds_ne (by decide), Array.getElem?_setIfInBounds_self, if_pos (by rw [zeros65]; decide)]
          rfl
      case c2 => simp; omega
      case c3 => simp; omega
      intro v' w1 hr hb
      go_wp2_with fail
      go_ret2
      exact ⟨v', rfl, hr, (Below.alloc (Below.refl B w) hBw _).trans hb⟩
theorem bits16 (B u : Nat) (hu : u < 256) (sv : Value) (l : List UInt8) (w : World) (f : Fx w) (hown : Row B sv l w) (hBw : B ≤ w.heap.size) (hlim : l.length + 20 ≤ 140737488355328) :
    Calls Tryz.prog 110 #[sv, .int .u64 u, .int .i64 16, .bool false, .bool true] w fun e w' => ∃ v', e = .returned (.tuple #[v', .string ⟨#[]⟩]) ∧ Row B v' (l ++ hexs u) w' ∧ Below B w w' := by
  by_cases h : u < 16
  · exact bits16_lo B u h sv l w f hown hBw hlim
  · exact bits16_hi B u (by omega) hu sv l w f hown hBw hlim
theorem uint16 (B u : Nat) (hu : u < 256) (sv : Value) (l : List UInt8) (w : World) (f : Fx w) (hown : Row B sv l w) (hBw : B ≤ w.heap.size) (hlim : l.length + 20 ≤ 140737488355328) :
    Calls Tryz.prog 111 #[sv, .int .u64 u, .int .i64 16] w fun e w' => ∃ v', e = .returned v' ∧ Row B v' (l ++ hexs u) w' ∧ Below B w w' := by
  have F := Lib.hid f
  have O := Lib.hid hown
  clear f hown
  go_enter Tryz.func111, Tryz.ntmps111
  go_wp2_with fail
  refine (bits16 B u hu sv l _ F.out O.out hBw hlim).mono ?_
  rintro e w' ⟨v', rfl, hr, hb⟩
  go_wp2_with fail
  go_ret
  exact ⟨v', rfl, hr, hb⟩
theorem int16a (B u : Nat) (hu : u < 256) (sv : Value) (l : List UInt8) (w : World) (f : Fx w) (hown : Row B sv l w) (hBw : B ≤ w.heap.size) (hlim : l.length + 20 ≤ 140737488355328) :
    Calls Tryz.prog 97 #[sv, .int .i64 u, .int .i64 16] w fun e w' => ∃ v', e = .returned v' ∧ Row B v' (l ++ hexs u) w' ∧ Below B w w' := by
  have F := Lib.hid f
  have O := Lib.hid hown
  clear f hown
  go_enter Tryz.func97, Tryz.ntmps97
  go_wp2_with fail
  refine (uint16 B u hu sv l _ F.out O.out hBw hlim).mono ?_
  rintro e w' ⟨v', rfl, hr, hb⟩
  go_wp2_with fail
  go_ret
  exact ⟨v', rfl, hr, hb⟩
theorem append16 (B u : Nat) (hu : u < 256) (sv : Value) (l : List UInt8) (w : World) (f : Fx w) (hown : Row B sv l w) (hBw : B ≤ w.heap.size) (hlim : l.length + 20 ≤ 140737488355328) :
    Calls Tryz.prog 83 #[sv, .int .i64 u, .int .i64 16] w fun e w' => ∃ v', e = .returned v' ∧ Row B v' (l ++ hexs u) w' ∧ Below B w w' := by
  have F := Lib.hid f
  have O := Lib.hid hown
  clear f hown
  go_enter Tryz.func83, Tryz.ntmps83
  go_wp2_with fail
  refine (int16a B u hu sv l _ F.out O.out hBw hlim).mono ?_
  rintro e w' ⟨v', rfl, hr, hb⟩
  go_wp2_with fail
  go_ret
  exact ⟨v', rfl, hr, hb⟩

end Go.Proofs.YthekabflbpfjoaaGreatDoor.lit
