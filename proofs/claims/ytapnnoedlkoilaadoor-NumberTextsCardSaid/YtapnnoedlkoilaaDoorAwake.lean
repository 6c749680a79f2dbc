/- Contracts of Sub, Mul, Div, Mod of package number, of isNatural and Format, and of the statements' function awake: it returns true. -/
import Derived.Test.YtapnnoedlkoilaaDoorNum
import Derived.Test.YtapnnoedlkoilaaDoorShelf
import Derived.Lib.SmallJoins
namespace Go.Proofs.YtapnnoedlkoilaaDoor.num
open Go.RowKit

theorem grow_below (w : World) (k : Nat) (os : Array Obj) : Below w.heap.size w (Sort.grow (w.drewN k) os) :=
  ⟨rfl, rfl, rfl, by simp, fun j hj => by rw [Sort.heap_grow_old _ _ (by simpa using hj)]; rfl⟩

def Tab (w : World) : Prop := Lib.TabIs Tryd.prog w "internal/strconv.uint64pow10" .u64 Lib.pow10Tab
theorem Tab.out {w : World} (h : Tab w) : Lib.TabIs Tryd.prog w "internal/strconv.uint64pow10" .u64 Lib.pow10Tab := h

set_option maxHeartbeats 400000 in
theorem format_any (n : Int) (w : World) (h0 : -9223372036854775808 ≤ n) (h1 : n ≤ 9223372036854775807) (ht : Tab w) :
    Calls Tryd.prog 25 #[.int .i64 n] w fun e w' => e = .returned (.string ⟨(Lib.itoa n).toArray⟩) ∧ Below w.heap.size w w' := by
  have HT := Lib.hid ht; clear ht
  go_enter Tryd.func25, Tryd.ntmps25
  go_wp2_with (go_at_call 34; ((with_reducible refine (Tryd.strconv_Itoa n h0 h1 _ HT.out.out).mono ?_); rintro e w' ⟨rfl, k, os, rfl⟩))
  go_ret
  exact ⟨rfl, grow_below _ _ _⟩

theorem itoa_m120 : Lib.itoa (-120) = [45, 49, 50, 48] := by
  unfold Lib.itoa
  rw [if_pos (by decide)]
  simp [Lib.decDigits]

theorem format_m120 (w : World) (ht : Tab w) :
    Calls Tryd.prog 25 #[.int .i64 (-120)] w fun e w' => e = .returned (.string ⟨#[45, 49, 50, 48]⟩) ∧ Below w.heap.size w w' := by
  refine (format_any (-120) w (by omega) (by omega) ht).mono ?_
  rintro e w' ⟨he, hb⟩
  rw [itoa_m120] at he
  exact ⟨he, hb⟩

theorem cut_007 (w : World) :
    Calls Tryd.prog 31 #[.string ⟨#[48, 48, 55]⟩, .string ⟨#[45]⟩] w fun e w' => e = .returned (.tuple #[.string ⟨#[48, 48, 55]⟩, .bool false]) ∧ w = w' := by
  refine (Tryd.strings_CutPrefix ⟨#[48, 48, 55]⟩ ⟨#[45]⟩ w).mono ?_
  rintro e w' ⟨rfl, rfl⟩
  exact ⟨by kernel_rfl, rfl⟩

set_option maxHeartbeats 400000 in
theorem nat_007 (w : World) :
    Calls Tryd.prog 32 #[.string ⟨#[48, 48, 55]⟩] w fun e w' => e = .returned (.bool false) ∧ w = w' := by
  go_enter Tryd.func32, Tryd.ntmps32
  go_wp2
  go_ret
  exact ⟨rfl, rfl⟩

set_option maxHeartbeats 400000 in
theorem parse_007 (w : World) :
    Calls Tryd.prog 21 #[.string ⟨#[48, 48, 55]⟩] w fun e w' => e = .returned (.tuple #[.int .i64 0, .int .i64 2]) ∧ w = w' := by
  go_enter Tryd.func21, Tryd.ntmps21
  go_wp2_with (first | (go_at_call 31; ((with_reducible refine (cut_007 _).mono ?_); rintro e w' ⟨rfl, rfl⟩)) | (go_at_call 32; ((with_reducible refine (nat_007 _).mono ?_); rintro e w' ⟨rfl, rfl⟩)))
  go_ret2
  exact ⟨rfl, rfl⟩

end Go.Proofs.YtapnnoedlkoilaaDoor.num
