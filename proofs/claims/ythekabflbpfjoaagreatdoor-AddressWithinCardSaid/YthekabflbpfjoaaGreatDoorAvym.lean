/- The facts of the walks out of a row's list of tables; what awake gives (the other seat). -/
import Derived.Test.YthekabflbpfjoaaGreatDoorAvkm
import Derived.Test.YthekabflbpfjoaaGreatDoorRows
import Derived.Lib.LaidU8T
import Derived.Lib.LaidTab
import Derived.PinnedBridge
import Derived.Shelf.Vars
import Derived.Stop.LaidErr
namespace Go.Proofs.YthekabflbpfjoaaGreatDoor.adr
open Go.RowKit Go.Shelf
open Go.Proofs.YthekabflbpfjoaaGreatDoor

/-- The table of trailing zeros. -/
def zerosTab : List Int := [0, 1, 56, 2, 57, 49, 28, 3, 61, 58, 42, 50, 38, 29, 17, 4, 62, 47, 59, 36, 45, 43, 51, 22, 53, 39, 33, 30, 24, 18, 12, 5, 63, 55, 48, 27, 60, 41, 37, 16, 46, 35, 44, 21, 52, 32, 23, 11, 54, 26, 40, 15, 34, 20, 31, 10, 25, 14, 19, 9, 13, 8, 7, 6]
theorem zeros_data : (Rows.laid_math_bits_deBruijn64tab : DataW Unit) = Lib.tabData .u8 zerosTab := by kernel_rfl
theorem accept_data : (Rows.laid_unicode_utf8_acceptRanges : DataW Unit) = Lib.acceptData := by kernel_rfl
theorem first_data : Rows.laid_unicode_utf8_first = Lib.firstData := Pinned.utf8First_eq

theorem fa_of {W : World} (h : laidMetH Tryz.prog Rows.addressChecksRow.laid W) (hS : W.ShapedOpen Tryz.prog) : Fa W := by
  have h3 : Lib.VarReads Tryz.prog W "unicode/utf8.first" Lib.firstData := by
    rw [← first_data]
    exact Lib.laidMet.reads h (.tail _ (.tail _ (.tail _ (.tail _ (.head _)))))
  have h4 : Lib.VarReads Tryz.prog W "unicode/utf8.acceptRanges" Lib.acceptData := by
    rw [← accept_data]
    exact Lib.laidMet.reads h (.tail _ (.tail _ (.tail _ (.head _))))
  have hT := utf8Tabs_of_readsT (U8Types.of196 lit.laysValid) ⟨by kernel_rfl, by kernel_rfl, by kernel_rfl, by kernel_rfl, by kernel_rfl, by kernel_rfl, by kernel_rfl⟩ h3 h4
  have hz : Lib.TabIs Tryz.prog W "math/bits.deBruijn64tab" .u8 zerosTab := by
    have h5 := laidMet.tail h
    rw [zeros_data] at h5
    exact Lib.tabIs_of_head (g := 5) (t := 144) (e := 5) (n := 64) (by kernel_rfl) (by kernel_rfl) Tryz.underlying144 Tryz.underlying5 (by kernel_rfl) (by kernel_rfl) h5
  have hc := Lib.TabIs.cell hz (g := 5) (by kernel_rfl) 15 (by decide)
  refine ⟨?_, hT, hc, cell_of_shapedOpen_int (g := 0) (zero := #[.int .i64 0]) (t := 3) hS (of_decide_eq_true (by kernel_rfl)) (by kernel_rfl) rfl (by kernel_rfl) (by kernel_rfl) Tryz.underlying3, ?_⟩
  · exact Lib.tabIs_of_head (g := 3) (t := 127) (e := 118) (n := 20) (by kernel_rfl) (by kernel_rfl) Tryz.underlying127 Tryz.underlying118 (by kernel_rfl) (by kernel_rfl) (laidMet.tail (laidMet.tail h))
  rcases Nat.lt_or_ge 5 W.heap.size with h' | h'
  · exact h'
  · simp [World.cell?, Array.getElem?_eq_none h'] at hc

theorem wakes (w : World) (f : Fa w) : Hid (∀ w', Q w w' → Calls Tryz.prog 8 #[] w' fun e w'' => e = .returned (.bool true) ∧ Q w' w'') :=
  Lib.hid (fun w' q => awake_true w' (q.fa f))
end Go.Proofs.YthekabflbpfjoaaGreatDoor.adr
