/- Valid, Length and Escape of package strlit: what they return for any bytes. -/
import Derived.Test.YtnhnondljackmaaDoorLunq
import Derived.Test.YtnhnondljackmaaDoorLvs
import Derived.Lib.RuneCount
import Derived.Laws.RangeString
import Derived.Laws.RangeAny
namespace Go.Proofs.YtnhnondljackmaaDoor.lit
open Go.RowKit

/-- Whether a string is valid. -/
def okL (l : List UInt8) : Bool := decide (l.length ≤ 4096) && Lib.validD l
theorem okL_iff (l : List UInt8) : okL l = true ↔ l.length ≤ 4096 ∧ Lib.validD l = true := by simp [okL]

set_option maxHeartbeats 1000000 in
theorem valid_any (s : ByteArray) (w : World) (f : Fx w) (hs : s.size ≤ 1000000) :
    Calls Tryd.prog 10 #[.string s] w fun e w' => e = .returned (.bool (okL s.data.toList)) ∧ Q w w' := by
  have cV := Lib.hid (valid_text s w (by omega) f.tabs)
  unfold okL
  rw [show s.data.toList.length = s.size by simp]
  generalize Lib.validD s.data.toList = V at *
  clear f
  by_cases h : s.size ≤ 4096
  · rw [decide_eq_true h, Bool.true_and]
    have hz : (s.size : Int) ≤ 4096 := by omega
    go_enter Tryd.func10, Tryd.ntmps10
    go_wp2_with fail
    refine cV.out.mono ?_; rintro e w1 ⟨rfl, q1⟩
    go_wp2_with fail
    go_ret
    exact ⟨rfl, q1⟩
  · rw [decide_eq_false h, Bool.false_and]
    have hz : ¬ (s.size : Int) ≤ 4096 := by omega
    go_enter Tryd.func10, Tryd.ntmps10
    go_wp2_with fail
    go_ret
    exact ⟨rfl, Q.refl _⟩

set_option maxHeartbeats 1000000 in
theorem length_any (s : ByteArray) (w : World) (hs : s.size ≤ 1000000) :
    Calls Tryd.prog 16 #[.string s] w fun e w' => e = .returned (.int .i64 (lenL s.data.toList)) ∧ Q w w' := by
  have e0 : lenL s.data.toList = Lib.runeCountFrom s s.size 0 := lenL_from s 0
  rw [e0]
  clear e0
  obtain ⟨ANS, hANS⟩ : ∃ ANS, Lib.runeCountFrom s s.size 0 = ANS := ⟨_, rfl⟩
  rw [hANS]
  go_enter Tryd.func16, Tryd.ntmps16
  go_wp2_with fail
  go_loopw [3] (fun n w' => ∃ (pos b acc : Nat), w' = w.iter s pos ∧ n = .int .i64 acc ∧ acc + Lib.runeCountFrom s b pos = ANS ∧ s.size ≤ pos + b ∧ acc ≤ pos) (fun _ w' => s.size - w'.iterPos w.heap.size)
  case atStart => exact ⟨0, s.size, 0, rfl, rfl, by rw [Nat.zero_add]; exact hANS, by omega, Nat.le_refl _⟩
  case round =>
    obtain ⟨pos, b, acc, rfl, rfl, hc, hb, ha⟩ := hrel
    by_cases hp : pos < s.size
    · have hnx : ∀ ty, (Instr.next (.pointer (some ⟨w.heap.size, 0, none⟩)) true ty).run Tryd.prog (w.iter s pos) = _ := fun ty => run_next_any w s pos ty hp
      have hwd := Lib.decode_width_pos s pos hp
      go_wp2
      go_roundw
      case rel =>
        cases b with
        | zero => omega
        | succ b =>
          refine ⟨pos + (Utf8.decode s pos).2, b, acc + 1, rfl, by go_num, ?_, by omega, by omega⟩
          rw [← hc]
          simp [Lib.runeCountFrom, hp]
          omega
      case measure =>
        simp
        omega
    · have hnx : ∀ ty, (Instr.next (.pointer (some ⟨w.heap.size, 0, none⟩)) true ty).run Tryd.prog (w.iter s pos) = _ := fun ty => run_next_end w s pos ty hp
      go_wp2
      go_ret
      rw [Lib.runeCountFrom_end s b pos hp, Nat.add_zero] at hc
      subst hc
      exact ⟨rfl, Below.alloc (Below.refl _ _) (Nat.le_refl _) _⟩

theorem escape_text (s : ByteArray) (w : World) (f : Fx w) (hs : s.size ≤ 1000000) :
    Calls Tryd.prog 14 #[.string s] w fun e w' => e = .returned (.string ⟨(utf.escL s.data.toList).toArray⟩) ∧ Q w w' := by
  obtain ⟨m, hm⟩ := f.most
  have cR := Tryd.strings_ReplaceAll s ⟨#[36, 123]⟩ ⟨#[36, 36, 123]⟩ m w (by omega) hm (by decide) (by
    have h := Lib.countB_le ⟨#[36, 123]⟩ (by decide) s.size s (Nat.le_refl _)
    have e : (⟨#[36, 36, 123]⟩ : ByteArray).size = 3 := rfl
    rw [e]
    omega)
  have e : Lib.replaceAll s.data.toList (⟨#[36, 123]⟩ : ByteArray).data.toList (⟨#[36, 36, 123]⟩ : ByteArray).data.toList = utf.escL s.data.toList := utf.replaceAll_esc s.data.toList
  rw [e] at cR
  have cR' := Lib.hid cR
  clear e cR hm f
  go_enter Tryd.func14, Tryd.ntmps14
  go_wp2_with fail
  refine cR'.out.mono ?_; rintro e w1 ⟨rfl, q1⟩
  go_wp2_with fail
  go_ret
  exact ⟨rfl, q1⟩

end Go.Proofs.YtnhnondljackmaaDoor.lit
