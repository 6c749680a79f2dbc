/- The escapes and items of package strlit. -/
import Derived.Test.YthekabflbpfjoaaGreatDoorLnum
namespace Go.Proofs.YthekabflbpfjoaaGreatDoor.lit
open Go.RowKit

/-- What readEscape returns, for any text that is not empty. -/
theorem escape_any (s : ByteArray) (w : World) (hs : s.size ≤ 1000000) (h1 : 1 ≤ s.size) :
    Calls Tryz.prog 134 #[.string s] w fun e w' => e = .returned (.tuple #[.int .i32 (esc s.data.toList).r, .int .i64 (esc s.data.toList).k, .int .i64 (esc s.data.toList).e]) ∧ w = w' := by
  have hl : s.data.toList.length = s.size := by simp
  unfold esc
  rw [hl]
  by_cases h : s.size = 1
  · rw [if_pos h]
    have h' : (s.size : Int) = 1 := by omega
    go_enter Tryz.func134, Tryz.ntmps134
    go_wp2_with fail
    go_ret3
    exact ⟨rfl, rfl⟩
  · rw [if_neg h]
    have h2 : 1 < s.size := by omega
    have hn : ¬ (s.size : Int) = 1 := by omega
    have hz : (1 : Int) < (s.size : Int) := by omega
    rw [bt_get s 1 h2]
    by_cases c1 : s[1].toNat = 110
    · rw [if_pos c1]
      have g : (s[1].toNat : Int) = 110 := by omega
      go_enter Tryz.func134, Tryz.ntmps134
      go_wp2_with fail
      go_ret3
      exact ⟨rfl, rfl⟩
    rw [if_neg c1]
    have g1 : ¬ (s[1].toNat : Int) = 110 := by omega
    by_cases c2 : s[1].toNat = 114
    · rw [if_pos c2]
      have g : (s[1].toNat : Int) = 114 := by omega
      go_enter Tryz.func134, Tryz.ntmps134
      go_wp2_with fail
      go_ret3
      exact ⟨rfl, rfl⟩
    rw [if_neg c2]
    have g2 : ¬ (s[1].toNat : Int) = 114 := by omega
    by_cases c3 : s[1].toNat = 116
    · rw [if_pos c3]
      have g : (s[1].toNat : Int) = 116 := by omega
      go_enter Tryz.func134, Tryz.ntmps134
      go_wp2_with fail
      go_ret3
      exact ⟨rfl, rfl⟩
    rw [if_neg c3]
    have g3 : ¬ (s[1].toNat : Int) = 116 := by omega
    by_cases c4 : s[1].toNat = 34
    · rw [if_pos (.inl c4), c4]
      have g : (s[1].toNat : Int) = 34 := by omega
      go_enter Tryz.func134, Tryz.ntmps134
      go_wp2_with fail
      go_ret3
      exact ⟨rfl, rfl⟩
    by_cases c5 : s[1].toNat = 92
    · rw [if_pos (.inr c5), c5]
      have g : (s[1].toNat : Int) = 92 := by omega
      go_enter Tryz.func134, Tryz.ntmps134
      go_wp2_with fail
      go_ret3
      exact ⟨rfl, rfl⟩
    rw [if_neg (by omega)]
    have g4 : ¬ (s[1].toNat : Int) = 34 := by omega
    have g5 : ¬ (s[1].toNat : Int) = 92 := by omega
    by_cases c6 : s[1].toNat = 117
    · rw [if_pos c6]
      have g : (s[1].toNat : Int) = 117 := by omega
      have cN := Lib.hid (fun w => numbered_any s w hs h2)
      clear hs c1 c2 c3 c4 c5 c6 hl
      generalize num s.data.toList = R at *
      go_enter Tryz.func134, Tryz.ntmps134
      go_wp2_with fail
      refine (cN.out _).mono ?_; rintro e w' ⟨rfl, rfl⟩
      go_wp2_with fail
      go_ret3
      exact ⟨rfl, rfl⟩
    · rw [if_neg c6]
      have g6 : ¬ (s[1].toNat : Int) = 117 := by omega
      go_enter Tryz.func134, Tryz.ntmps134
      go_wp2_with fail
      go_ret3
      exact ⟨rfl, rfl⟩

end Go.Proofs.YthekabflbpfjoaaGreatDoor.lit
