/- Quote of package strlit: what it returns for any bytes. -/
import Derived.Test.YthekabflbpfjoaaGreatDoorLhx
namespace Go.Proofs.YthekabflbpfjoaaGreatDoor.lit
open Go.RowKit

set_option maxHeartbeats 2000000 in
/-- One byte: its form goes in behind what the row holds. -/
theorem append_form (B : Nat) (c : UInt8) (sv : Value) (l : List UInt8) (w : World) (f : Fx w) (hown : Row B sv l w) (hB6 : 6 ≤ B) (hBw : B ≤ w.heap.size) (hlim : l.length + 40 ≤ 140737488355328) :
    Calls Tryz.prog 63 #[sv, .int .u8 (c.toNat : Int)] w fun e w' => ∃ v', e = .returned v' ∧ Row B v' (l ++ form c) w' ∧ Below B w w' := by
  have F := Lib.hid f
  have O := Lib.hid hown
  clear f hown
  have hc := c.toNat_lt
  by_cases h10 : c = 10
  · subst h10
    go_enter Tryz.func63, Tryz.ntmps63
    go_wp2_with (at_builtin; refine wpList_row_string rfl _ _ rfl B _ l rfl O.out ⟨#[92, 110]⟩ rfl ?c2 ?c3 ?_)
    case c2 => show l.length + 2 ≤ _; omega
    case c3 => exact hBw
    intro v' w1 hr hb
    go_wp2_with fail
    go_ret
    exact ⟨v', rfl, hr, hb⟩
  by_cases h13 : c = 13
  · subst h13
    go_enter Tryz.func63, Tryz.ntmps63
    go_wp2_with (at_builtin; refine wpList_row_string rfl _ _ rfl B _ l rfl O.out ⟨#[92, 114]⟩ rfl ?c2 ?c3 ?_)
    case c2 => show l.length + 2 ≤ _; omega
    case c3 => exact hBw
    intro v' w1 hr hb
    go_wp2_with fail
    go_ret
    exact ⟨v', rfl, hr, hb⟩
  by_cases h9 : c = 9
  · subst h9
    go_enter Tryz.func63, Tryz.ntmps63
    go_wp2_with (at_builtin; refine wpList_row_string rfl _ _ rfl B _ l rfl O.out ⟨#[92, 116]⟩ rfl ?c2 ?c3 ?_)
    case c2 => show l.length + 2 ≤ _; omega
    case c3 => exact hBw
    intro v' w1 hr hb
    go_wp2_with fail
    go_ret
    exact ⟨v', rfl, hr, hb⟩
  by_cases h34 : c = 34
  · subst h34
    go_enter Tryz.func63, Tryz.ntmps63
    go_wp2_with (at_builtin; refine wpList_row rfl _ _ rfl B _ l [92, 34] rfl (O.out.alloc _) ⟨w.heap.size, 0, none⟩ 2 rfl ?c1 ?c2 ?c3 ?_)
    case c1 =>
      refine new_cells w _ _ 0 _ fun j hj => ?_
      match j, hj with
      | 0, _ => rfl
      | 1, _ => rfl
    case c2 => show l.length + 2 ≤ _; omega
    case c3 => simp; omega
    intro v' w1 hr hb
    go_wp2_with fail
    go_ret
    exact ⟨v', rfl, hr, (Below.alloc (Below.refl B w) hBw _).trans hb⟩
  by_cases h92 : c = 92
  · subst h92
    go_enter Tryz.func63, Tryz.ntmps63
    go_wp2_with (at_builtin; refine wpList_row rfl _ _ rfl B _ l [92, 92] rfl (O.out.alloc _) ⟨w.heap.size, 0, none⟩ 2 rfl ?c1 ?c2 ?c3 ?_)
    case c1 =>
      refine new_cells w _ _ 0 _ fun j hj => ?_
      match j, hj with
      | 0, _ => rfl
      | 1, _ => rfl
    case c2 => show l.length + 2 ≤ _; omega
    case c3 => simp; omega
    intro v' w1 hr hb
    go_wp2_with fail
    go_ret
    exact ⟨v', rfl, hr, (Below.alloc (Below.refl B w) hBw _).trans hb⟩
  have g : ∀ d : UInt8, ¬ c = d → ¬ (c.toNat : Int) = (d.toNat : Int) := fun d hd e => hd (UInt8.toNat_inj.1 (by omega))
  have g10 : ¬ (c.toNat : Int) = 10 := g 10 h10
  have g13 : ¬ (c.toNat : Int) = 13 := g 13 h13
  have g9 : ¬ (c.toNat : Int) = 9 := g 9 h9
  have g34 : ¬ (c.toNat : Int) = 34 := g 34 h34
  have g92 : ¬ (c.toNat : Int) = 92 := g 92 h92
  have ef : form c = if c.toNat < 32 ∨ c.toNat = 127 then [92, 117, 123] ++ hexs c.toNat ++ [125] else [c] := by
    unfold form
    rw [if_neg h10, if_neg h13, if_neg h9, if_neg (fun x => x.elim h34 h92)]
  rw [ef]
  clear ef g h10 h13 h9 h34 h92
  by_cases hx : c.toNat < 32 ∨ c.toNat = 127
  · rw [if_pos hx]
    have HX := Lib.hid hx
    clear hx
    go_enter Tryz.func63, Tryz.ntmps63
    go_wp2_with fail
    refine (control_yes _ _ (by omega) (by omega) (by have := HX.out; omega)).mono ?_; rintro e w' ⟨rfl, rfl⟩
    go_wp2_with (at_builtin; refine wpList_row_string rfl _ _ rfl B _ l rfl O.out ⟨#[92, 117, 123]⟩ rfl ?c2 ?c3 ?_)
    case c2 => show l.length + 3 ≤ _; omega
    case c3 => exact hBw
    intro v1 w1 hr1 hb1
    have hs1 := hb1.size
    go_wp2_with fail
    refine (append16 B c.toNat hc v1 _ w1 (fx_below hb1 hB6 F.out) hr1 (by omega) (by rw [List.length_append]; show l.length + 3 + 20 ≤ _; omega)).mono ?_
    rintro e w2 ⟨v2, rfl, hr2, hb2⟩
    have hs2 := hb2.size
    go_wp2_with (at_builtin; refine wpList_row rfl _ _ rfl B _ _ [125] rfl (hr2.alloc _) ⟨w2.heap.size, 0, none⟩ 1 rfl ?d1 ?d2 ?d3 ?_)
    case d1 =>
      refine new_cells w2 _ _ 0 _ fun j hj => ?_
      match j, hj with
      | 0, _ => rfl
    case d2 =>
      have : (hexs c.toNat).length ≤ 2 := by unfold hexs; split <;> simp
      rw [List.length_append, List.length_append]
      show l.length + 3 + (hexs c.toNat).length + 1 ≤ _
      omega
    case d3 => simp; omega
    intro v3 w3 hr3 hb3
    go_wp2_with fail
    go_ret
    refine ⟨v3, rfl, ?_, (hb1.trans hb2).trans ((Below.alloc (Below.refl B w2) (by omega) _).trans hb3)⟩
    simpa [List.append_assoc] using hr3
  · rw [if_neg hx]
    go_enter Tryz.func63, Tryz.ntmps63
    go_wp2_with fail
    refine (control_no _ _ (by omega) (by omega) (by omega)).mono ?_; rintro e w' ⟨rfl, rfl⟩
    go_wp2_with (at_builtin; refine wpList_row rfl _ _ rfl B _ l [c] rfl (O.out.alloc _) ⟨w.heap.size, 0, none⟩ 1 rfl ?d1 ?d2 ?d3 ?_)
    case d1 =>
      refine new_cells w _ _ 0 _ fun j hj => ?_
      obtain rfl : j = 0 := by simpa using hj
      rfl
    case d2 => show l.length + 1 ≤ _; omega
    case d3 => simp; omega
    intro v' w1 hr hb
    go_wp2_with fail
    go_ret
    exact ⟨v', rfl, hr, (Below.alloc (Below.refl B w) hBw _).trans hb⟩

set_option maxHeartbeats 2000000 in
/-- What Quote returns, for any bytes. -/
theorem quote_any (s : ByteArray) (w : World) (f : Fx w) (hs : s.size ≤ 1000000) :
    Calls Tryz.prog 36 #[.string s] w fun e w' => e = .returned (.string ⟨(quoteL s.data.toList).toArray⟩) ∧ Q w w' := by
  have F := Lib.hid f
  have ho := f.old
  clear f
  go_enter Tryz.func36, Tryz.ntmps36
  go_wp2_with fail
  have mk := Lib.hid (Row.made w [34] (by simp))
  go_loopw [3, 4] (fun v i wr => ∃ k : Nat, k ≤ s.size ∧ i = .int .i64 k ∧ Hid (Row w.heap.size v (34 :: forms (s.data.toList.take k)) wr) ∧ Hid (Below w.heap.size w wr)) (fun _ i _ => s.size - (intOf i).toNat)
  case atStart => exact ⟨0, Nat.zero_le _, rfl, mk, Lib.hid ((Below.refl _ _).alloc (Nat.le_refl _) _)⟩
  case round =>
    obtain ⟨k, hk, rfl, hr, hb⟩ := hrel
    have hsz := hb.out.size
    have hfl := (forms_len (s.data.toList.take k)).2
    have htk : (s.data.toList.take k).length = k := by rw [List.length_take]; simp; omega
    by_cases hlt : k < s.size
    · go_wp2_with fail
      refine (append_form w.heap.size s[k] _ _ wr (fx_below hb.out ho F.out) hr.out ho hsz (by rw [List.length_cons]; omega)).mono ?_
      rintro e w2 ⟨v2, rfl, hr2, hb2⟩
      have R2 := Lib.hid hr2
      have B2 := Lib.hid (hb.out.trans hb2)
      clear hr2 hb2
      go_wp2_with fail
      go_roundw
      case rel =>
        refine ⟨k + 1, hlt, by go_num, ?_, B2⟩
        have e1 : s.data.toList.take (k + 1) = s.data.toList.take k ++ [s[k]] := by
          rw [List.take_succ_eq_append_getElem (by simpa using hlt)]
          rfl
        rw [e1, forms_snoc]
        exact R2
      case measure => simp [intOf]; omega
    · obtain rfl : s.size = k := by omega
      go_wp2_with (at_builtin; refine wpList_row rfl _ _ rfl w.heap.size _ _ [34] rfl (hr.out.alloc _) ⟨wr.heap.size, 0, none⟩ 1 rfl ?d1 ?d2 ?d3 ?_)
      case d1 =>
        refine new_cells wr _ _ 0 _ fun j hj => ?_
        obtain rfl : j = 0 := by simpa using hj
        rfl
      case d2 => simp only [List.length_cons, List.length_nil]; omega
      case d3 => simp; omega
      intro v3 w3 hr3 hb3
      have ht := hr3.text
      have R3 := Lib.hid hr3
      have B3 := Lib.hid hb3
      clear hr3 hb3
      go_wp2_with fail
      go_ret
      refine ⟨?_, ?_⟩
      · have e1 : s.data.toList.take s.size = s.data.toList := List.take_of_length_le (by simp)
        rw [e1]
        rfl
      · exact hb.out.trans (((Below.refl _ _).alloc hsz _).trans B3.out)
end Go.Proofs.YthekabflbpfjoaaGreatDoor.lit
