/- The four bytes of a checksum, the program's and the reference's; Append and Verify of both. -/
import Derived.Test.YtffadpnlbaihgaaCrow
namespace Go.Proofs.Ytffadpnlbaihgaa.crc
open Go.RowKit

/-- The four bytes of a number, the least one first. -/
def enc (c : Nat) : List UInt8 := [UInt8.ofNat (c % 256), UInt8.ofNat (c / 256 % 256), UInt8.ofNat (c / 65536 % 256), UInt8.ofNat (c / 16777216 % 256)]
theorem byte_val (x : Nat) (h : x < 256) : (UInt8.ofNat x).toNat = x := by simp; omega
theorem enc_len (c : Nat) : (enc c).length = 4 := rfl
theorem enc_text (c : Nat) (w : World) (hc : c < 4294967296) :
    (convert 39 9 (.slice (some ⟨w.heap.size, 0, none⟩) 4 4)).run Try.prog (w.alloc (.cells #[.int .u8 ((c : Int) % 256), .int .u8 ((c : Int) / 256 % 256), .int .u8 ((c : Int) / 65536 % 256), .int .u8 ((c : Int) / 16777216)] 5))
      = .ok (.string ⟨(enc c).toArray⟩) (w.alloc (.cells #[.int .u8 ((c : Int) % 256), .int .u8 ((c : Int) / 256 % 256), .int .u8 ((c : Int) / 65536 % 256), .int .u8 ((c : Int) / 16777216)] 5)) := by
  refine run_convert_bytes_back _ 39 9 5 ⟨w.heap.size, 0, none⟩ 4 (enc c) Try.underlying39 Try.underlying5 Try.underlying9 fun j hj => ?_
  refine new_cells w _ _ 0 (enc c) (fun j hj => ?_) j _ (by simp [Lib.byteCells, List.getElem?_eq_getElem hj])
  have hj4 : j < 4 := hj
  match j, hj4 with
  | 0, _ => show some (Value.int .u8 _) = some (.int .u8 (((UInt8.ofNat (c % 256)).toNat : Nat) : Int)); rw [byte_val _ (by omega)]; congr 2
  | 1, _ => show some (Value.int .u8 _) = some (.int .u8 (((UInt8.ofNat (c / 256 % 256)).toNat : Nat) : Int)); rw [byte_val _ (by omega)]; congr 2
  | 2, _ => show some (Value.int .u8 _) = some (.int .u8 (((UInt8.ofNat (c / 65536 % 256)).toNat : Nat) : Int)); rw [byte_val _ (by omega)]; congr 2
  | 3, _ => show some (Value.int .u8 _) = some (.int .u8 (((UInt8.ofNat (c / 16777216 % 256)).toNat : Nat) : Int)); rw [byte_val _ (by omega)]; congr 2; omega

set_option maxRecDepth 100000 in
theorem encode_any (c : Nat) (w : World) (hc : c < 4294967296) :
    Calls Try.prog 20 #[.int .u32 (c : Int)] w fun e w' => e = .returned (.string ⟨(enc c).toArray⟩) ∧ Q w w' := by
  have h := enc_text c w hc
  generalize (⟨(enc c).toArray⟩ : ByteArray) = E at *
  go_enter Try.func20, Try.ntmps20
  go_wp2_with fail
  go_ret
  exact ⟨rfl, Below.alloc (Below.refl _ _) (Nat.le_refl _) _⟩

/-- The first bytes of a number. -/
def encTake (c k : Nat) : List UInt8 := (enc c).take k
theorem encTake_step (c k : Nat) (h : k < 4) : encTake c (k + 1) = encTake c k ++ [UInt8.ofNat (c / 256 ^ k % 256)] := by
  match k, h with
  | 0, _ => simp [encTake, enc]
  | 1, _ => simp [encTake, enc]
  | 2, _ => simp [encTake, enc]
  | 3, _ => simp [encTake, enc]

set_option maxRecDepth 100000 in
theorem four_any (c : Nat) (w : World) (hc : c < 4294967296) :
    Calls Try.prog 22 #[.int .u32 (c : Int)] w fun e w' => e = .returned (.string ⟨(enc c).toArray⟩) ∧ Q w w' := by
  have hT : Hid (∀ k, k < 4 → encTake c (k + 1) = encTake c k ++ [UInt8.ofNat (c / 256 ^ k % 256)]) := fun k h => encTake_step c k h
  have hE : Hid (encTake c 4 = enc c) := rfl
  have h0 : Hid (encTake c 0 = []) := rfl
  have hD : Hid (∀ k, c / 256 ^ k < 4294967296 ∧ c / 256 ^ (k + 1) = c / 256 ^ k / 256) := fun k => ⟨Nat.lt_of_le_of_lt (Nat.div_le_self _ _) hc, by rw [Nat.pow_succ, Nat.div_div_eq_div_mul]⟩
  have hD0 : Hid (c / 256 ^ 0 = c) := by show c / 1 = c; exact Nat.div_one c
  have hL : Hid (∀ k, k ≤ 4 → (encTake c k).length = k) := fun k h => by unfold encTake; rw [List.length_take, enc_len]; omega
  go_enter Try.func22, Try.ntmps22
  go_wp2_with fail
  go_loopw [0, 3, 4] (fun x v i wr => ∃ k : Nat, k ≤ 4 ∧ i = .int .i64 k ∧ x = .int .u32 ((c / 256 ^ k : Nat) : Int) ∧ Hid (Row w.heap.size v (encTake c k) wr ∧ Q w wr)) (fun _ _ i _ => 4 - (intOf i).toNat)
  case atStart => exact ⟨0, Nat.zero_le _, rfl, by rw [hD0.out], by rw [h0.out]; exact ⟨Row.nil _ _, Q.refl _⟩⟩
  case round =>
    obtain ⟨k, hk, rfl, rfl, HR⟩ := hrel
    by_cases hlt : k < 4
    · obtain ⟨hd1, hd2⟩ := hD.out k
      have hT' := Lib.hid (hT.out k hlt)
      have hL' := Lib.hid (hL.out k hk)
      clear hT hE h0 hD hD0 hL hc hk
      generalize hX : c / 256 ^ k = X at *
      have HD : Hid (c / 256 ^ (k + 1) = X / 256) := hd2
      have HX : Hid ((X : Int) % 256 = ((UInt8.ofNat (X % 256)).toNat : Int)) := by
        have : (X : Int) % 256 = ((UInt8.ofNat (X % 256)).toNat : Int) := by rw [byte_val _ (by omega)]; omega
        exact this
      clear hd2 hX
      have O : Hid (Row w.heap.size u3 (encTake c k) wr) := HR.out.1
      have QQ : Hid (Q w wr) := HR.out.2
      clear HR
      have hws : w.heap.size ≤ wr.heap.size := QQ.out.size
      go_wp2_with (at_builtin; refine wpList_row rfl _ _ rfl w.heap.size _ (encTake c k) [UInt8.ofNat (X % 256)] rfl (O.out.alloc _) ⟨wr.heap.size, 0, none⟩ 1 rfl ?c1 ?c2 ?c3 ?_)
      case c1 =>
        refine new_cells wr _ _ 0 _ fun j hj => ?_
        obtain rfl : j = 0 := by simpa using hj
        show some (Value.int .u8 _) = some (Value.int .u8 _)
        rw [HX.out]
        rfl
      case c2 => rw [hL'.out, List.length_singleton]; omega
      case c3 => simp; omega
      intro v' w1 hr hb
      rw [← hT'.out] at hr
      have R1 : Hid (Row w.heap.size v' (encTake c (k + 1)) w1 ∧ Q w w1) := ⟨hr, (QQ.out.alloc hws _).trans hb⟩
      clear hr hb
      go_wp2_with fail
      go_roundw
      case rel => exact ⟨k + 1, by omega, by go_num, by rw [HD.out]; rfl, R1⟩
      case measure => simp [intOf]; omega
    · obtain rfl : k = 4 := by omega
      have hrow := HR.out.1
      rw [hE.out] at hrow
      have htext := hrow.text
      have QQ : Hid (Q w wr) := HR.out.2
      obtain ⟨a, cp, rfl⟩ := hrow.shape
      clear HR hT hE h0 hD hD0 hL hc hrow
      go_wp2_with fail
      go_ret
      exact ⟨rfl, QQ.out⟩

end Go.Proofs.Ytffadpnlbaihgaa.crc
