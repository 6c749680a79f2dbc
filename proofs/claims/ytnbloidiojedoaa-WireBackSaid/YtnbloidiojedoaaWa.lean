/- AppendNumber and AppendString of both. -/
import Derived.Test.YtnbloidiojedoaaWe
namespace Go.Proofs.Ytnbloidiojedoaa.wir
open Go.RowKit

/-- A number's encoding as a string. -/
def encN (n : Int) : ByteArray := ⟨(encU (zig n)).toArray⟩
theorem encN_list (n : Int) : (encN n).data.toList = encU (zig n) := rfl
theorem encN_size (n : Int) : (encN n).size = (encU (zig n)).length := by simp [encN, ByteArray.size]
/-- A string's encoding. -/
def encS (s : ByteArray) : ByteArray := encN (s.size : Int) ++ s

theorem join_text (d : ByteArray) (l m : List UInt8) : d ++ (⟨(l ++ m).toArray⟩ : ByteArray) = d ++ (⟨l.toArray⟩ : ByteArray) ++ (⟨m.toArray⟩ : ByteArray) := by
  rw [ByteArray.append_assoc, show (⟨(l ++ m).toArray⟩ : ByteArray) = ⟨l.toArray⟩ ++ ⟨m.toArray⟩ from ByteArray.ext (by simp)]

set_option maxRecDepth 100000 in
set_option maxHeartbeats 1000000 in
theorem appendNumber_any (d : ByteArray) (n : Int) (w : World) (hd : d.size ≤ 1000000) (hn : -9223372036854775808 ≤ n ∧ n ≤ 9223372036854775807) :
    Calls Try.prog 11 #[.string d, .int .i64 n] w fun e w' => e = .returned (.string (d ++ encN n)) ∧ Q w w' := by
  have cF : Hid (∀ w, Calls Try.prog 28 #[.int .i64 n] w fun e w' => e = .returned (.int .u64 ((zig n : Nat) : Int)) ∧ w = w') := fun w => fold_any n w hn
  have hz := zig_lt n hn
  obtain ⟨U, hU⟩ : ∃ U, zig n = U := ⟨_, rfl⟩
  have hE : Hid (∀ l x, l ++ encU x = encU U → l.length ≤ 9) := fun l x h => by
    have h1 := encU_ten U (by omega)
    have h2 := encU_pos x
    rw [← h, List.length_append] at h1
    omega
  have hR : Hid (d ++ encN n = d ++ (⟨(encU U).toArray⟩ : ByteArray)) := by rw [← hU]; rfl
  have hz' : Hid (U < 18446744073709551616) := by rw [← hU]; exact hz
  generalize d ++ encN n = R at *
  rw [hU] at cF
  clear hz hU hn
  go_enter Try.func11, Try.ntmps11
  go_wp2_with fail
  refine (cF.out _).mono ?_; rintro e w' ⟨rfl, rfl⟩
  go_wp2_with fail
  go_loopw [5, 6] (fun v u wr => ∃ (l : List UInt8) (x : Nat), u = .int .u64 (x : Int) ∧ Hid (l ++ encU x = encU U ∧ x < 18446744073709551616) ∧ Hid (Row w.heap.size v l wr ∧ Q w wr)) (fun _ u _ => (intOf u).toNat)
  case atStart => exact ⟨[], U, rfl, ⟨rfl, hz'.out⟩, Row.nil _ _, Q.refl _⟩
  case round =>
    obtain ⟨l, x, rfl, HX, HR⟩ := hrel
    by_cases hx : x < 128
    · have h1 : ¬ 128 ≤ (x : Int) := by omega
      have h2 : (x : Int) < 256 := by omega
      obtain ⟨k1, k2⟩ := HX.out
      have HL := hE.out l x k1
      rw [encU_small x hx] at k1
      have K1 : Hid (l ++ [UInt8.ofNat x] = encU U) := k1
      have HB : Hid ((x : Int) = ((UInt8.ofNat x).toNat : Int)) := by
        have : (x : Int) = ((UInt8.ofNat x).toNat : Int) := by rw [byte_val x (by omega)]
        exact this
      have O : Hid (Row w.heap.size u5 l wr) := HR.out.1
      have QQ : Hid (Q w wr) := HR.out.2
      have hL : Hid (l.length ≤ 9) := HL
      clear HR HX hE hz' hx k1 k2 HL cF
      have hws : w.heap.size ≤ wr.heap.size := QQ.out.size
      go_wp2_with (at_builtin; refine wpList_row rfl _ _ rfl w.heap.size _ l [UInt8.ofNat x] rfl (O.out.alloc _) ⟨wr.heap.size, 0, none⟩ 1 rfl ?c1 ?c2 ?c3 ?_)
      case c1 =>
        intro j u hj
        rw [← hj, HB.out]
        rfl
      case c2 => have := hL.out; omega
      case c3 => omega
      intro v' w1 hr hb
      rw [K1.out] at hr
      have ht := hr.text
      obtain ⟨a, cp, rfl⟩ := hr.shape
      have q1 : Hid (Q w w1) := (QQ.out.alloc hws _).trans hb
      have hU2 : (⟨(encU U).toArray⟩ : ByteArray).size ≤ 1000 := by
        have := congrArg List.length K1.out
        have := hL.out
        simp only [ByteArray.size, List.size_toArray, List.length_append, List.length_singleton] at *
        omega
      clear hr hb K1 HB O QQ hws hL
      generalize (⟨(encU U).toArray⟩ : ByteArray) = T at *
      go_wp2_with fail
      go_ret
      exact ⟨by rw [hR.out]; rfl, q1.out⟩
    · have h1 : 128 ≤ (x : Int) := by omega
      obtain ⟨k1, k2⟩ := HX.out
      have HL := hE.out l x k1
      rw [encU_big x (by omega)] at k1
      have K1 : Hid (l ++ [UInt8.ofNat (x % 128 + 128)] ++ encU (x / 128) = encU U ∧ x / 128 < 18446744073709551616) := ⟨by rw [List.append_assoc]; exact k1, by omega⟩
      have HB : Hid ((x : Int) % 128 + 128 = ((UInt8.ofNat (x % 128 + 128)).toNat : Int)) := by
        have : (x : Int) % 128 + 128 = ((UInt8.ofNat (x % 128 + 128)).toNat : Int) := by rw [byte_val _ (by omega)]; omega
        exact this
      have O : Hid (Row w.heap.size u5 l wr) := HR.out.1
      have QQ : Hid (Q w wr) := HR.out.2
      have hL : Hid (l.length ≤ 9) := HL
      have hM : Hid (x / 128 < x) := by have : x / 128 < x := by omega
                                        exact this
      have hD : Hid ((x : Int) / 128 = ((x / 128 : Nat) : Int)) := rfl
      clear HR HX hE hz' hx k1 k2 HL cF
      generalize UInt8.ofNat (x % 128 + 128) = B at *
      have hws : w.heap.size ≤ wr.heap.size := QQ.out.size
      go_wp2_with (at_builtin; refine wpList_row rfl _ _ rfl w.heap.size _ l [B] rfl (O.out.alloc _) ⟨wr.heap.size, 0, none⟩ 1 rfl ?c1 ?c2 ?c3 ?_)
      case c1 =>
        refine new_cells wr _ _ 0 _ fun j hj => ?_
        obtain rfl : j = 0 := by simpa using hj
        show some (Value.int .u8 _) = some (Value.int .u8 _)
        rw [HB.out]
        rfl
      case c2 => have := hL.out; rw [List.length_singleton]; omega
      case c3 => simp; omega
      intro v' w1 hr hb
      have R1 : Hid (Row w.heap.size v' (l ++ [B]) w1 ∧ Q w w1) := ⟨hr, (QQ.out.alloc hws _).trans hb⟩
      clear hr hb
      go_wp2_with fail
      go_roundw
      case rel => exact ⟨l ++ [B], x / 128, rfl, K1, R1⟩
      case measure => simp [intOf]; have := hM.out; omega

theorem appendString_any (d s : ByteArray) (w : World) (hd : d.size ≤ 900000) (hs : s.size ≤ 1000000) :
    Calls Try.prog 13 #[.string d, .string s] w fun e w' => e = .returned (.string (d ++ encS s)) ∧ Q w w' := by
  have cN : Hid (∀ w, Calls Try.prog 11 #[.string d, .int .i64 (s.size : Int)] w fun e w' => e = .returned (.string (d ++ encN (s.size : Int))) ∧ Q w w') := fun w => appendNumber_any d (s.size : Int) w (by omega) (by omega)
  have hE : (d ++ encN (s.size : Int)).size ≤ 1000000 := by
    have := encU_ten (zig (s.size : Int)) (zig_lt _ (by omega))
    rw [ByteArray.size_append, encN_size]
    omega
  have hR : Hid (d ++ encS s = d ++ encN (s.size : Int) ++ s) := by unfold Hid encS; rw [ByteArray.append_assoc]
  generalize d ++ encN (s.size : Int) = E at *
  generalize d ++ encS s = R at *
  go_enter Try.func13, Try.ntmps13
  go_wp2_with fail
  refine (cN.out _).mono ?_; rintro e w1 ⟨rfl, q1⟩
  go_wp2_with fail
  go_ret
  exact ⟨by rw [hR.out]; rfl, q1⟩

set_option maxRecDepth 100000 in
set_option maxHeartbeats 1000000 in
theorem rappendNumber_any (d : ByteArray) (n : Int) (w : World) (hd : d.size ≤ 1000000) (hn : -9223372036854775808 ≤ n ∧ n ≤ 9223372036854775807) :
    Calls Try.prog 12 #[.string d, .int .i64 n] w fun e w' => e = .returned (.string (d ++ encN n)) ∧ Q w w' := by
  have cF : Hid (∀ w, Calls Try.prog 29 #[.int .i64 n] w fun e w' => e = .returned (.int .u64 ((zig n : Nat) : Int)) ∧ w = w') := fun w => zig_any n w hn
  have hz := zig_lt n hn
  obtain ⟨U, hU⟩ : ∃ U, zig n = U := ⟨_, rfl⟩
  have hR : Hid (d ++ (⟨(encU U).toArray⟩ : ByteArray) = d ++ encN n ∧ U < 18446744073709551616) := by rw [← hU]; exact ⟨rfl, hz⟩
  have hRs : Hid ((d ++ encN n).size ≤ 1000010) := by
    have := encU_ten (zig n) hz
    have : (d ++ encN n).size ≤ 1000010 := by rw [ByteArray.size_append, encN_size]; omega
    exact this
  generalize d ++ encN n = R at *
  rw [hU] at cF
  clear hz hU hn hd
  go_enter Try.func12, Try.ntmps12
  go_wp2_with fail
  refine (cF.out _).mono ?_; rintro e w' ⟨rfl, rfl⟩
  go_wp2_with fail
  go_loopw [0, 5] (fun v u wr => ∃ (D : ByteArray) (x : Nat), v = .string D ∧ u = .int .u64 (x : Int) ∧ Hid (D ++ (⟨(encU x).toArray⟩ : ByteArray) = R ∧ x < 18446744073709551616) ∧ Hid (Q w wr)) (fun _ u _ => (intOf u).toNat)
  case atStart => exact ⟨d, U, rfl, rfl, hR.out, Q.refl _⟩
  case round =>
    obtain ⟨D, x, rfl, rfl, HX, QQ⟩ := hrel
    have hDs : D.size ≤ 1000010 := by
      have := hRs.out
      rw [← HX.out.1, ByteArray.size_append] at this
      omega
    by_cases hx : x < 128
    · have h1 : ¬ 128 ≤ (x : Int) := by omega
      have h2 : (x : Int) < 256 := by omega
      have k1 := HX.out.1
      rw [encU_small x hx] at k1
      have HB : Hid ((x : Int) = ((UInt8.ofNat x).toNat : Int)) := by
        have : (x : Int) = ((UInt8.ofNat x).toNat : Int) := by rw [byte_val x (by omega)]
        exact this
      have HT : ∀ wx : World, (convert 58 9 (.slice (some ⟨wx.heap.size, 0, none⟩) 1 1)).run Try.prog (wx.alloc (.cells #[.int .u8 (x : Int)] 5)) = .ok (.string ⟨[UInt8.ofNat x].toArray⟩) (wx.alloc (.cells #[.int .u8 (x : Int)] 5)) := fun wx => by
        rw [HB.out]
        exact (Row.made wx [UInt8.ofNat x] (by simp)).text
      have K1 : Hid (D ++ (⟨[UInt8.ofNat x].toArray⟩ : ByteArray) = R) := k1
      have hsz : (⟨[UInt8.ofNat x].toArray⟩ : ByteArray).size ≤ 1 := Nat.le_refl _
      clear HX hx k1 HB hR hRs cF
      generalize (⟨[UInt8.ofNat x].toArray⟩ : ByteArray) = T at *
      go_wp2_with fail
      go_ret
      exact ⟨by rw [← K1.out]; rfl, QQ.out.alloc QQ.out.size _⟩
    · have h1 : 128 ≤ (x : Int) := by omega
      obtain ⟨k1, k2⟩ := HX.out
      rw [encU_big x (by omega)] at k1
      have HB : Hid ((x : Int) % 128 + 128 = ((UInt8.ofNat (x % 128 + 128)).toNat : Int)) := by
        have : (x : Int) % 128 + 128 = ((UInt8.ofNat (x % 128 + 128)).toNat : Int) := by rw [byte_val _ (by omega)]; omega
        exact this
      have HT : ∀ wx : World, (convert 58 9 (.slice (some ⟨wx.heap.size, 0, none⟩) 1 1)).run Try.prog (wx.alloc (.cells #[.int .u8 ((x : Int) % 128 + 128)] 5)) = .ok (.string ⟨[UInt8.ofNat (x % 128 + 128)].toArray⟩) (wx.alloc (.cells #[.int .u8 ((x : Int) % 128 + 128)] 5)) := fun wx => by
        rw [HB.out]
        exact (Row.made wx [UInt8.ofNat (x % 128 + 128)] (by simp)).text
      have K1 : Hid (D ++ (⟨[UInt8.ofNat (x % 128 + 128)].toArray⟩ : ByteArray) ++ (⟨(encU (x / 128)).toArray⟩ : ByteArray) = R ∧ x / 128 < 18446744073709551616) := ⟨by rw [← join_text]; exact k1, by omega⟩
      have hsz : (⟨[UInt8.ofNat (x % 128 + 128)].toArray⟩ : ByteArray).size ≤ 1 := Nat.le_refl _
      have hM : Hid (x / 128 < x) := by have : x / 128 < x := by omega
                                        exact this
      have hD : Hid (IntKind.u64.wrap ((x : Int) / 128) = ((x / 128 : Nat) : Int)) := by
        have : IntKind.u64.wrap ((x : Int) / 128) = ((x / 128 : Nat) : Int) := by rw [IntKind.wrap_u64]; omega
        exact this
      clear HX hx k1 k2 HB hR hRs cF
      generalize (⟨[UInt8.ofNat (x % 128 + 128)].toArray⟩ : ByteArray) = T at *
      go_wp2_with fail
      go_roundw
      case rel => exact ⟨D ++ T, x / 128, rfl, by rw [hD.out], K1, QQ.out.alloc QQ.out.size _⟩
      case measure => rw [hD.out]; simp [intOf]; have := hM.out; omega

theorem rappendString_any (d s : ByteArray) (w : World) (hd : d.size ≤ 900000) (hs : s.size ≤ 1000000) :
    Calls Try.prog 14 #[.string d, .string s] w fun e w' => e = .returned (.string (d ++ encS s)) ∧ Q w w' := by
  have cN : Hid (∀ w, Calls Try.prog 12 #[.string d, .int .i64 (s.size : Int)] w fun e w' => e = .returned (.string (d ++ encN (s.size : Int))) ∧ Q w w') := fun w => rappendNumber_any d (s.size : Int) w (by omega) (by omega)
  have hE : (d ++ encN (s.size : Int)).size ≤ 1000000 := by
    have := encU_ten (zig (s.size : Int)) (zig_lt _ (by omega))
    rw [ByteArray.size_append, encN_size]
    omega
  have hR : Hid (d ++ encS s = d ++ encN (s.size : Int) ++ s) := by unfold Hid encS; rw [ByteArray.append_assoc]
  generalize d ++ encN (s.size : Int) = E at *
  generalize d ++ encS s = R at *
  go_enter Try.func14, Try.ntmps14
  go_wp2_with fail
  refine (cN.out _).mono ?_; rintro e w1 ⟨rfl, q1⟩
  go_wp2_with fail
  go_ret
  exact ⟨by rw [hR.out]; rfl, q1⟩

end Go.Proofs.Ytnbloidiojedoaa.wir
