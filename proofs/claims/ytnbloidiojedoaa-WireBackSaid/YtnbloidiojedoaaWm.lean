/- The Reader's methods. -/
import Derived.Test.YtnbloidiojedoaaWd
namespace Go.Proofs.Ytnbloidiojedoaa.wir
open Go.RowKit

theorem clone_any (s : ByteArray) (w : World) (hs : s.size ≤ 1000000) :
    Calls Try.prog 34 #[.string s] w fun e w' => e = .returned (.string s) ∧ Q w w' := by
  go_enter Try.func34, Try.ntmps34
  go_wp2_with fail
  refine (Try.stringslite_Clone s _ (by omega)).mono ?_; rintro e w' ⟨rfl, q⟩
  go_wp2_with fail
  go_ret
  exact ⟨rfl, q⟩

/-- A pointer to a Reader, and to its position. -/
def ptr (p : Nat) : Value := .pointer (some ⟨p, 0, none⟩)

theorem newReader_any (s : ByteArray) (w : World) :
    Calls Try.prog 15 #[.string s] w fun e w' => e = .returned (ptr w.heap.size) ∧ Rd w.heap.size s 0 true w' ∧ Q w w' := by
  go_enter Try.func15, Try.ntmps15
  go_wp2_with fail
  go_ret
  exact ⟨rfl, Rd.new _ _ _ _, Below.alloc (Below.refl _ _) (Nat.le_refl _) _⟩

theorem err_any (p : Nat) (s : ByteArray) (e : Int) (w : World) (h : Rd p s e true w) :
    Calls Try.prog 25 #[ptr p] w fun r w' => r = .returned (.int .i64 e) ∧ w = w' := by
  have c1 := h.c1
  have c2 := h.c2
  clear h
  unfold ptr
  go_enter Try.func25, Try.ntmps25
  go_wp2_with fail
  go_ret
  exact ⟨rfl, rfl⟩
theorem left_any (p : Nat) (s : ByteArray) (e : Int) (m : Bool) (w : World) (h : Rd p s e m w) :
    Calls Try.prog 23 #[ptr p] w fun r w' => r = .returned (.int .i64 (s.size : Int)) ∧ w = w' := by
  have c0 := h.c0
  clear h
  unfold ptr
  go_enter Try.func23, Try.ntmps23
  go_wp2_with fail
  go_ret
  exact ⟨rfl, rfl⟩
theorem take_any (p : Nat) (s : ByteArray) (e : Int) (m : Bool) (k : Nat) (w : World) (h : Rd p s e m w) (hk : k ≤ s.size) :
    Calls Try.prog 35 #[ptr p, .int .i64 (k : Int)] w fun r w' => r = .returned (.string (s.extract 0 k)) ∧ Rd p (s.extract k s.size) e m w' ∧ M p w w' := by
  have c0 := h.c0
  have f0 := h.frozen 0
  have hk1 : (k : Int) ≤ (s.size : Int) := by omega
  have H1 := Lib.hid (h.set0 (s.extract k s.size))
  have H2 := Lib.hid (M.setCell p w 0 (.string (s.extract k s.size)))
  clear h hk
  unfold ptr
  go_enter Try.func35, Try.ntmps35
  go_wp2_with fail
  go_ret
  exact ⟨rfl, H1.out, H2.out⟩

/-- What accept gives of what was decoded. -/
def gotN (t : Int × Nat × Int) : Int := if t.2.2 = 0 then t.1 else 0
def gotS (s : ByteArray) (t : Int × Nat × Int) : ByteArray := if t.2.2 = 0 then s.extract t.2.1 s.size else s
theorem accept_any (p : Nat) (s : ByteArray) (t : Int × Nat × Int) (w : World) (h : Rd p s 0 true w) (hk : t.2.1 ≤ s.size) :
    Calls Try.prog 32 #[ptr p, .int .i64 t.1, .int .i64 (t.2.1 : Int), .int .i64 t.2.2] w fun r w' => r = .returned (.int .i64 (gotN t)) ∧ Rd p (gotS s t) t.2.2 true w' ∧ M p w w' := by
  obtain ⟨n, k, e⟩ := t
  by_cases he : e = 0
  · subst he
    have cT : Hid (Calls Try.prog 35 #[ptr p, .int .i64 (k : Int)] w fun r w' => r = .returned (.string (s.extract 0 k)) ∧ Rd p (s.extract k s.size) 0 true w' ∧ M p w w') := take_any p s 0 true k w h hk
    clear h hk
    show Calls Try.prog 32 #[ptr p, .int .i64 n, .int .i64 (k : Int), .int .i64 0] w fun r w' => r = .returned (.int .i64 n) ∧ Rd p (s.extract k s.size) 0 true w' ∧ M p w w'
    unfold ptr at *
    go_enter Try.func32, Try.ntmps32
    go_wp2_with fail
    refine (cT.out).mono ?_; rintro e w1 ⟨rfl, H1, H2⟩
    have HH := Lib.hid (And.intro H1 H2)
    clear H1 H2
    go_wp2_with fail
    go_ret
    exact ⟨rfl, HH.out⟩
  · have he1 : (e != 0) = true := by rw [bne_iff_ne]; exact he
    have f1 := h.frozen 1
    have c1 := h.c1
    have H1 := Lib.hid (h.set1 e)
    have H2 := Lib.hid (M.setCell p w 1 (.int .i64 e))
    clear h hk
    have g1 : gotN (n, k, e) = 0 := if_neg he
    have g2 : gotS s (n, k, e) = s := if_neg he
    rw [g1, g2]
    clear g1 g2 he
    show Calls Try.prog 32 #[ptr p, .int .i64 n, .int .i64 (k : Int), .int .i64 e] w fun r w' => r = .returned (.int .i64 0) ∧ Rd p s e true w' ∧ M p w w'
    unfold ptr at *
    go_enter Try.func32, Try.ntmps32
    go_wp2_with fail
    go_ret
    exact ⟨rfl, H1.out, H2.out⟩

end Go.Proofs.Ytnbloidiojedoaa.wir
