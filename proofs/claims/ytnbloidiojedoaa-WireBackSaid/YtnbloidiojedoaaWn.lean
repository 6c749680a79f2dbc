/- Number, Count and String of the Reader. -/
import Derived.Test.YtnbloidiojedoaaWc
namespace Go.Proofs.Ytnbloidiojedoaa.wir
open Go.RowKit

/-- What is known of a Reader behind a call. -/
def After (p : Nat) (s : ByteArray) (e : Int) (w w' : World) : Prop := Rd p s e true w' ∧ M p w w'

set_option maxRecDepth 100000 in
theorem number_ok (p : Nat) (s : ByteArray) (w : World) (h : Rd p s 0 true w) (hs : s.size ≤ 1000000) :
    Calls Try.prog 18 #[ptr p] w fun r w' => r = .returned (.int .i64 (gotN (num s))) ∧ Hid (After p (gotS s (num s)) (num s).2.2 w w') := by
  have cE : Hid (∀ w, Rd p s 0 true w → Calls Try.prog 25 #[ptr p] w fun r w' => r = .returned (.int .i64 0) ∧ w = w') := fun w h => err_any p s 0 w h
  have f1 := (num_fits s).1
  have cA : Hid (∀ w, Rd p s 0 true w → Calls Try.prog 32 #[ptr p, .int .i64 (num s).1, .int .i64 ((num s).2.1 : Int), .int .i64 (num s).2.2] w fun r w' => r = .returned (.int .i64 (gotN (num s))) ∧ After p (gotS s (num s)) (num s).2.2 w w') := fun w h => accept_any p s (num s) w h f1
  have cD0 : Hid (∀ w, Calls Try.prog 33 #[.string s] w fun e w' => e = trip (num s) ∧ w = w') := fun w => decodeNumber_any s w hs
  generalize num s = t at *
  obtain ⟨n, k, e⟩ := t
  have cD : Hid (∀ w, Calls Try.prog 33 #[.string s] w fun r w' => r = .returned (.tuple #[.int .i64 n, .int .i64 (k : Int), .int .i64 e]) ∧ w = w') := cD0.out
  clear cD0
  dsimp only at *
  generalize gotN (n, k, e) = N at *
  generalize gotS s (n, k, e) = S at *
  have HR := Lib.hid h
  have c0 := h.c0
  clear h f1
  unfold ptr at *
  go_enter Try.func18, Try.ntmps18
  go_wp2_with fail
  refine (cE.out _ HR.out).mono ?_; rintro e w' ⟨rfl, rfl⟩
  go_wp2_with fail
  go_region_with (first | (go_at_call 33; refine (cD.out _).mono ?_; rintro e w' ⟨rfl, rfl⟩) | (go_at_call 32; refine (cA.out _ (HR.out.drewN _)).mono ?_; rintro e w1 ⟨rfl, q1⟩))
  go_wp2_with fail
  go_ret
  exact ⟨rfl, q1.1, (M.drewN p w 1).trans q1.2⟩

theorem err_odd (p : Nat) (s : ByteArray) (e : Int) (w : World) (h : Rd p s e false w) :
    Calls Try.prog 25 #[ptr p] w fun r w' => r = .returned (.int .i64 38) ∧ w = w' := by
  have c2 := h.c2
  clear h
  unfold ptr
  go_enter Try.func25, Try.ntmps25
  go_wp2_with fail
  go_ret
  exact ⟨rfl, rfl⟩
theorem err_nil (w : World) :
    Calls Try.prog 25 #[.pointer none] w fun r w' => r = .returned (.int .i64 38) ∧ w = w' := by
  go_enter Try.func25, Try.ntmps25
  go_wp2_with fail
  go_ret
  exact ⟨rfl, rfl⟩
theorem left_nil (w : World) :
    Calls Try.prog 23 #[.pointer none] w fun r w' => r = .returned (.int .i64 0) ∧ w = w' := by
  go_enter Try.func23, Try.ntmps23
  go_wp2_with fail
  go_ret
  exact ⟨rfl, rfl⟩
/-- What is not a Reader without an error: nothing happens. -/
def Stops (v : Value) (w : World) : Prop := ∃ f : Int, f ≠ 0 ∧ Calls Try.prog 25 #[v] w fun r w' => r = .returned (.int .i64 f) ∧ w = w'
theorem number_stop (v : Value) (w : World) (h : Stops v w) :
    Calls Try.prog 18 #[v] w fun r w' => r = .returned (.int .i64 0) ∧ w = w' := by
  obtain ⟨f, hf, hE⟩ := h
  have HE := Lib.hid hE
  have hf1 : (f != 0) = true := by rw [bne_iff_ne]; exact hf
  clear hE hf
  go_enter Try.func18, Try.ntmps18
  go_wp2_with fail
  refine (HE.out).mono ?_; rintro e w' ⟨rfl, rfl⟩
  go_wp2_with fail
  go_ret
  exact ⟨rfl, rfl⟩
theorem count_stop (v : Value) (least : Int) (w : World) (h : Stops v w) :
    Calls Try.prog 22 #[v, .int .i64 least] w fun r w' => r = .returned (.int .i64 0) ∧ w = w' := by
  obtain ⟨f, hf, hE⟩ := h
  have HE := Lib.hid hE
  have hf1 : (f != 0) = true := by rw [bne_iff_ne]; exact hf
  clear hE hf
  go_enter Try.func22, Try.ntmps22
  go_wp2_with fail
  refine (HE.out).mono ?_; rintro e w' ⟨rfl, rfl⟩
  go_wp2_with fail
  go_ret
  exact ⟨rfl, rfl⟩
theorem string_stop (v : Value) (w : World) (h : Stops v w) :
    Calls Try.prog 20 #[v] w fun r w' => r = .returned (.string ⟨#[]⟩) ∧ w = w' := by
  have HC := Lib.hid (count_stop v 1 w h)
  clear h
  go_enter Try.func20, Try.ntmps20
  go_wp2_with fail
  refine (HC.out).mono ?_; rintro e w' ⟨rfl, rfl⟩
  go_wp2_with fail
  go_ret
  exact ⟨rfl, rfl⟩

set_option maxRecDepth 100000 in
set_option maxHeartbeats 4000000 in
theorem count_ok (p : Nat) (s : ByteArray) (least : Int) (w : World) (h : Rd p s 0 true w) (hs : s.size ≤ 1000000) (hl : least ≤ 9223372036854775807) :
    Calls Try.prog 22 #[ptr p, .int .i64 least] w fun r w' => r = .returned (.int .i64 (gotN (cnt s (max least 1)))) ∧ Hid (After p (gotS s (cnt s (max least 1))) (cnt s (max least 1)).2.2 w w') := by
  have cE : Hid (∀ w, Rd p s 0 true w → Calls Try.prog 25 #[ptr p] w fun r w' => r = .returned (.int .i64 0) ∧ w = w') := fun w h => err_any p s 0 w h
  have g1 : 1 ≤ max least 1 ∧ max least 1 ≤ 9223372036854775807 := by omega
  obtain ⟨L, hL⟩ : ∃ L, max least 1 = L := ⟨_, rfl⟩
  rw [hL] at g1 ⊢
  have f1 := cnt_fits s L
  have cA : Hid (∀ w, Rd p s 0 true w → Calls Try.prog 32 #[ptr p, .int .i64 (cnt s L).1, .int .i64 ((cnt s L).2.1 : Int), .int .i64 (cnt s L).2.2] w fun r w' => r = .returned (.int .i64 (gotN (cnt s L))) ∧ After p (gotS s (cnt s L)) (cnt s L).2.2 w w') := fun w h => accept_any p s (cnt s L) w h f1
  have cD0 : Hid (∀ w, Calls Try.prog 36 #[.string s, .int .i64 L] w fun e w' => e = trip (cnt s L) ∧ w = w') := fun w => decodeCount_any s L w hs g1.1 g1.2
  generalize cnt s L = t at *
  obtain ⟨n, k, e⟩ := t
  have cD : Hid (∀ w, Calls Try.prog 36 #[.string s, .int .i64 L] w fun r w' => r = .returned (.tuple #[.int .i64 n, .int .i64 (k : Int), .int .i64 e]) ∧ w = w') := cD0.out
  clear cD0
  dsimp only at *
  generalize gotN (n, k, e) = N at *
  generalize gotS s (n, k, e) = S at *
  have HR := Lib.hid h
  have c0 := h.c0
  clear h f1 g1
  unfold ptr at *
  subst hL
  clear hl hs
  go_enter Try.func22, Try.ntmps22
  go_wp2_with fail
  refine (cE.out _ HR.out).mono ?_; rintro e w' ⟨rfl, rfl⟩
  go_wp2_with fail
  go_region_with (first | (go_at_call 36; refine (cD.out _).mono ?_; rintro e w' ⟨rfl, rfl⟩) | (go_at_call 32; refine (cA.out _ (HR.out.drewN _)).mono ?_; rintro e w1 ⟨rfl, q1⟩))
  all_goals
    go_wp2_with fail
    go_ret
    exact ⟨rfl, q1.1, (M.drewN p w 1).trans q1.2⟩

/-- What the three calls give: the result, what is left, the error. -/
def nxN (s : ByteArray) (e : Int) : Int × ByteArray × Int := if e = 0 then (gotN (num s), gotS s (num s), (num s).2.2) else (0, s, e)
def nxC (s : ByteArray) (e least : Int) : Int × ByteArray × Int := if e = 0 then (gotN (cnt s (max least 1)), gotS s (cnt s (max least 1)), (cnt s (max least 1)).2.2) else (0, s, e)
def nxS (s : ByteArray) (e : Int) : ByteArray × ByteArray × Int :=
  if (nxC s e 1).2.2 = 0 then ((nxC s e 1).2.1.extract 0 (nxC s e 1).1.toNat, (nxC s e 1).2.1.extract (nxC s e 1).1.toNat (nxC s e 1).2.1.size, 0)
  else (⟨#[]⟩, (nxC s e 1).2.1, (nxC s e 1).2.2)

theorem number_any (p : Nat) (s : ByteArray) (e : Int) (w : World) (h : Rd p s e true w) (hs : s.size ≤ 1000000) :
    Calls Try.prog 18 #[ptr p] w fun r w' => r = .returned (.int .i64 (nxN s e).1) ∧ Hid (After p (nxN s e).2.1 (nxN s e).2.2 w w') := by
  by_cases he : e = 0
  · subst he
    exact number_ok p s w h hs
  · have e1 : nxN s e = (0, s, e) := if_neg he
    rw [e1]
    refine (number_stop (ptr p) w ⟨e, he, err_any p s e w h⟩).mono ?_
    rintro r w' ⟨rfl, rfl⟩
    exact ⟨rfl, h, M.refl p w⟩
theorem count_any (p : Nat) (s : ByteArray) (e least : Int) (w : World) (h : Rd p s e true w) (hs : s.size ≤ 1000000) (hl : least ≤ 9223372036854775807) :
    Calls Try.prog 22 #[ptr p, .int .i64 least] w fun r w' => r = .returned (.int .i64 (nxC s e least).1) ∧ Hid (After p (nxC s e least).2.1 (nxC s e least).2.2 w w') := by
  by_cases he : e = 0
  · subst he
    exact count_ok p s least w h hs hl
  · have e1 : nxC s e least = (0, s, e) := if_neg he
    rw [e1]
    refine (count_stop (ptr p) least w ⟨e, he, err_any p s e w h⟩).mono ?_
    rintro r w' ⟨rfl, rfl⟩
    exact ⟨rfl, h, M.refl p w⟩

theorem nxC_size (s : ByteArray) (e least : Int) : (nxC s e least).2.1.size ≤ s.size := by
  unfold nxC
  split
  · show (gotS s _).size ≤ _
    unfold gotS
    split
    · rw [ByteArray.size_extract]; omega
    · exact Nat.le_refl _
  · exact Nat.le_refl _
/-- What is counted is there. -/
theorem nxC_fits (s : ByteArray) (e : Int) : 0 ≤ (nxC s e 1).1 ∧ (nxC s e 1).1 ≤ ((nxC s e 1).2.1.size : Int) ∧ ((nxC s e 1).2.2 ≠ 0 → (nxC s e 1).1 = 0) := by
  unfold nxC
  split
  · show 0 ≤ gotN _ ∧ gotN _ ≤ ((gotS s _).size : Int) ∧ (_ → gotN _ = 0)
    unfold gotN gotS
    split
    · rename_i h0
      rw [ByteArray.size_extract]
      have hf := num_fits s
      unfold cnt at h0 ⊢
      split at h0 <;> rename_i h1
      · exact absurd h0 h1
      · rw [if_neg h1]
        split at h0 <;> rename_i h2
        · cases h0
        · rw [if_neg h2]
          split at h0 <;> rename_i h3
          · cases h0
          · rw [if_neg h3]
            have e1 : max (1 : Int) 1 = 1 := by decide
            rw [e1, Int.ediv_one] at h3
            exact ⟨by omega, by omega, fun h => absurd (by omega) h⟩
    · exact ⟨Int.le_refl 0, by omega, fun _ => rfl⟩
  · exact ⟨Int.le_refl 0, by simp, fun _ => rfl⟩

theorem string_any (p : Nat) (s : ByteArray) (e : Int) (w : World) (h : Rd p s e true w) (hs : s.size ≤ 1000000) :
    Calls Try.prog 20 #[ptr p] w fun r w' => r = .returned (.string (nxS s e).1) ∧ Hid (After p (nxS s e).2.1 (nxS s e).2.2 w w') := by
  have cC : Hid (Calls Try.prog 22 #[ptr p, .int .i64 1] w fun r w' => r = .returned (.int .i64 (nxC s e 1).1) ∧ Hid (After p (nxC s e 1).2.1 (nxC s e 1).2.2 w w')) := count_any p s e 1 w h hs (by decide)
  obtain ⟨f1, f2, f3⟩ := nxC_fits s e
  have f4 := nxC_size s e 1
  have hS : nxS s e = nxS s e := rfl
  conv at hS => rhs; unfold nxS
  generalize nxS s e = ANS at *
  generalize nxC s e 1 = t at *
  obtain ⟨n, S, f⟩ := t
  obtain ⟨T, S', f'⟩ := ANS
  dsimp only at *
  obtain ⟨k, rfl⟩ := Int.eq_ofNat_of_zero_le f1
  clear h
  by_cases hn : (k : Int) = 0
  · have hA : Hid ((⟨#[]⟩ : ByteArray) = T ∧ S = S' ∧ f = f') := by
      obtain rfl : k = 0 := by omega
      by_cases hf : f = 0
      · rw [if_pos hf] at hS
        simp only [Prod.mk.injEq] at hS
        obtain ⟨rfl, rfl, rfl⟩ := hS
        refine ⟨by simp; rfl, ?_, hf⟩
        show S = S.extract 0 S.size
        rw [ByteArray.extract_zero_size]
      · rw [if_neg hf] at hS
        simp only [Prod.mk.injEq] at hS
        obtain ⟨rfl, rfl, rfl⟩ := hS
        exact ⟨rfl, rfl, rfl⟩
    have hn0 : ((k : Int) == 0) = true := by rw [hn]; rfl
    clear f1 f2 f3 f4 hS hs hn
    unfold ptr at *
    go_enter Try.func20, Try.ntmps20
    go_wp2_with fail
    refine (cC.out).mono ?_; rintro e w1 ⟨rfl, H1⟩
    go_wp2_with fail
    go_ret
    obtain ⟨g1, rfl, rfl⟩ := hA.out
    exact ⟨by rw [← g1]; rfl, H1⟩
  · have hf : f = 0 := by
      by_cases hf : f = 0
      · exact hf
      · exact absurd (f3 hf) hn
    subst hf
    rw [if_pos rfl] at hS
    simp only [Prod.mk.injEq, Int.toNat_natCast] at hS
    obtain ⟨rfl, rfl, rfl⟩ := hS
    have hn0 : ((k : Int) == 0) = false := by rw [beq_eq_false_iff_ne]; exact hn
    have cT : Hid (∀ w', Rd p S 0 true w' → Calls Try.prog 35 #[ptr p, .int .i64 (k : Int)] w' fun r w'' => r = .returned (.string (S.extract 0 k)) ∧ Rd p (S.extract k S.size) 0 true w'' ∧ M p w' w'') := fun w' h => take_any p S 0 true k w' h (by omega)
    have cL : Hid (∀ w', Calls Try.prog 34 #[.string (S.extract 0 k)] w' fun r w'' => r = .returned (.string (S.extract 0 k)) ∧ Q w' w'') := fun w' => clone_any _ w' (by rw [ByteArray.size_extract]; omega)
    clear f1 f2 f3 f4 hs hn
    generalize S.extract k S.size = S2 at *
    generalize S.extract 0 k = T at *
    unfold ptr at *
    go_enter Try.func20, Try.ntmps20
    go_wp2_with fail
    refine (cC.out).mono ?_; rintro e w1 ⟨rfl, H1⟩
    go_wp2_with fail
    refine (cT.out _ H1.out.1).mono ?_; rintro e w2 ⟨rfl, H2, m2⟩
    have HH : Hid (Rd p S2 0 true w2 ∧ M p w w2) := ⟨H2, H1.out.2.trans m2⟩
    clear H2 m2
    go_wp2_with fail
    refine (cL.out _).mono ?_; rintro e w3 ⟨rfl, q3⟩
    have HH3 : Hid (After p S2 0 w w3) := ⟨HH.out.1.stays q3, HH.out.2.trans (q3.but p)⟩
    clear q3
    go_wp2_with fail
    go_ret
    exact ⟨rfl, HH3⟩

end Go.Proofs.Ytnbloidiojedoaa.wir
