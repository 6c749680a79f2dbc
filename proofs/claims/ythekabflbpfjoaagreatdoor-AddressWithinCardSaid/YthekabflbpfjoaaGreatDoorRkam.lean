/- The reference's key, whatever the text. -/
import Derived.Test.YthekabflbpfjoaaGreatDoorRknm
namespace Go.Proofs.YthekabflbpfjoaaGreatDoor.adr
open Go.RowKit
open Go.Proofs.YthekabflbpfjoaaGreatDoor

theorem drop_at (s : ByteArray) (k : Nat) (h : k < s.size) : s.data.toList.drop k = s[k] :: s.data.toList.drop (k + 1) := by
  rw [List.drop_eq_getElem_cons (by simpa using h)]
  rfl
theorem bne_byte (c d : UInt8) (b : Bool) (h : (c == d) = b) : ((c.toNat : Int) != (d.toNat : Int)) = !b := by
  have := beq_byte c d
  rw [h] at this
  rw [bne, this]
theorem ref_keyStr (s : ByteArray) (w : World) (hs : s.size ≤ 3000) (h1 : 1 < s.size) (h0 : ((s[0].toNat : Int) != 91) = false) (he : s.toList.isEmpty = false) (h34 : ((s[1].toNat : Int) == 34) = true) :
    Calls Tryz.prog 71 #[.string s] w fun e w' => ∃ k r ok, e = .returned (.tuple #[kv k, .string r, .bool ok]) ∧ KeyEnds (rdS (s.data.toList.drop 1)) k r ok ∧ Q w w' := by
  have hI : (s.extract 1 s.size).data.toList = s.data.toList.drop 1 := ext_to s 1
  have hIs : (s.extract 1 s.size).size ≤ 1000000 := by rw [Lib.size_eq, hI, List.length_drop]; simp; omega
  obtain ⟨n, hn, hle⟩ := unq_at (s.data.toList.drop 1)
  have hlen : (s.data.toList.drop 1).length = s.size - 1 := by rw [List.length_drop]; simp
  have cU : ∀ w', Calls Tryz.prog 89 #[.string (s.extract 1 s.size)] w' fun e w'' => e = .returned (.tuple #[.string ⟨(lit.unq (s.data.toList.drop 1)).1.toArray⟩, .int .i64 n, .int .i64 (lit.unq (s.data.toList.drop 1)).2.2]) ∧ Q w' w'' := fun w' => by
    have h := lit.ref_unquote (s.extract 1 s.size) w' hIs
    rw [hI, hn] at h
    exact h
  have hr : rdS (s.data.toList.drop 1) = if (lit.unq (s.data.toList.drop 1)).2.2 = 0 ∧ ((s.data.toList.drop 1).drop n).head? = some 93 ∧ lit.quoteL (lit.unq (s.data.toList.drop 1)).1 = (s.data.toList.drop 1).take n then some (⟨2, 0, ⟨(lit.unq (s.data.toList.drop 1)).1.toArray⟩⟩, (s.data.toList.drop 1).drop (n + 1)) else none := by
    unfold rdS
    rw [hn, Int.toNat_natCast]
  rw [hr]
  clear hr
  have hdd : (s.data.toList.drop 1).drop n = s.data.toList.drop (n + 1) := by rw [List.drop_drop, Nat.add_comm]
  by_cases e0 : (lit.unq (s.data.toList.drop 1)).2.2 = 0
  rotate_left 1
  · rw [if_neg (fun x => e0 x.1)]
    refine (refKy_strno s _ _ n _ w (by omega) he h1 h0 h34 rfl (by omega) (fun w' _ => cU w') (.inl (by rw [bne_iff_ne]; exact e0))).mono ?_
    rintro e w' ⟨rfl, q⟩
    exact ⟨K.zero, _, _, rfl, rfl, q⟩
  rw [e0] at cU
  by_cases hlt : n + 1 < s.size
  rotate_left 1
  · have hend : s.data.toList.drop (n + 1) = [] := List.drop_of_length_le (by rw [show s.data.toList.length = s.size by simp]; omega)
    rw [if_neg (fun x => by
      rw [hdd, hend] at x
      cases x.2.1)]
    refine (refKy_strno s _ _ n 0 w (by omega) he h1 h0 h34 rfl (by omega) (fun w' _ => cU w') (.inr (.inl ⟨rfl, decide_eq_true (by omega)⟩))).mono ?_
    rintro e w' ⟨rfl, q⟩
    exact ⟨K.zero, _, _, rfl, rfl, q⟩
  have hat := drop_at s (n + 1) hlt
  cases h93 : (s[n + 1] == 93) with
  | false =>
    have hb := bne_byte _ _ _ h93
    rw [if_neg (fun x => by
      rw [hdd, hat] at x
      have := x.2.1
      simp only [List.head?_cons, Option.some.injEq] at this
      rw [this] at h93
      exact absurd h93 (by decide))]
    refine (refKy_strno s _ _ n 0 w (by omega) he h1 h0 h34 rfl (by omega) (fun w' _ => cU w') (.inr (.inr ⟨rfl, decide_eq_false (by omega), hlt, hb, by omega, by omega⟩))).mono ?_
    rintro e w' ⟨rfl, q⟩
    exact ⟨K.zero, _, _, rfl, rfl, q⟩
  | true =>
    have hb := bne_byte _ _ _ h93
    have hok := (unq_ok (s.data.toList.drop 1) e0).1
    have hl2 := ((okS_iff _).1 hok).1
    have hh : ((s.data.toList.drop 1).drop n).head? = some 93 := by
      rw [hdd, hat, beq_iff_eq.1 h93]
      rfl
    have hH : (s.extract 1 (n + 1)).data.toList = (s.data.toList.drop 1).take n := by
      have : (s.extract 1 (n + 1)).data.toList = (s.data.toList.take (n + 1)).drop 1 := by simp [List.drop_take]
      rw [this, List.drop_take]
      rfl
    have cQ : ∀ w', Calls Tryz.prog 38 #[.string ⟨(lit.unq (s.data.toList.drop 1)).1.toArray⟩] w' fun e w'' => e = .returned (.string ⟨(lit.quoteL (lit.unq (s.data.toList.drop 1)).1).toArray⟩) ∧ Q w' w'' := fun w' => lit.ref_quote ⟨(lit.unq (s.data.toList.drop 1)).1.toArray⟩ w' (by rw [ba_size]; omega)
    have cK : ∀ w', Calls Tryz.prog 29 #[.agg #[.int .i64 2, .int .i64 0, .string ⟨(lit.unq (s.data.toList.drop 1)).1.toArray⟩]] w' fun e w'' => e = .returned (.bool true) ∧ Q w' w'' := fun w' => by
      have h := refKey_any ⟨2, 0, ⟨(lit.unq (s.data.toList.drop 1)).1.toArray⟩⟩ w' (by rw [ba_size]; omega)
      rw [rdS_ref _ e0] at h
      exact h
    have ql : ((s.extract 1 (n + 1)).toList == (⟨(lit.quoteL (lit.unq (s.data.toList.drop 1)).1).toArray⟩ : ByteArray).toList) = ((s.data.toList.drop 1).take n == lit.quoteL (lit.unq (s.data.toList.drop 1)).1) := by
      rw [Lib.toList_data, Lib.toList_data, hH]
    cases hq : ((s.data.toList.drop 1).take n == lit.quoteL (lit.unq (s.data.toList.drop 1)).1) with
    | false =>
      rw [if_neg (fun x => by
        rw [beq_eq_false_iff_ne] at hq
        exact hq x.2.2.symm)]
      refine (refKy_diff s _ _ _ _ n w (by omega) he h1 h0 h34 rfl rfl hlt hb (fun w' _ => cU w') cQ (ql.trans hq)).mono ?_
      rintro e w' ⟨rfl, q⟩
      exact ⟨K.zero, _, _, rfl, rfl, q⟩
    | true =>
      rw [if_pos ⟨e0, hh, (beq_iff_eq.1 hq).symm⟩]
      refine (refKy_str s _ _ _ _ _ n w (by omega) he h1 h0 h34 rfl rfl rfl hlt hb (fun w' _ => cU w') cQ cK (ql.trans hq)).mono ?_
      rintro e w' ⟨rfl, q⟩
      refine ⟨⟨2, 0, _⟩, _, _, rfl, ⟨rfl, rfl, ?_⟩, q⟩
      have : ((n : Int) + 2).toNat = n + 2 := by omega
      rw [this, ext_to, List.drop_drop]
      congr 1
      omega
theorem ref_keyNum (s : ByteArray) (w : World) (hs : s.size ≤ 3000) (hp : 0 < s.size) (h0 : ((s[0].toNat : Int) != 91) = false) (he : s.toList.isEmpty = false)
  (hns : ((s.size : Int) ≤ 1) ∨ (1 < (s.size : Int) ∧ ∃ h : 1 < s.size, ((s[1].toNat : Int) == 34) = false)) :
    Calls Tryz.prog 71 #[.string s] w fun e w' => ∃ k r ok, e = .returned (.tuple #[kv k, .string r, .bool ok]) ∧ KeyEnds (rdN (s.data.toList.drop 1)) k r ok ∧ Q w w' := by
  have hlen : (s.data.toList.drop 1).length = s.size - 1 := by rw [List.length_drop]; simp
  have hdl : (digs (s.data.toList.drop 1)).length ≤ (s.data.toList.drop 1).length := by
    have := congrArg List.length (takeWhile_split (p := txt.digit) (s.data.toList.drop 1))
    rw [List.length_append] at this
    have h2 : ((s.data.toList.drop 1).takeWhile txt.digit).length = (digs (s.data.toList.drop 1)).length := rfl
    omega
  have htk : (s.data.toList.drop 1).take (digs (s.data.toList.drop 1)).length = digs (s.data.toList.drop 1) := by
    have := takeWhile_split (p := txt.digit) (s.data.toList.drop 1)
    have h2 : (s.data.toList.drop 1).takeWhile txt.digit = digs (s.data.toList.drop 1) := rfl
    rw [h2] at this
    generalize digs (s.data.toList.drop 1) = x at *
    rw [this, List.take_left]
  obtain ⟨ANS, hA⟩ : ∃ z, 1 + (digs (s.data.toList.drop 1)).length = z := ⟨_, rfl⟩
  have hD : (s.extract 1 ANS).data.toList = digs (s.data.toList.drop 1) := by
    have : (s.extract 1 ANS).data.toList = (s.data.toList.take ANS).drop 1 := by simp [List.drop_take]
    rw [this, ← hA, List.drop_take, Nat.add_sub_cancel_left, htk]
  have hDs : (s.extract 1 ANS).size ≤ 3000 := by rw [Lib.size_eq, hD]; omega
  have cP : ∀ w', Calls Tryz.prog 90 #[.string (s.extract 1 ANS)] w' fun e w'' => e = .returned (.tuple #[.int .i64 (num.pv (digs (s.data.toList.drop 1))), .int .i64 (num.pe (digs (s.data.toList.drop 1)))]) ∧ w' = w'' := fun w' => by
    have h := num.rparse_any (s.extract 1 ANS) w' hDs
    rw [hD] at h
    exact h
  have hdd : (s.data.toList.drop 1).drop (digs (s.data.toList.drop 1)).length = s.data.toList.drop ANS := by rw [List.drop_drop, hA]
  rw [rdN_ref, hdd]
  by_cases e0 : num.pe (digs (s.data.toList.drop 1)) = 0
  rotate_left 1
  · rw [if_neg (fun x => e0 x.1)]
    refine (refKy_numno s _ ANS _ _ w (by omega) he hp h0 hns (Lib.hid hA) (Lib.hid rfl) cP (.inl (by rw [bne_iff_ne]; exact e0))).mono ?_
    rintro e w' ⟨rfl, q⟩
    exact ⟨K.zero, _, _, rfl, rfl, q⟩
  rw [e0] at cP
  by_cases hlt : ANS < s.size
  rotate_left 1
  · have hend : s.data.toList.drop ANS = [] := List.drop_of_length_le (by rw [show s.data.toList.length = s.size by simp]; omega)
    rw [if_neg (fun x => by
      rw [hend] at x
      cases x.2)]
    refine (refKy_numno s _ ANS _ 0 w (by omega) he hp h0 hns (Lib.hid hA) (Lib.hid rfl) cP (.inr (.inl ⟨rfl, by omega⟩))).mono ?_
    rintro e w' ⟨rfl, q⟩
    exact ⟨K.zero, _, _, rfl, rfl, q⟩
  have hat := drop_at s ANS hlt
  cases h93 : (s[ANS] == 93) with
  | false =>
    have hb := bne_byte _ _ _ h93
    rw [if_neg (fun x => by
      rw [hat] at x
      have := x.2
      simp only [List.head?_cons, Option.some.injEq] at this
      rw [this] at h93
      exact absurd h93 (by decide))]
    refine (refKy_numno s _ ANS _ 0 w (by omega) he hp h0 hns (Lib.hid hA) (Lib.hid rfl) cP (.inr (.inr ⟨rfl, by omega, hlt, hb⟩))).mono ?_
    rintro e w' ⟨rfl, q⟩
    exact ⟨K.zero, _, _, rfl, rfl, q⟩
  | true =>
    have hb := bne_byte _ _ _ h93
    rw [if_pos ⟨e0, by rw [hat, beq_iff_eq.1 h93]; rfl⟩]
    rcases hns with h | ⟨h1, h2, h3⟩
    · omega
    refine (refKy_numyes s _ _ ANS _ w (by omega) he hp h0 h1 h2 h3 (Lib.hid hA) (Lib.hid rfl) (Lib.hid rfl) cP (by omega) hlt hb).mono ?_
    rintro e w' ⟨rfl, q⟩
    refine ⟨⟨1, _, ⟨#[]⟩⟩, _, _, rfl, ⟨rfl, rfl, ?_⟩, q⟩
    rw [ext_to, List.drop_drop]
    congr 1
    omega
theorem refKy_any (s : ByteArray) (w : World) (hs : s.size ≤ 3000) :
    Calls Tryz.prog 71 #[.string s] w fun e w' => ∃ k r ok, e = .returned (.tuple #[kv k, .string r, .bool ok]) ∧ KeyEnds (rdK s.data.toList) k r ok ∧ Q w w' := by
  have none_case : ∀ (_ : s.toList.isEmpty = true ∨ (s.toList.isEmpty = false ∧ ∃ h : 0 < s.size, ((s[0].toNat : Int) != 91) = true)) (_ : rdK s.data.toList = some (K.zero, s.data.toList)), Calls Tryz.prog 71 #[.string s] w fun e w' => ∃ k r ok, e = .returned (.tuple #[kv k, .string r, .bool ok]) ∧ KeyEnds (rdK s.data.toList) k r ok ∧ Q w w' := by
    intro h hk
    refine (refKy_none s w h).mono ?_
    rintro e w' ⟨rfl, q⟩
    rw [hk]
    exact ⟨K.zero, _, _, rfl, ⟨rfl, rfl, rfl⟩, q⟩
  cases he : s.toList.isEmpty with
  | true =>
    have hl := (isEmpty_nil s).1 he
    exact none_case (.inl he) (by rw [hl]; rfl)
  | false =>
    have hp : 0 < s.size := by
      rcases Nat.eq_zero_or_pos s.size with h | h
      · rw [Lib.size_eq] at h
        rw [(isEmpty_nil s).2 (List.eq_nil_of_length_eq_zero h)] at he
        cases he
      · exact h
    have hl : s.data.toList = s[0] :: s.data.toList.drop 1 := drop_at s 0 hp
    cases h91 : (s[0] == 91) with
    | false =>
      have hb := bne_byte _ _ _ h91
      refine none_case (.inr ⟨he, hp, hb⟩) ?_
      rw [hl]
      show (if s[0] = 91 then _ else some (K.zero, s[0] :: s.data.toList.drop 1)) = _
      rw [if_neg (by simpa using h91)]
    | true =>
      have hb := bne_byte _ _ _ h91
      have hrd : rdK s.data.toList = if (s.data.toList.drop 1).head? = some 34 then rdS (s.data.toList.drop 1) else rdN (s.data.toList.drop 1) := by
        rw [hl, beq_iff_eq.1 h91, rdK_open]
        rfl
      rw [hrd]
      by_cases h1 : 1 < s.size
      · have hat := drop_at s 1 h1
        cases h34 : (s[1] == 34) with
        | true =>
          rw [if_pos (by rw [hat, beq_iff_eq.1 h34]; rfl)]
          exact ref_keyStr s w hs h1 hb he ((beq_byte s[1] 34).trans h34)
        | false =>
          rw [if_neg (fun x => by
            rw [hat] at x
            simp only [List.head?_cons, Option.some.injEq] at x
            rw [x] at h34
            exact absurd h34 (by decide))]
          exact ref_keyNum s w hs hp hb he (.inr ⟨by omega, h1, (beq_byte s[1] 34).trans h34⟩)
      · rw [if_neg (fun x => by
          rw [List.drop_of_length_le (by rw [show s.data.toList.length = s.size by simp]; omega)] at x
          cases x)]
        exact ref_keyNum s w hs hp hb he (.inl (by omega))

end Go.Proofs.YthekabflbpfjoaaGreatDoor.adr
