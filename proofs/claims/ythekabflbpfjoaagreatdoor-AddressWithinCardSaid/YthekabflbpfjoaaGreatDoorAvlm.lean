/- What is read from a literal is valid. -/
import Derived.Test.YthekabflbpfjoaaGreatDoorAplm
import Derived.Lib.RuneBytes
import Derived.Lib.DecodeN
namespace Go.Proofs.YthekabflbpfjoaaGreatDoor.adr
open Go.Proofs.YthekabflbpfjoaaGreatDoor

theorem dec_of (l : List UInt8) : Lib.decodeL l = Lib.decodeN l.length (l.getD 0 0).toNat (l.getD 1 0).toNat (l.getD 2 0).toNat (l.getD 3 0).toNat := by
  unfold Lib.decodeL
  rw [Lib.decode_at, Nat.sub_zero, ba_size]
  have g : ∀ j, ((⟨l.toArray⟩ : ByteArray).get! j) = l.getD j 0 := fun j => by
    show l.toArray.getD j default = _
    simp [Array.getD, List.getD]
    split
    · rename_i h; rw [List.getElem?_eq_getElem h]; rfl
    · rename_i h; rw [List.getElem?_eq_none (by omega)]; rfl
  rw [g, g, g, g]
theorem valid_one (l : List UInt8) (h : l ≠ []) (hd : (Lib.decodeL l).2 = l.length) (hw : ¬ (Lib.decodeL l).1 = 65533 ∨ 1 < l.length) : Lib.validD l = true := by
  rw [Lib.validD_step l h, if_neg (by omega), hd, List.drop_length]
  rfl
theorem byte_of (z : Int) (h0 : 0 ≤ z) (h1 : z < 256) : (UInt8.ofNat z.toNat).toNat = z.toNat := by rw [UInt8.toNat_ofNat']; omega

set_option maxHeartbeats 4000000 in
theorem valid_encode (r : Int) (h : Lib.validRune r = true) : Lib.validD (Lib.encodeRune r) = true := by
  unfold Lib.validRune at h
  rw [decide_eq_true_eq] at h
  have hne : Lib.encodeRune r ≠ [] := by
    have := (Lib.encodeRuneZ_length r).1
    intro e
    unfold Lib.encodeRune at e
    rw [List.map_eq_nil_iff] at e
    rw [e] at this
    simp at this
  by_cases h1 : r ≤ 127
  · have e : Lib.encodeRune r = [UInt8.ofNat r.toNat] := by unfold Lib.encodeRune; rw [Lib.encodeRuneZ_one (by omega) h1]; rfl
    have b0 := byte_of r (by omega) (by omega)
    rw [e]
    have hd : Lib.decodeL [UInt8.ofNat r.toNat] = (r.toNat, 1) := by
      rw [dec_of]
      simp only [List.getD_cons_zero, b0]
      unfold Lib.decodeN
      rw [if_pos (by omega)]
    exact valid_one _ (by simp) (by rw [hd]; rfl) (.inl (by rw [hd]; show ¬ r.toNat = 65533; omega))
  by_cases h2 : r ≤ 2047
  · have e : Lib.encodeRune r = [UInt8.ofNat (192 + r / 64).toNat, UInt8.ofNat (128 + r % 64).toNat] := by unfold Lib.encodeRune; rw [Lib.encodeRuneZ_two (by omega) h2]; rfl
    have b0 := byte_of (192 + r / 64) (by omega) (by omega)
    have b1 := byte_of (128 + r % 64) (by omega) (by omega)
    rw [e]
    have hd : (Lib.decodeL [UInt8.ofNat (192 + r / 64).toNat, UInt8.ofNat (128 + r % 64).toNat]).2 = 2 := by
      rw [dec_of]
      simp only [List.getD_cons_zero, List.getD_cons_succ, List.length_cons, List.length_nil, b0, b1]
      unfold Lib.decodeN
      repeat' split
      all_goals first | rfl | (exfalso; omega)
    exact valid_one _ (by simp) (by rw [hd]; rfl) (.inr (by simp))
  by_cases h3 : r ≤ 65535
  · have e : Lib.encodeRune r = [UInt8.ofNat (224 + r / 4096).toNat, UInt8.ofNat (128 + r / 64 % 64).toNat, UInt8.ofNat (128 + r % 64).toNat] := by unfold Lib.encodeRune; rw [Lib.encodeRuneZ_three (by omega)]; rfl
    have b0 := byte_of (224 + r / 4096) (by omega) (by omega)
    have b1 := byte_of (128 + r / 64 % 64) (by omega) (by omega)
    have b2 := byte_of (128 + r % 64) (by omega) (by omega)
    rw [e]
    have hd : (Lib.decodeL [UInt8.ofNat (224 + r / 4096).toNat, UInt8.ofNat (128 + r / 64 % 64).toNat, UInt8.ofNat (128 + r % 64).toNat]).2 = 3 := by
      rw [dec_of]
      simp only [List.getD_cons_zero, List.getD_cons_succ, List.length_cons, List.length_nil, b0, b1, b2]
      unfold Lib.decodeN
      repeat' split
      all_goals first | rfl | (exfalso; omega)
    exact valid_one _ (by simp) (by rw [hd]; rfl) (.inr (by simp))
  · have e : Lib.encodeRune r = [UInt8.ofNat (240 + r / 262144).toNat, UInt8.ofNat (128 + r / 4096 % 64).toNat, UInt8.ofNat (128 + r / 64 % 64).toNat, UInt8.ofNat (128 + r % 64).toNat] := by unfold Lib.encodeRune; rw [Lib.encodeRuneZ_four (by omega) (by omega)]; rfl
    have b0 := byte_of (240 + r / 262144) (by omega) (by omega)
    have b1 := byte_of (128 + r / 4096 % 64) (by omega) (by omega)
    have b2 := byte_of (128 + r / 64 % 64) (by omega) (by omega)
    have b3 := byte_of (128 + r % 64) (by omega) (by omega)
    rw [e]
    have hd : (Lib.decodeL [UInt8.ofNat (240 + r / 262144).toNat, UInt8.ofNat (128 + r / 4096 % 64).toNat, UInt8.ofNat (128 + r / 64 % 64).toNat, UInt8.ofNat (128 + r % 64).toNat]).2 = 4 := by
      rw [dec_of]
      simp only [List.getD_cons_zero, List.getD_cons_succ, List.length_cons, List.length_nil, b0, b1, b2, b3]
      unfold Lib.decodeN
      repeat' split
      all_goals first | rfl | (exfalso; omega)
    exact valid_one _ (by simp) (by rw [hd]; rfl) (.inr (by simp))

theorem num_ok (l : List UInt8) (h : (lit.num l).e = 0) : Lib.validRune (lit.num l).r = true := by
  revert h
  unfold lit.num
  split
  · intro h; cases h
  split
  · intro h; cases h
  unfold lit.numAt
  split
  · intro h; cases h
  split
  · intro h; cases h
  rename_i h5
  intro _
  have hv : Lib.validRune (lit.hval ((l.drop 3).take (lit.digs 6 (l.drop 3)))) = true := by
    cases hx : Lib.validRune (lit.hval ((l.drop 3).take (lit.digs 6 (l.drop 3)))) with
    | true => rfl
    | false => exact absurd (.inr (.inr (.inr hx))) h5
  simp only
  exact hv
theorem small_ok (r : Int) (h0 : 0 ≤ r) (h1 : r < 55296) : Lib.validRune r = true := by
  unfold Lib.validRune
  rw [decide_eq_true_eq]
  omega
theorem esc_ok (l : List UInt8) (h : (lit.esc l).e = 0) : Lib.validRune (lit.esc l).r = true := by
  have hb : lit.bt l 1 < 256 := UInt8.toNat_lt _
  revert h
  unfold lit.esc
  split
  · intro h; cases h
  repeat' split
  all_goals first
    | (intro _; exact small_ok _ (by simp only; omega) (by simp only; omega))
    | (intro h; exact num_ok l h)
    | (intro h; cases h)
/-- What one item stands for is validly encoded. -/
theorem item_ok (l : List UInt8) (hne : l ≠ []) (h : (lit.item l).e = 0) : Lib.validD (Lib.encodeRune (lit.item l).r) = true := by
  revert h
  unfold lit.item
  split
  · intro h; exact valid_encode _ (esc_ok l h)
  split
  · intro h; cases h
  · rename_i hx
    intro _
    have hw : ¬ lit.wrong l := fun x => hx (.inr x)
    simp only
    rw [Lib.encode_decode l hne hw]
    have hle := Lib.decodeL_le l hne
    have hge := Lib.decodeL_width l
    have hlen : (l.take (Lib.decodeL l).2).length = (Lib.decodeL l).2 := by rw [List.length_take]; omega
    have hd : Lib.decodeL (l.take (Lib.decodeL l).2) = Lib.decodeL l := lit.decode_same l _ hne hw (by omega) fun j hj => by simp [List.getD, hj]
    have hn2 : l.take (Lib.decodeL l).2 ≠ [] := by
      intro e
      rw [e] at hlen
      simp at hlen
      omega
    rw [Lib.validD_step _ hn2, hd, if_neg (show ¬ ((Lib.decodeL l).1 = 65533 ∧ (Lib.decodeL l).2 = 1) from hw), List.drop_of_length_le (by omega)]
    rfl
theorem unqGo_ok : ∀ (n : Nat) (l : List UInt8) (p : Nat) (acc : List UInt8), l.length ≤ n → Lib.validD acc = true → (lit.unqGo l p acc).2.2 = 0 → okS (lit.unqGo l p acc).1 = true ∧ 0 ≤ (lit.unqGo l p acc).2.1 ∧ (lit.unqGo l p acc).2.1 ≤ p + l.length := by
  intro n
  induction n with
  | zero =>
    intro l p acc hl _ he
    obtain rfl : l = [] := List.eq_nil_of_length_eq_zero (by omega)
    rw [lit.unqGo_nil] at he
    cases he
  | succ n ih =>
    intro l p acc hl hv he
    by_cases hne : l = []
    · subst hne
      rw [lit.unqGo_nil] at he
      cases he
    have hpos : 0 < l.length := List.length_pos_iff.2 hne
    by_cases hq : lit.bt l 0 = 34
    · rw [lit.unqGo_quote l p acc hne hq] at he ⊢
      split at he
      · cases he
      · rename_i hx
        rw [if_neg hx]
        exact ⟨(okS_iff _).2 ⟨by simp only; omega, hv⟩, by simp only; omega, by simp only; omega⟩
    · by_cases h0 : (lit.item l).e = 0
      · rw [lit.unqGo_step l p acc hne hq h0] at he ⊢
        have hs := lit.item_size l hne h0
        have := ih (l.drop (lit.item l).k.toNat) (p + (lit.item l).k.toNat) (acc ++ Lib.encodeRune (lit.item l).r) (by rw [List.length_drop]; omega) (by rw [lit.join_valid _ _ hv]; exact item_ok l hne h0) he
        refine ⟨this.1, this.2.1, ?_⟩
        have h3 := this.2.2
        rw [List.length_drop] at h3
        omega
      · rw [lit.unqGo_bad l p acc hne hq h0] at he
        exact absurd he h0
theorem unq_ok (l : List UInt8) (h : (lit.unq l).2.2 = 0) : okS (lit.unq l).1 = true ∧ 0 ≤ (lit.unq l).2.1 ∧ (lit.unq l).2.1 ≤ l.length := by
  unfold lit.unq at h ⊢
  split at h
  · cases h
  rename_i h1
  rw [if_neg h1]
  split at h
  · cases h
  rename_i h2
  rw [if_neg h2]
  have := unqGo_ok _ (l.drop 1) 1 [] (Nat.le_refl _) rfl h
  refine ⟨this.1, this.2.1, ?_⟩
  have h3 := this.2.2
  have h4 : 0 < l.length := List.length_pos_iff.2 h1
  rw [List.length_drop] at h3
  omega

end Go.Proofs.YthekabflbpfjoaaGreatDoor.adr
