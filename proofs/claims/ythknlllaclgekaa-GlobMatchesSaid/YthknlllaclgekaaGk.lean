/- Check and Literal, of the program and of the reference; takeMore. -/
import Derived.Test.YthknlllaclgekaaGc
namespace Go.Proofs.Ythknlllaclgekaa.glo
open Go.RowKit

/-- The library's variable that its search reads holds some integer. -/
def MX (w : World) : Prop := ∃ m, w.cell? ⟨0, 0, none⟩ = some (.int .i64 m)
theorem MX.block {w w' : World} (h : MX w) (he : w'.heap[0]? = w.heap[0]?) : MX w' := by
  obtain ⟨m, h⟩ := h
  refine ⟨m, ?_⟩
  unfold World.cell? at h ⊢
  rw [he]
  exact h
theorem MX.lt {w : World} (h : MX w) : 0 < w.heap.size := by
  obtain ⟨m, h⟩ := h
  rcases Nat.lt_or_ge 0 w.heap.size with h' | h'
  · exact h'
  · unfold World.cell? at h
    rw [Array.getElem?_eq_none h'] at h
    cases h
theorem MX.stays {w w' : World} (h : MX w) (q : Q w w') : MX w' := h.block (q.block _ h.lt)
theorem MX.beside {p q : Nat} {w w' : World} (h : MX w) (k : M2 p q w w') (hp : 0 ≠ p) (hq : 0 ≠ q) : MX w' := h.block (k.block _ h.lt hp hq)

theorem empty_iff (s : ByteArray) : s.toList.isEmpty = decide (s.size = 0) := by
  rw [Lib.toList_data, Bool.eq_iff_iff, List.isEmpty_iff, decide_eq_true_iff, Lib.size_eq]
  exact List.length_eq_zero_iff.symm
theorem nil_iff (s : ByteArray) : s.data.toList = [] ↔ s.size = 0 := by
  rw [Lib.size_eq]
  exact List.length_eq_zero_iff.symm
theorem len_data (s : ByteArray) : s.data.toList.length = s.size := by simp

theorem index_one (c : UInt8) : ∀ l : List UInt8, (0 ≤ Lib.indexByte l c) ↔ c ∈ l
  | [] => by unfold Lib.indexByte; simp
  | b :: l => by
    have ih := index_one c l
    unfold Lib.indexByte
    split
    · rename_i h
      rw [beq_iff_eq] at h
      subst h
      simp
    · rename_i h
      rw [beq_iff_eq] at h
      rw [List.mem_cons, ← ih]
      split
      · rename_i h1
        rw [beq_iff_eq] at h1
        rw [h1]
        exact ⟨fun h => absurd h (by decide), fun h => by rcases h with rfl | h; exact absurd rfl h; exact absurd h (by decide)⟩
      · rename_i h1
        rw [beq_iff_eq] at h1
        have hge : ∀ l : List UInt8, -1 ≤ Lib.indexByte l c := fun l => by
          induction l with
          | nil => unfold Lib.indexByte; decide
          | cons d l ih =>
            unfold Lib.indexByte
            split
            · decide
            · split
              · decide
              · rename_i h; rw [beq_iff_eq] at h; omega
        have := hge l
        exact ⟨fun h => .inr (by omega), fun _ => by omega⟩

/-- Whether a pattern has no asterisk. -/
def plain (l : List UInt8) : Bool := !(decide (0 ≤ Lib.indexByte l 42))
theorem plain_iff (l : List UInt8) : plain l = true ↔ ∀ c ∈ l, c ≠ 42 := by
  unfold plain
  rw [Bool.not_eq_true', decide_eq_false_iff_not, index_one]
  exact ⟨fun h c hc e => h (e ▸ hc), fun h hc => h 42 hc rfl⟩

theorem literal_any (s : ByteArray) (w : World) :
    Calls Try.prog 11 #[.string s] w fun e w' => e = .returned (.bool (plain s.data.toList)) ∧ w = w' := by
  have c1 := Lib.hid (Try.strings_Contains_one s 42 w)
  go_enter Try.func11, Try.ntmps11
  go_wp2_with fail
  refine (c1.out).mono ?_; rintro e w' ⟨rfl, rfl⟩
  go_wp2_with fail
  go_ret
  exact ⟨rfl, rfl⟩
theorem refLiteral_any (s : ByteArray) (w : World) (hs : s.size ≤ 1000000) :
    Calls Try.prog 12 #[.string s] w fun e w' => e = .returned (.bool (plain s.data.toList)) ∧ w = w' := by
  have c1 := Lib.hid (refGroups_any s w hs)
  have e : plain s.data.toList = (((grp 0 0 0 s.data.toList).1 : Int) == 0) := by
    rw [Bool.eq_iff_iff, plain_iff, beq_iff_eq, ← grp_none]
    omega
  rw [e]
  clear e
  generalize (grp 0 0 0 s.data.toList).1 = X at *
  generalize (grp 0 0 0 s.data.toList).2 = Y at *
  go_enter Try.func12, Try.ntmps12
  go_wp2_with fail
  refine (c1.out).mono ?_; rintro e w' ⟨rfl, rfl⟩
  go_wp2_with fail
  go_ret
  exact ⟨rfl, rfl⟩

set_option maxHeartbeats 1000000 in
theorem check_any (s : ByteArray) (w : World) (mx : MX w) (hs : s.size ≤ 1000000) :
    Calls Try.prog 9 #[.string s] w fun e w' => e = .returned (.int .i64 (chk s.data.toList)) ∧ w = w' := by
  unfold chk
  rw [len_data]
  by_cases h1 : 1024 < s.size
  · rw [if_pos h1]
    have f1 : (1024 : Int) < (s.size : Int) := by omega
    clear h1 mx
    go_enter Try.func9, Try.ntmps9
    go_wp2_with fail
    go_ret
    exact ⟨rfl, rfl⟩
  · rw [if_neg h1]
    have f1 : ¬ (1024 : Int) < (s.size : Int) := by omega
    have cG := Lib.hid (countGroups_any s w hs)
    obtain ⟨m, hm⟩ := mx
    have c3 : Hid (Calls Try.prog 21 #[.string s, .string ⟨#[42, 42, 42]⟩] w fun e w' => e = .returned (.bool (decide (2 < (grp 0 0 0 s.data.toList).2))) ∧ w' = w) := by
      have h := Try.strings_Contains s ⟨#[42, 42, 42]⟩ m w (by omega) hm
      rw [show ((⟨#[42, 42, 42]⟩ : ByteArray).data.toList) = [42, 42, 42] from rfl, three_iff] at h
      exact h
    clear hm h1
    have hn := nil_iff s
    generalize (grp 0 0 0 s.data.toList).1 = X at *
    generalize (grp 0 0 0 s.data.toList).2 = Y at *
    by_cases h2 : 16 < X
    · rw [if_pos h2]
      have f2 : (16 : Int) < (X : Int) := by omega
      clear hn h2
      go_enter Try.func9, Try.ntmps9
      go_wp2_with fail
      refine (cG.out).mono ?_; rintro e w' ⟨rfl, rfl⟩
      go_wp2_with fail
      go_ret
      exact ⟨rfl, rfl⟩
    · rw [if_neg h2]
      have f2 : ¬ (16 : Int) < (X : Int) := by omega
      by_cases h3 : s.size = 0
      · have f3 : s.toList.isEmpty = true := by rw [empty_iff]; exact decide_eq_true h3
        rw [if_pos (.inl (hn.2 h3))]
        clear hn h2 h3
        go_enter Try.func9, Try.ntmps9
        go_wp2_with fail
        refine (cG.out).mono ?_; rintro e w' ⟨rfl, rfl⟩
        go_wp2_with fail
        go_ret
        exact ⟨rfl, rfl⟩
      · have f3 : s.toList.isEmpty = false := by rw [empty_iff]; exact decide_eq_false h3
        by_cases h4 : 2 < Y
        · rw [if_pos (.inr h4)]
          rw [decide_eq_true h4] at c3
          clear hn h2 h3 h4
          go_enter Try.func9, Try.ntmps9
          go_wp2_with fail
          refine (cG.out).mono ?_; rintro e w' ⟨rfl, rfl⟩
          go_wp2_with fail
          refine (c3.out).mono ?_; rintro e w' ⟨rfl, rfl⟩
          go_wp2_with fail
          go_ret
          exact ⟨rfl, rfl⟩
        · rw [if_neg (by rw [hn]; exact fun x => x.elim h3 h4)]
          rw [decide_eq_false h4] at c3
          clear hn h2 h3 h4
          go_enter Try.func9, Try.ntmps9
          go_wp2_with fail
          refine (cG.out).mono ?_; rintro e w' ⟨rfl, rfl⟩
          go_wp2_with fail
          refine (c3.out).mono ?_; rintro e w' ⟨rfl, rfl⟩
          go_wp2_with fail
          go_ret
          exact ⟨rfl, rfl⟩

set_option maxHeartbeats 1000000 in
theorem refCheck_any (s : ByteArray) (w : World) (hs : s.size ≤ 1000000) :
    Calls Try.prog 10 #[.string s] w fun e w' => e = .returned (.int .i64 (chk s.data.toList)) ∧ w = w' := by
  have cG := Lib.hid (refGroups_any s w hs)
  unfold chk
  rw [len_data]
  have hn := nil_iff s
  generalize (grp 0 0 0 s.data.toList).1 = X at *
  generalize (grp 0 0 0 s.data.toList).2 = Y at *
  by_cases h1 : 1024 < s.size
  · rw [if_pos h1]
    have f1 : (1024 : Int) < (s.size : Int) := by omega
    clear h1 hn
    go_enter Try.func10, Try.ntmps10
    go_wp2_with fail
    refine (cG.out).mono ?_; rintro e w' ⟨rfl, rfl⟩
    go_wp2_with fail
    go_ret
    exact ⟨rfl, rfl⟩
  · rw [if_neg h1]
    have f1 : ¬ (1024 : Int) < (s.size : Int) := by omega
    clear h1
    by_cases h2 : 16 < X
    · rw [if_pos h2]
      have f2 : (16 : Int) < (X : Int) := by omega
      clear hn h2
      go_enter Try.func10, Try.ntmps10
      go_wp2_with fail
      refine (cG.out).mono ?_; rintro e w' ⟨rfl, rfl⟩
      go_wp2_with fail
      go_ret
      exact ⟨rfl, rfl⟩
    · rw [if_neg h2]
      have f2 : ¬ (16 : Int) < (X : Int) := by omega
      by_cases h3 : s.size = 0
      · have f3 : ((s.size : Int) == 0) = true := by rw [beq_iff_eq]; omega
        rw [if_pos (.inl (hn.2 h3))]
        clear hn h2 h3
        go_enter Try.func10, Try.ntmps10
        go_wp2_with fail
        refine (cG.out).mono ?_; rintro e w' ⟨rfl, rfl⟩
        go_wp2_with fail
        go_ret
        exact ⟨rfl, rfl⟩
      · have f3 : ((s.size : Int) == 0) = false := by rw [beq_eq_false_iff_ne]; omega
        by_cases h4 : 2 < Y
        · have f4 : decide ((2 : Int) < (Y : Int)) = true := decide_eq_true (by omega)
          rw [if_pos (.inr h4)]
          clear hn h2 h3 h4
          go_enter Try.func10, Try.ntmps10
          go_wp2_with fail
          refine (cG.out).mono ?_; rintro e w' ⟨rfl, rfl⟩
          go_wp2_with fail
          go_ret
          exact ⟨rfl, rfl⟩
        · have f4 : decide ((2 : Int) < (Y : Int)) = false := decide_eq_false (by omega)
          rw [if_neg (by rw [hn]; exact fun x => x.elim h3 h4)]
          clear hn h2 h3 h4
          go_enter Try.func10, Try.ntmps10
          go_wp2_with fail
          refine (cG.out).mono ?_; rintro e w' ⟨rfl, rfl⟩
          go_wp2_with fail
          go_ret
          exact ⟨rfl, rfl⟩

/-! takeMore. -/
/-- Behind the first dot. -/
theorem index_sub_one (c : UInt8) : ∀ l : List UInt8, Lib.index l [c] = Lib.indexByte l c
  | [] => by unfold Lib.index Lib.indexByte; simp
  | b :: l => by
    have ih := index_sub_one c l
    unfold Lib.index Lib.indexByte
    rw [ih]
    have e : List.isPrefixOf [c] (b :: l) = (b == c) := by
      simp only [List.isPrefixOf, Bool.and_true]
      exact Bool.eq_iff_iff.2 (by rw [beq_iff_eq, beq_iff_eq]; exact eq_comm)
    rw [e]
theorem indexByte_split (c : UInt8) : ∀ l : List UInt8, c ∈ l → ∃ x t, l = x ++ c :: t ∧ (∀ d ∈ x, d ≠ c) ∧ Lib.indexByte l c = (x.length : Int)
  | [], h => by cases h
  | b :: l, h => by
    by_cases hb : b = c
    · subst hb
      exact ⟨[], l, rfl, (fun d hd => by cases hd), by unfold Lib.indexByte; simp⟩
    · have hl : c ∈ l := by
        rcases List.mem_cons.1 h with h | h
        · exact absurd h.symm hb
        · exact h
      obtain ⟨x, t, rfl, hx, hi⟩ := indexByte_split c l hl
      refine ⟨b :: x, t, rfl, fun d hd => ?_, ?_⟩
      · rcases List.mem_cons.1 hd with rfl | hd
        · exact hb
        · exact hx d hd
      · unfold Lib.indexByte
        rw [if_neg (by simpa using hb), hi, if_neg (by rw [beq_iff_eq]; omega)]
        simp
/-- What strings.Cut returns at one byte. -/
theorem cut_found (c : UInt8) (l : List UInt8) (h : c ∈ l) : ∃ x t, l = x ++ c :: t ∧ (∀ d ∈ x, d ≠ c) ∧ Lib.cut l [c] = (x, t, true) := by
  obtain ⟨x, t, e, hx, hi⟩ := indexByte_split c l h
  refine ⟨x, t, e, hx, ?_⟩
  unfold Lib.cut
  rw [index_sub_one, hi, if_pos (by omega), e, Int.toNat_natCast]
  simp
theorem cut_not (c : UInt8) (l : List UInt8) (h : c ∉ l) : Lib.cut l [c] = (l, [], false) := by
  unfold Lib.cut
  rw [index_sub_one, if_neg (by rw [index_one]; exact h)]

/-- What is left behind the first dot, and whether there is one. -/
theorem takeMore_stopped (s : ByteArray) (w : World) (mx : MX w) (hs : s.size ≤ 1000000) :
    Calls Try.prog 27 #[.string s, .bool true] w fun e w' => e = .returned (.tuple #[.string ⟨(Lib.cut s.data.toList [46]).2.1.toArray⟩, .bool (Lib.cut s.data.toList [46]).2.2]) ∧ Q w w' := by
  obtain ⟨m, hm⟩ := mx
  have c1 := Lib.hid (Try.strings_Cut s ⟨#[46]⟩ m w (by omega) hm)
  rw [show ((⟨#[46]⟩ : ByteArray).data.toList) = [46] from rfl] at c1
  clear hm
  generalize Lib.cut s.data.toList [46] = R at *
  go_enter Try.func27, Try.ntmps27
  go_wp2_with fail
  refine (c1.out).mono ?_; rintro e w' ⟨rfl, n, rfl⟩
  go_wp2_with fail
  go_ret2
  exact ⟨rfl, Q.drewN _ _⟩
theorem takeMore_next (s : ByteArray) (w : World) (hs : s.size ≤ 1000000) (h : 0 < s.size) :
    Calls Try.prog 27 #[.string s, .bool false] w fun e w' => e = .returned (.tuple #[.string (s.extract 1 s.size), .bool true]) ∧ Q w w' := by
  have f1 : s.toList.isEmpty = false := by rw [empty_iff]; exact decide_eq_false (by omega)
  have f2 : (1 : Int) ≤ (s.size : Int) := by omega
  clear h
  go_enter Try.func27, Try.ntmps27
  go_wp2_with fail
  go_ret2
  exact ⟨rfl, Q.refl _⟩
theorem takeMore_end (s : ByteArray) (w : World) (h : s.size = 0) :
    Calls Try.prog 27 #[.string s, .bool false] w fun e w' => e = .returned (.tuple #[.string ⟨#[]⟩, .bool false]) ∧ Q w w' := by
  have f1 : s.toList.isEmpty = true := by rw [empty_iff]; exact decide_eq_true h
  clear h
  go_enter Try.func27, Try.ntmps27
  go_wp2_with fail
  go_ret2
  exact ⟨rfl, Q.refl _⟩

end Go.Proofs.Ythknlllaclgekaa.glo
