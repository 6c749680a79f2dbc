/- Types and keys of package address, and the texts of keys: what the program's functions return. -/
import Derived.Test.YthekabflbpfjoaaGreatDoorAwam
namespace Go.Proofs.YthekabflbpfjoaaGreatDoor.adr
open Go.RowKit
open Go.Proofs.YthekabflbpfjoaaGreatDoor

theorem str_eq (s : ByteArray) (l : List UInt8) : (s.toList == l) = (s.data.toList == l) := by rw [Lib.toList_data]

set_option maxHeartbeats 1000000 in
theorem type_module (s : ByteArray) (w : World) (h0 : (s.toList == [109, 111, 100, 117, 108, 101]) = true) :
    Calls Tryz.prog 27 #[.string s] w fun e w' => e = .returned (.bool false) ∧ w = w' := by
  go_enter Tryz.func27, Tryz.ntmps27
  go_wp2_with fail
  go_ret
  exact ⟨rfl, rfl⟩
set_option maxHeartbeats 1000000 in
theorem type_data (s : ByteArray) (w : World) (h0 : (s.toList == [109, 111, 100, 117, 108, 101]) = false) (h1 : (s.toList == [100, 97, 116, 97]) = true) :
    Calls Tryz.prog 27 #[.string s] w fun e w' => e = .returned (.bool false) ∧ w = w' := by
  go_enter Tryz.func27, Tryz.ntmps27
  go_wp2_with fail
  go_ret
  exact ⟨rfl, rfl⟩
set_option maxHeartbeats 1000000 in
theorem type_var (s : ByteArray) (w : World) (h0 : (s.toList == [109, 111, 100, 117, 108, 101]) = false) (h1 : (s.toList == [100, 97, 116, 97]) = false) (h2 : (s.toList == [118, 97, 114]) = true) :
    Calls Tryz.prog 27 #[.string s] w fun e w' => e = .returned (.bool false) ∧ w = w' := by
  go_enter Tryz.func27, Tryz.ntmps27
  go_wp2_with fail
  go_ret
  exact ⟨rfl, rfl⟩
set_option maxHeartbeats 1000000 in
theorem type_local (s : ByteArray) (w : World) (h0 : (s.toList == [109, 111, 100, 117, 108, 101]) = false) (h1 : (s.toList == [100, 97, 116, 97]) = false) (h2 : (s.toList == [118, 97, 114]) = false) (h3 : (s.toList == [108, 111, 99, 97, 108]) = true) :
    Calls Tryz.prog 27 #[.string s] w fun e w' => e = .returned (.bool false) ∧ w = w' := by
  go_enter Tryz.func27, Tryz.ntmps27
  go_wp2_with fail
  go_ret
  exact ⟨rfl, rfl⟩
set_option maxHeartbeats 1000000 in
theorem type_output (s : ByteArray) (w : World) (h0 : (s.toList == [109, 111, 100, 117, 108, 101]) = false) (h1 : (s.toList == [100, 97, 116, 97]) = false) (h2 : (s.toList == [118, 97, 114]) = false) (h3 : (s.toList == [108, 111, 99, 97, 108]) = false) (h4 : (s.toList == [111, 117, 116, 112, 117, 116]) = true) :
    Calls Tryz.prog 27 #[.string s] w fun e w' => e = .returned (.bool false) ∧ w = w' := by
  go_enter Tryz.func27, Tryz.ntmps27
  go_wp2_with fail
  go_ret
  exact ⟨rfl, rfl⟩
set_option maxHeartbeats 1000000 in
theorem type_each (s : ByteArray) (w : World) (h0 : (s.toList == [109, 111, 100, 117, 108, 101]) = false) (h1 : (s.toList == [100, 97, 116, 97]) = false) (h2 : (s.toList == [118, 97, 114]) = false) (h3 : (s.toList == [108, 111, 99, 97, 108]) = false) (h4 : (s.toList == [111, 117, 116, 112, 117, 116]) = false) (h5 : (s.toList == [101, 97, 99, 104]) = true) :
    Calls Tryz.prog 27 #[.string s] w fun e w' => e = .returned (.bool false) ∧ w = w' := by
  go_enter Tryz.func27, Tryz.ntmps27
  go_wp2_with fail
  go_ret
  exact ⟨rfl, rfl⟩
set_option maxHeartbeats 1000000 in
theorem type_count (s : ByteArray) (w : World) (h0 : (s.toList == [109, 111, 100, 117, 108, 101]) = false) (h1 : (s.toList == [100, 97, 116, 97]) = false) (h2 : (s.toList == [118, 97, 114]) = false) (h3 : (s.toList == [108, 111, 99, 97, 108]) = false) (h4 : (s.toList == [111, 117, 116, 112, 117, 116]) = false) (h5 : (s.toList == [101, 97, 99, 104]) = false) (h6 : (s.toList == [99, 111, 117, 110, 116]) = true) :
    Calls Tryz.prog 27 #[.string s] w fun e w' => e = .returned (.bool false) ∧ w = w' := by
  go_enter Tryz.func27, Tryz.ntmps27
  go_wp2_with fail
  go_ret
  exact ⟨rfl, rfl⟩
set_option maxHeartbeats 1000000 in
theorem type_remote (s : ByteArray) (w : World) (h0 : (s.toList == [109, 111, 100, 117, 108, 101]) = false) (h1 : (s.toList == [100, 97, 116, 97]) = false) (h2 : (s.toList == [118, 97, 114]) = false) (h3 : (s.toList == [108, 111, 99, 97, 108]) = false) (h4 : (s.toList == [111, 117, 116, 112, 117, 116]) = false) (h5 : (s.toList == [101, 97, 99, 104]) = false) (h6 : (s.toList == [99, 111, 117, 110, 116]) = false) (h7 : (s.toList == [114, 101, 109, 111, 116, 101]) = true) :
    Calls Tryz.prog 27 #[.string s] w fun e w' => e = .returned (.bool false) ∧ w = w' := by
  go_enter Tryz.func27, Tryz.ntmps27
  go_wp2_with fail
  go_ret
  exact ⟨rfl, rfl⟩
set_option maxHeartbeats 1000000 in
theorem type_path (s : ByteArray) (w : World) (h0 : (s.toList == [109, 111, 100, 117, 108, 101]) = false) (h1 : (s.toList == [100, 97, 116, 97]) = false) (h2 : (s.toList == [118, 97, 114]) = false) (h3 : (s.toList == [108, 111, 99, 97, 108]) = false) (h4 : (s.toList == [111, 117, 116, 112, 117, 116]) = false) (h5 : (s.toList == [101, 97, 99, 104]) = false) (h6 : (s.toList == [99, 111, 117, 110, 116]) = false) (h7 : (s.toList == [114, 101, 109, 111, 116, 101]) = false) (h8 : (s.toList == [112, 97, 116, 104]) = true) :
    Calls Tryz.prog 27 #[.string s] w fun e w' => e = .returned (.bool false) ∧ w = w' := by
  go_enter Tryz.func27, Tryz.ntmps27
  go_wp2_with fail
  go_ret
  exact ⟨rfl, rfl⟩
set_option maxHeartbeats 1000000 in
theorem type_self (s : ByteArray) (w : World) (h0 : (s.toList == [109, 111, 100, 117, 108, 101]) = false) (h1 : (s.toList == [100, 97, 116, 97]) = false) (h2 : (s.toList == [118, 97, 114]) = false) (h3 : (s.toList == [108, 111, 99, 97, 108]) = false) (h4 : (s.toList == [111, 117, 116, 112, 117, 116]) = false) (h5 : (s.toList == [101, 97, 99, 104]) = false) (h6 : (s.toList == [99, 111, 117, 110, 116]) = false) (h7 : (s.toList == [114, 101, 109, 111, 116, 101]) = false) (h8 : (s.toList == [112, 97, 116, 104]) = false) (h9 : (s.toList == [115, 101, 108, 102]) = true) :
    Calls Tryz.prog 27 #[.string s] w fun e w' => e = .returned (.bool false) ∧ w = w' := by
  go_enter Tryz.func27, Tryz.ntmps27
  go_wp2_with fail
  go_ret
  exact ⟨rfl, rfl⟩
set_option maxHeartbeats 1000000 in
theorem type_change (s : ByteArray) (w : World) (h0 : (s.toList == [109, 111, 100, 117, 108, 101]) = false) (h1 : (s.toList == [100, 97, 116, 97]) = false) (h2 : (s.toList == [118, 97, 114]) = false) (h3 : (s.toList == [108, 111, 99, 97, 108]) = false) (h4 : (s.toList == [111, 117, 116, 112, 117, 116]) = false) (h5 : (s.toList == [101, 97, 99, 104]) = false) (h6 : (s.toList == [99, 111, 117, 110, 116]) = false) (h7 : (s.toList == [114, 101, 109, 111, 116, 101]) = false) (h8 : (s.toList == [112, 97, 116, 104]) = false) (h9 : (s.toList == [115, 101, 108, 102]) = false) (h10 : (s.toList == [99, 104, 97, 110, 103, 101]) = true) :
    Calls Tryz.prog 27 #[.string s] w fun e w' => e = .returned (.bool false) ∧ w = w' := by
  go_enter Tryz.func27, Tryz.ntmps27
  go_wp2_with fail
  go_ret
  exact ⟨rfl, rfl⟩
set_option maxHeartbeats 1000000 in
theorem type_other (s : ByteArray) (w : World) (hs : s.size ≤ 1000000) (h0 : (s.toList == [109, 111, 100, 117, 108, 101]) = false) (h1 : (s.toList == [100, 97, 116, 97]) = false) (h2 : (s.toList == [118, 97, 114]) = false) (h3 : (s.toList == [108, 111, 99, 97, 108]) = false) (h4 : (s.toList == [111, 117, 116, 112, 117, 116]) = false) (h5 : (s.toList == [101, 97, 99, 104]) = false) (h6 : (s.toList == [99, 111, 117, 110, 116]) = false) (h7 : (s.toList == [114, 101, 109, 111, 116, 101]) = false) (h8 : (s.toList == [112, 97, 116, 104]) = false) (h9 : (s.toList == [115, 101, 108, 102]) = false) (h10 : (s.toList == [99, 104, 97, 110, 103, 101]) = false) :
    Calls Tryz.prog 27 #[.string s] w fun e w' => e = .returned (.bool (isId s.data.toList)) ∧ w = w' := by
  have cI := Lib.hid (fun w => identifier_any s w hs)
  go_enter Tryz.func27, Tryz.ntmps27
  go_wp2_with fail
  refine (cI.out _).mono ?_; rintro e w' ⟨rfl, rfl⟩
  go_wp2_with fail
  go_ret
  exact ⟨rfl, rfl⟩
theorem ty_no (l : List UInt8) (h : l ∈ words) : isTy l = false := by
  cases hx : isTy l with
  | false => rfl
  | true => exact absurd h ((isTy_iff l).1 hx).1
theorem type_any (s : ByteArray) (w : World) (hs : s.size ≤ 1000000) :
    Calls Tryz.prog 27 #[.string s] w fun e w' => e = .returned (.bool (isTy s.data.toList)) ∧ w = w' := by
  have no : ∀ x, (s.toList == x) = true → x ∈ words → isTy s.data.toList = false := fun x h hx => by
    rw [str_eq, beq_iff_eq] at h
    rw [h]
    exact ty_no x hx
  cases h0 : (s.toList == [109, 111, 100, 117, 108, 101]) with
  | true => rw [no _ h0 (by decide)]; exact type_module s w h0
  | false =>
  cases h1 : (s.toList == [100, 97, 116, 97]) with
  | true => rw [no _ h1 (by decide)]; exact type_data s w h0 h1
  | false =>
  cases h2 : (s.toList == [118, 97, 114]) with
  | true => rw [no _ h2 (by decide)]; exact type_var s w h0 h1 h2
  | false =>
  cases h3 : (s.toList == [108, 111, 99, 97, 108]) with
  | true => rw [no _ h3 (by decide)]; exact type_local s w h0 h1 h2 h3
  | false =>
  cases h4 : (s.toList == [111, 117, 116, 112, 117, 116]) with
  | true => rw [no _ h4 (by decide)]; exact type_output s w h0 h1 h2 h3 h4
  | false =>
  cases h5 : (s.toList == [101, 97, 99, 104]) with
  | true => rw [no _ h5 (by decide)]; exact type_each s w h0 h1 h2 h3 h4 h5
  | false =>
  cases h6 : (s.toList == [99, 111, 117, 110, 116]) with
  | true => rw [no _ h6 (by decide)]; exact type_count s w h0 h1 h2 h3 h4 h5 h6
  | false =>
  cases h7 : (s.toList == [114, 101, 109, 111, 116, 101]) with
  | true => rw [no _ h7 (by decide)]; exact type_remote s w h0 h1 h2 h3 h4 h5 h6 h7
  | false =>
  cases h8 : (s.toList == [112, 97, 116, 104]) with
  | true => rw [no _ h8 (by decide)]; exact type_path s w h0 h1 h2 h3 h4 h5 h6 h7 h8
  | false =>
  cases h9 : (s.toList == [115, 101, 108, 102]) with
  | true => rw [no _ h9 (by decide)]; exact type_self s w h0 h1 h2 h3 h4 h5 h6 h7 h8 h9
  | false =>
  cases h10 : (s.toList == [99, 104, 97, 110, 103, 101]) with
  | true => rw [no _ h10 (by decide)]; exact type_change s w h0 h1 h2 h3 h4 h5 h6 h7 h8 h9 h10
  | false =>
  have e : isTy s.data.toList = isId s.data.toList := by
    unfold isTy
    have : words.contains s.data.toList = false := by
      rw [← Lib.toList_data]
      unfold words
      simp only [List.contains_cons, List.contains_nil, h0, h1, h2, h3, h4, h5, h6, h7, h8, h9, h10, Bool.or_false]
    rw [this]
    rfl
  rw [e]
  exact type_other s w hs h0 h1 h2 h3 h4 h5 h6 h7 h8 h9 h10


/-! ### keys -/
def kv (k : K) : Value := .agg #[.int .i64 k.kind, .int .i64 k.num, .string k.str]
theorem isEmpty_size (s : ByteArray) : s.toList.isEmpty = decide (s.size = 0) := by
  rw [Lib.toList_data, Lib.size_eq]
  cases s.data.toList with
  | nil => rfl
  | cons a b => simp
set_option maxHeartbeats 2000000 in
theorem isKey_none (n : Int) (s : ByteArray) (w : World) :
    Calls Tryz.prog 34 #[.agg #[.int .i64 0, .int .i64 n, .string s]] w fun e w' => e = .returned (.bool ((n == 0) && s.toList.isEmpty)) ∧ Q w w' := by
  cases hx : (n == 0) with
  | false =>
    go_enter Tryz.func34, Tryz.ntmps34
    go_wp2_with fail
    go_ret
    exact ⟨rfl, Q.alloc _ _⟩
  | true =>
    cases hy : s.toList.isEmpty with
    | false =>
      go_enter Tryz.func34, Tryz.ntmps34
      go_wp2_with fail
      go_ret
      exact ⟨rfl, Q.alloc _ _⟩
    | true =>
      go_enter Tryz.func34, Tryz.ntmps34
      go_wp2_with fail
      go_ret
      exact ⟨rfl, Q.alloc _ _⟩
set_option maxHeartbeats 2000000 in
theorem isKey_num (n : Int) (s : ByteArray) (w : World) (hn : -9223372036854775808 ≤ n ∧ n ≤ 9223372036854775807) :
    Calls Tryz.prog 34 #[.agg #[.int .i64 1, .int .i64 n, .string s]] w fun e w' => e = .returned (.bool (decide (0 ≤ n) && decide (n ≤ 9007199254740992) && s.toList.isEmpty)) ∧ Q w w' := by
  by_cases h0 : 0 ≤ n
  · by_cases h1 : n ≤ 9007199254740992
    · rw [decide_eq_true h0, decide_eq_true h1, Bool.true_and, Bool.true_and]
      have cV := Lib.hid (fun w => num.valid_yes n w (by omega) h1)
      go_enter Tryz.func34, Tryz.ntmps34
      go_wp2_with fail
      refine (cV.out _).mono ?_; rintro e w' ⟨rfl, rfl⟩
      go_wp2_with fail
      go_ret
      exact ⟨rfl, Q.alloc _ _⟩
    · rw [decide_eq_false h1, Bool.and_false, Bool.false_and]
      have cV := Lib.hid (fun w => num.valid_no n w (.inr (by omega)))
      go_enter Tryz.func34, Tryz.ntmps34
      go_wp2_with fail
      refine (cV.out _).mono ?_; rintro e w' ⟨rfl, rfl⟩
      go_wp2_with fail
      go_ret
      exact ⟨rfl, Q.alloc _ _⟩
  · rw [decide_eq_false h0, Bool.false_and, Bool.false_and]
    go_enter Tryz.func34, Tryz.ntmps34
    go_wp2_with fail
    go_ret
    exact ⟨rfl, Q.alloc _ _⟩
set_option maxHeartbeats 2000000 in
theorem isKey_str (n : Int) (s : ByteArray) (w : World) (f : Fa w) (hs : s.size ≤ 1000000) :
    Calls Tryz.prog 34 #[.agg #[.int .i64 2, .int .i64 n, .string s]] w fun e w' => e = .returned (.bool ((n == 0) && okS s.data.toList)) ∧ Q w w' := by
  have cV : Hid (∀ w', Q w w' → Calls Tryz.prog 61 #[.string s] w' fun e w'' => e = .returned (.bool (okS s.data.toList)) ∧ Q w' w'') := fun w' q => lit.valid_any s w' (q.fa f).fx hs
  clear f
  cases hx : (n == 0) with
  | false =>
    go_enter Tryz.func34, Tryz.ntmps34
    go_wp2_with fail
    go_ret
    exact ⟨rfl, Q.alloc _ _⟩
  | true =>
    go_enter Tryz.func34, Tryz.ntmps34
    go_wp2_with fail
    refine (cV.out _ (Q.alloc _ _)).mono ?_; rintro e w1 ⟨rfl, q1⟩
    go_wp2_with fail
    go_ret
    exact ⟨rfl, (Q.alloc _ _).trans q1⟩
set_option maxHeartbeats 2000000 in
theorem isKey_other (kd n : Int) (s : ByteArray) (w : World) (h0 : (kd == 0) = false) (h1 : (kd == 1) = false) (h2 : (kd == 2) = false) :
    Calls Tryz.prog 34 #[.agg #[.int .i64 kd, .int .i64 n, .string s]] w fun e w' => e = .returned (.bool false) ∧ Q w w' := by
  go_enter Tryz.func34, Tryz.ntmps34
  go_wp2_with fail
  go_ret
  exact ⟨rfl, Q.alloc _ _⟩
theorem dec_beq (n m : Int) : decide (n = m) = (n == m) := by rw [Bool.eq_iff_iff]; simp
theorem isKey_any (k : K) (w : World) (f : Fa w) (hn : -9223372036854775808 ≤ k.num ∧ k.num ≤ 9223372036854775807) (hs : k.str.size ≤ 1000000) :
    Calls Tryz.prog 34 #[kv k] w fun e w' => e = .returned (.bool (okK k)) ∧ Q w w' := by
  obtain ⟨kd, n, s⟩ := k
  unfold okK kv
  simp only at hn hs ⊢
  rw [← isEmpty_size, dec_beq n 0]
  by_cases h0 : kd = 0
  · subst h0
    rw [if_pos rfl]
    exact isKey_none n s w
  rw [if_neg h0]
  by_cases h1 : kd = 1
  · subst h1
    rw [if_pos rfl]
    exact isKey_num n s w hn
  rw [if_neg h1]
  by_cases h2 : kd = 2
  · subst h2
    rw [if_pos rfl]
    exact isKey_str n s w f hs
  rw [if_neg h2]
  exact isKey_other kd n s w (by simpa using h0) (by simpa using h1) (by simpa using h2)

/-- A key's bounds. -/
structure Kb (k : K) : Prop where
  kind : -9223372036854775808 ≤ k.kind ∧ k.kind ≤ 9223372036854775807
  num : -9223372036854775808 ≤ k.num ∧ k.num ≤ 9223372036854775807
  str : k.str.size ≤ 1000000

set_option maxHeartbeats 2000000 in
theorem checkNamed_any (s : ByteArray) (k : K) (w : World) (f : Fa w) (hs : s.size ≤ 1000000) (hk : Kb k) :
    Calls Tryz.prog 26 #[.string s, kv k] w fun e w' => e = .returned (.int .i64 (chkN s k)) ∧ Q w w' := by
  have cI := Lib.hid (fun w => identifier_any s w hs)
  have cK : Hid (∀ w', Q w w' → Calls Tryz.prog 34 #[.agg #[.int .i64 k.kind, .int .i64 k.num, .string k.str]] w' fun e w'' => e = .returned (.bool (okK k)) ∧ Q w' w'') := fun w' q => isKey_any k w' (q.fa f) hk.num hk.str
  unfold chkN kv
  generalize okK k = OK at *
  generalize isId s.data.toList = ID at *
  clear f hk
  obtain ⟨kd, n, t⟩ := k
  simp only at cK ⊢
  cases ID with
  | false =>
    go_enter Tryz.func26, Tryz.ntmps26
    go_wp2_with fail
    refine (cI.out _).mono ?_; rintro e w' ⟨rfl, rfl⟩
    go_wp2_with fail
    go_ret
    exact ⟨rfl, Q.alloc _ _⟩
  | true =>
    cases OK with
    | false =>
      go_enter Tryz.func26, Tryz.ntmps26
      go_wp2_with fail
      refine (cI.out _).mono ?_; rintro e w' ⟨rfl, rfl⟩
      go_wp2_with fail
      refine (cK.out _ (Q.alloc _ _)).mono ?_; rintro e w1 ⟨rfl, q1⟩
      go_wp2_with fail
      go_ret
      exact ⟨rfl, (Q.alloc _ _).trans q1⟩
    | true =>
      go_enter Tryz.func26, Tryz.ntmps26
      go_wp2_with fail
      refine (cI.out _).mono ?_; rintro e w' ⟨rfl, rfl⟩
      go_wp2_with fail
      refine (cK.out _ (Q.alloc _ _)).mono ?_; rintro e w1 ⟨rfl, q1⟩
      go_wp2_with fail
      go_ret
      exact ⟨rfl, (Q.alloc _ _).trans q1⟩

/-! ### the text of a key -/
theorem ba_app (a b : ByteArray) : (a ++ b).data.toList = a.data.toList ++ b.data.toList := by simp
theorem fK_case (k : K) (b : Bool) (h : okK k = b) : fK k = if b = false then [] else if k.kind = 1 then 91 :: (Lib.itoa k.num ++ [93]) else if k.kind = 2 then 91 :: (lit.quoteL k.str.data.toList ++ [93]) else [] := by
  unfold fK
  rw [h]
set_option maxHeartbeats 2000000 in
theorem formatKey_no (kd n : Int) (t : ByteArray) (w : World) (cK : Hid (∀ w', Q w w' → Calls Tryz.prog 34 #[.agg #[.int .i64 kd, .int .i64 n, .string t]] w' fun e w'' => e = .returned (.bool false) ∧ Q w' w'')) :
    Calls Tryz.prog 13 #[.agg #[.int .i64 kd, .int .i64 n, .string t]] w fun e w' => e = .returned (.string ⟨#[]⟩) ∧ Q w w' := by
  go_enter Tryz.func13, Tryz.ntmps13
  go_wp2_with fail
  refine (cK.out _ (Q.alloc _ _)).mono ?_; rintro e w1 ⟨rfl, q1⟩
  go_wp2_with fail
  go_ret
  exact ⟨rfl, (Q.alloc _ _).trans q1⟩
theorem box_cells {w w1 : World} {cs : Array Value} {t : TypeId} (q : Q (w.alloc (.cells cs t)) w1) (j : Nat) (v : Value) (h : cs[j]? = some v) : w1.cell? ⟨w.heap.size, j, none⟩ = some v := by
  rw [Below.cell q (p := ⟨w.heap.size, j, none⟩) (by simp), World.cell?_alloc_new]
  exact h
set_option maxHeartbeats 2000000 in
theorem formatKey_num (n : Int) (t I : ByteArray) (w : World) (hI : I.size ≤ 1000000) (cK : Hid (∀ w', Q w w' → Calls Tryz.prog 34 #[.agg #[.int .i64 1, .int .i64 n, .string t]] w' fun e w'' => e = .returned (.bool true) ∧ Q w' w''))
  (cF : Hid (∀ w', Q w w' → Calls Tryz.prog 35 #[.int .i64 n] w' fun e w'' => e = .returned (.string I) ∧ Q w' w'')) :
    Calls Tryz.prog 13 #[.agg #[.int .i64 1, .int .i64 n, .string t]] w fun e w' => e = .returned (.string ((⟨#[91]⟩ ++ I) ++ ⟨#[93]⟩)) ∧ Q w w' := by
  go_enter Tryz.func13, Tryz.ntmps13
  go_wp2_with fail
  refine (cK.out _ (Q.alloc _ _)).mono ?_; rintro e w1 ⟨rfl, q1⟩
  have c0 := box_cells q1 0 _ rfl
  have c1 := box_cells q1 1 _ rfl
  have c2 := box_cells q1 2 _ rfl
  have Q1 := Lib.hid ((Q.alloc w _).trans q1)
  clear q1
  go_wp2_with fail
  refine (cF.out _ Q1.out).mono ?_; rintro e w2 ⟨rfl, q2⟩
  have Q2 := Lib.hid (Q1.out.trans q2)
  clear q2
  go_wp2_with fail
  go_ret
  exact ⟨rfl, Q2.out⟩
set_option maxHeartbeats 2000000 in
theorem formatKey_str (n : Int) (t I : ByteArray) (w : World) (hI : I.size ≤ 1000000) (cK : Hid (∀ w', Q w w' → Calls Tryz.prog 34 #[.agg #[.int .i64 2, .int .i64 n, .string t]] w' fun e w'' => e = .returned (.bool true) ∧ Q w' w''))
  (cF : Hid (∀ w', Q w w' → Calls Tryz.prog 36 #[.string t] w' fun e w'' => e = .returned (.string I) ∧ Q w' w'')) :
    Calls Tryz.prog 13 #[.agg #[.int .i64 2, .int .i64 n, .string t]] w fun e w' => e = .returned (.string ((⟨#[91]⟩ ++ I) ++ ⟨#[93]⟩)) ∧ Q w w' := by
  go_enter Tryz.func13, Tryz.ntmps13
  go_wp2_with fail
  refine (cK.out _ (Q.alloc _ _)).mono ?_; rintro e w1 ⟨rfl, q1⟩
  have c0 := box_cells q1 0 _ rfl
  have c1 := box_cells q1 1 _ rfl
  have c2 := box_cells q1 2 _ rfl
  have Q1 := Lib.hid ((Q.alloc w _).trans q1)
  clear q1
  go_wp2_with fail
  refine (cF.out _ Q1.out).mono ?_; rintro e w2 ⟨rfl, q2⟩
  have Q2 := Lib.hid (Q1.out.trans q2)
  clear q2
  go_wp2_with fail
  go_ret
  exact ⟨rfl, Q2.out⟩
set_option maxHeartbeats 2000000 in
theorem formatKey_none (n : Int) (t : ByteArray) (w : World) (cK : Hid (∀ w', Q w w' → Calls Tryz.prog 34 #[.agg #[.int .i64 0, .int .i64 n, .string t]] w' fun e w'' => e = .returned (.bool true) ∧ Q w' w'')) :
    Calls Tryz.prog 13 #[.agg #[.int .i64 0, .int .i64 n, .string t]] w fun e w' => e = .returned (.string ⟨#[]⟩) ∧ Q w w' := by
  go_enter Tryz.func13, Tryz.ntmps13
  go_wp2_with fail
  refine (cK.out _ (Q.alloc _ _)).mono ?_; rintro e w1 ⟨rfl, q1⟩
  have c0 := box_cells q1 0 _ rfl
  have c1 := box_cells q1 1 _ rfl
  have c2 := box_cells q1 2 _ rfl
  have Q1 := Lib.hid ((Q.alloc w _).trans q1)
  clear q1
  go_wp2_with fail
  go_ret
  exact ⟨rfl, Q1.out⟩
theorem itoa_le (n : Int) (h0 : -9223372036854775808 ≤ n) (h1 : n ≤ 9223372036854775807) : (Lib.itoa n).length ≤ 100 := by
  have := Lib.itoa_length_le n h0 h1
  omega
theorem okK_kinds (k : K) (h : okK k = true) : k.kind = 0 ∨ k.kind = 1 ∨ (k.kind = 2 ∧ okS k.str.data.toList = true) := by
  rcases okK_cases k h with rfl | ⟨h, _⟩ | ⟨h, _, h2⟩
  · exact .inl rfl
  · exact .inr (.inl h)
  · exact .inr (.inr ⟨h, h2⟩)
theorem fK_len (k : K) : (fK k).length ≤ 25000 := by
  unfold fK
  split
  · simp
  rename_i h
  rw [Bool.not_eq_false] at h
  split
  · rcases okK_cases k h with rfl | ⟨_, h2, h3, _⟩ | ⟨h1, _⟩
    · have := itoa_le K.zero.num (by decide) (by decide); simp; omega
    · have := itoa_le k.num (by omega) (by omega); simp; omega
    · omega
  split
  · rcases okK_cases k h with rfl | ⟨h1, _⟩ | ⟨_, _, h3⟩
    · simp [K.zero] at *
    · omega
    · have := (lit.quote_len k.str.data.toList).2
      have := ((okS_iff _).1 h3).1
      simp only [List.length_cons, List.length_append, List.length_nil]
      omega
  · simp
theorem formatKey_any (k : K) (w : World) (f : Fa w) (hk : Kb k) :
    Calls Tryz.prog 13 #[kv k] w fun e w' => e = .returned (.string ⟨(fK k).toArray⟩) ∧ Q w w' := by
  have cK : Hid (∀ w', Q w w' → Calls Tryz.prog 34 #[.agg #[.int .i64 k.kind, .int .i64 k.num, .string k.str]] w' fun e w'' => e = .returned (.bool (okK k)) ∧ Q w' w'') := fun w' q => isKey_any k w' (q.fa f) hk.num hk.str
  cases ho : okK k with
  | false =>
    rw [ho] at cK
    rw [fK_case k _ ho, if_pos rfl]
    exact formatKey_no _ _ _ w cK
  | true =>
    rw [ho] at cK
    rw [fK_case k _ ho, if_neg (by decide)]
    have hK := okK_kinds k ho
    obtain ⟨kd, n, t⟩ := k
    unfold kv
    simp only at hK cK ⊢
    rcases hK with rfl | rfl | ⟨rfl, h2⟩
    · rw [if_neg (by decide), if_neg (by decide)]
      exact formatKey_none n t w cK
    · rw [if_pos rfl]
      have hl := itoa_le n hk.num.1 hk.num.2
      have h := formatKey_num n t ⟨(Lib.itoa n).toArray⟩ w (by rw [ba_size]; omega) cK (fun w' q => num.format_any n w' hk.num.1 hk.num.2 (q.fa f).tab)
      have e : ((⟨#[91]⟩ ++ (⟨(Lib.itoa n).toArray⟩ : ByteArray)) ++ ⟨#[93]⟩ : ByteArray) = ⟨(91 :: (Lib.itoa n ++ [93])).toArray⟩ := ba_ext (by rw [ba_app, ba_app, ba_list, ba_list]; rfl)
      rwa [e] at h
    · rw [if_neg (by decide), if_pos rfl]
      have hl := (lit.quote_len t.data.toList).2
      have hl2 := ((okS_iff _).1 h2).1
      have h := formatKey_str n t ⟨(lit.quoteL t.data.toList).toArray⟩ w (by rw [ba_size]; omega) cK (fun w' q => lit.quote_any t w' (q.fa f).fx hk.str)
      have e : ((⟨#[91]⟩ ++ (⟨(lit.quoteL t.data.toList).toArray⟩ : ByteArray)) ++ ⟨#[93]⟩ : ByteArray) = ⟨(91 :: (lit.quoteL t.data.toList ++ [93])).toArray⟩ := ba_ext (by rw [ba_app, ba_app, ba_list, ba_list]; rfl)
      rwa [e] at h

end Go.Proofs.YthekabflbpfjoaaGreatDoor.adr
