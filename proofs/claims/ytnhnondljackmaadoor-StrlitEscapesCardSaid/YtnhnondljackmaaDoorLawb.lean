/- The laws StrlitPrints and StrlitEscapes return true for all strings. -/
import Derived.Test.YtnhnondljackmaaDoorLawk
namespace Go.Proofs.YtnhnondljackmaaDoor.lit
open Go.RowKit

theorem plain_iff (c : UInt8) : plain c = true ↔ 32 ≤ c.toNat ∧ ¬ c.toNat = 127 := by
  unfold plain
  simp only [Bool.and_eq_true, decide_eq_true_eq, Bool.not_eq_true', beq_eq_false_iff_ne, ne_eq]
  constructor
  · rintro ⟨h1, h2⟩
    exact ⟨h1, fun e => h2 (UInt8.toNat_inj.1 (by simpa using e))⟩
  · rintro ⟨h1, h2⟩
    exact ⟨h1, fun e => h2 (by rw [e]; rfl)⟩
theorem all_at (q : ByteArray) (h : q.data.toList.all plain = true) (k : Nat) (hk : k < q.size) : 32 ≤ (q[k].toNat : Int) ∧ ¬ (q[k].toNat : Int) = 127 := by
  have hm : q[k] ∈ q.data.toList := by
    have hk' : k < q.data.toList.length := by simpa using hk
    have e : q[k] = q.data.toList[k]'hk' := rfl
    rw [e]
    exact List.getElem_mem hk'
  have := (plain_iff _).1 (List.all_eq_true.1 h _ hm)
  omega

theorem prints_long (s : ByteArray) (w : World) (f : Fx w) (hs : s.size ≤ maxLen) (h : 5000 < s.size) :
    Calls Tryd.prog 6 #[.string s] w fun e w' => e = .returned (.bool true) ∧ Q w w' := by
  have F := Lib.hid f; clear f
  unfold maxLen at hs
  have z1 : (5000 : Int) < (s.size : Int) := by omega
  clear h
  go_enter Tryd.func6, Tryd.ntmps6
  go_wp2_with fail
  refine (awake_true _ F.out).mono ?_; rintro e w1 ⟨rfl, q1⟩
  go_wp2_with fail
  go_ret
  exact ⟨rfl, q1⟩
set_option maxHeartbeats 2000000 in
theorem prints_short (s : ByteArray) (w : World) (f : Fx w) (hs : s.size ≤ 5000) :
    Calls Tryd.prog 6 #[.string s] w fun e w' => e = .returned (.bool true) ∧ Q w w' := by
  have F := Lib.hid f; clear f
  have z1 : ¬ (5000 : Int) < (s.size : Int) := by omega
  have hlen : s.data.toList.length = s.size := by simp
  have hql := quote_len s.data.toList
  have hpl := quote_plain s.data.toList
  have cQ : Hid (∀ w, Fx w → Calls Tryd.prog 12 #[.string s] w fun e w' => e = .returned (.string ⟨(quoteL s.data.toList).toArray⟩) ∧ Q w w') := fun w f => quote_any s w f (by omega)
  obtain ⟨QB, hQB⟩ : ∃ QB : ByteArray, (⟨(quoteL s.data.toList).toArray⟩ : ByteArray) = QB := ⟨_, rfl⟩
  have hd : QB.data.toList = quoteL s.data.toList := by rw [← hQB]
  have hsz : QB.size = (quoteL s.data.toList).length := by rw [← hQB]; simp [ByteArray.size]
  rw [hQB] at cQ
  rw [← hd] at hpl
  have hall := Lib.hid (all_at QB hpl)
  have b0 : s.size + 2 ≤ QB.size := by omega
  have b1 : QB.size ≤ 40000 := by omega
  have g0 : 0 < QB.size := by omega
  have gl : QB.size - 1 < QB.size := by omega
  have hfirst : QB[0].toNat = 34 := by
    have := bt_get QB 0 g0
    rw [← this, hd]
    rfl
  have hlast : QB[QB.size - 1].toNat = 34 := by
    have h1 := bt_get QB (QB.size - 1) gl
    rw [← h1, hsz, hd]
    unfold bt quoteL
    simp [List.getD]
  have f1 : ((QB[0].toNat : Int) != 34) = false := by rw [hfirst]; rfl
  have f2 : ((QB[QB.size - 1].toNat : Int) != 34) = false := by rw [hlast]; rfl
  have f3 : ¬ (QB.size : Int) < (s.size : Int) + 2 := by omega
  clear hQB hql hpl hd hsz hlen hfirst hlast
  go_enter Tryd.func6, Tryd.ntmps6
  go_wp2_with fail
  refine (cQ.out _ F.out).mono ?_; rintro e w1 ⟨rfl, q1⟩
  have F1 := Lib.hid (Q.fx q1 F.out)
  go_wp2_with fail
  go_loop [4] (fun i => ∃ k : Nat, k ≤ QB.size ∧ i = .int .i64 k) (fun i => QB.size - (intOf i).toNat)
  case atStart => exact ⟨0, Nat.zero_le _, rfl⟩
  case round =>
    obtain ⟨k, hk, rfl⟩ := hrel
    by_cases hlt : k < QB.size
    · obtain ⟨c1, c2⟩ := hall.out k hlt
      have c1' : ¬ (QB[k].toNat : Int) < 32 := by omega
      go_wp2_with fail
      go_round
      case rel => exact ⟨k + 1, hlt, by go_num⟩
      case measure => simp [intOf]; omega
    · obtain rfl : QB.size = k := by omega
      go_wp2_with fail
      refine (awake_true _ F1.out).mono ?_; rintro e w2 ⟨rfl, q2⟩
      go_wp2_with fail
      go_ret
      exact ⟨rfl, q1.trans q2⟩
theorem prints_any (s : ByteArray) (w : World) (hs : s.size ≤ maxLen) (f : Fx w) :
    Calls Tryd.prog 6 #[.string s] w fun e w' => e = .returned (.bool true) ∧ Q w w' := by
  by_cases h : 5000 < s.size
  · exact prints_long s w f hs h
  · exact prints_short s w f (by omega)

/-! ### opens -/
/-- The byte ahead of place k (0: there is none). -/
def ahead (l : List UInt8) (k : Nat) : UInt8 := if k = 0 then 0 else l.getD (k - 1) 0
theorem drop_cons (s : ByteArray) (k : Nat) (h : k < s.size) : s.data.toList.drop k = s[k] :: s.data.toList.drop (k + 1) :=
  List.drop_eq_getElem_cons (by simpa using h)
theorem ahead_succ (s : ByteArray) (k : Nat) (h : k < s.size) : ahead s.data.toList (k + 1) = s[k] := by
  unfold ahead
  rw [if_neg (by omega), Nat.add_sub_cancel, List.getD, List.getElem?_eq_getElem (by simpa using h)]
  rfl
/-- The steps of the loop in opens. -/
theorem opens_hit (s : ByteArray) (k : Nat) (h : k + 1 < s.size) (h0 : s[k].toNat = 36) (h1 : s[k + 1].toNat = 123) :
    utf.begins (s.data.toList.drop k) = 1 + utf.begins (s.data.toList.drop (k + 1)) ∧
    utf.after (ahead s.data.toList k) (s.data.toList.drop k) = (if ahead s.data.toList k = 36 then 1 else 0) + utf.after (ahead s.data.toList (k + 1)) (s.data.toList.drop (k + 1)) := by
  have e0 : s[k] = 36 := UInt8.toNat_inj.1 (by rw [h0]; rfl)
  have e1 : s[k + 1] = 123 := UInt8.toNat_inj.1 (by rw [h1]; rfl)
  have d1 := drop_cons s (k + 1) h
  have hh : (s.data.toList.drop (k + 1)).head? = some 123 := by rw [d1, e1]; rfl
  rw [ahead_succ s k (by omega), drop_cons s k (by omega)]
  constructor
  · rw [utf.begins, if_pos ⟨e0, hh⟩]
  · rw [utf.after]
    by_cases ha : ahead s.data.toList k = 36
    · rw [if_pos ⟨e0, hh, ha⟩, if_pos ha]
    · rw [if_neg (fun x => ha x.2.2), if_neg ha]
theorem opens_miss (s : ByteArray) (k : Nat) (h : k + 1 < s.size) (hn : ¬ (s[k].toNat = 36 ∧ s[k + 1].toNat = 123)) :
    utf.begins (s.data.toList.drop k) = utf.begins (s.data.toList.drop (k + 1)) ∧
    utf.after (ahead s.data.toList k) (s.data.toList.drop k) = utf.after (ahead s.data.toList (k + 1)) (s.data.toList.drop (k + 1)) := by
  have d1 := drop_cons s (k + 1) h
  have hx : ¬ (s[k] = 36 ∧ (s.data.toList.drop (k + 1)).head? = some 123) := by
    rintro ⟨e0, hh⟩
    rw [d1, List.head?_cons, Option.some.injEq] at hh
    exact hn ⟨by rw [e0]; rfl, by rw [hh]; rfl⟩
  rw [ahead_succ s k (by omega), drop_cons s k (by omega)]
  constructor
  · rw [utf.begins, if_neg hx, Nat.zero_add]
  · rw [utf.after, if_neg (fun x => hx ⟨x.1, x.2.1⟩), Nat.zero_add]
theorem opens_last (s : ByteArray) (k : Nat) (h : s.size ≤ k + 1) (p : UInt8) : utf.begins (s.data.toList.drop k) = 0 ∧ utf.after p (s.data.toList.drop k) = 0 := by
  have hl : (s.data.toList.drop k).length ≤ 1 := by rw [List.length_drop]; simp; omega
  generalize s.data.toList.drop k = l at hl
  match l, hl with
  | [], _ => exact ⟨rfl, rfl⟩
  | [a], _ => simp [utf.begins, utf.after]

set_option maxHeartbeats 4000000 in
theorem opens_any (s : ByteArray) (w : World) (hs : s.size ≤ 1000000) :
    Calls Tryd.prog 20 #[.string s] w fun e w' => e = .returned (.tuple #[.int .i64 (utf.begins s.data.toList), .int .i64 (utf.after 0 s.data.toList)]) ∧ w = w' := by
  obtain ⟨NB, hNB⟩ : ∃ n, utf.begins s.data.toList = n := ⟨_, rfl⟩
  obtain ⟨NA, hNA⟩ : ∃ n, utf.after 0 s.data.toList = n := ⟨_, rfl⟩
  rw [hNB, hNA]
  have H0 : Hid (0 + utf.begins (s.data.toList.drop 0) = NB ∧ 0 + utf.after (ahead s.data.toList 0) (s.data.toList.drop 0) = NA) := by
    rw [List.drop_zero, Nat.zero_add, Nat.zero_add]
    exact ⟨hNB, hNA⟩
  clear hNB hNA
  have hhit := Lib.hid (opens_hit s)
  have hmiss := Lib.hid (opens_miss s)
  have hlast := Lib.hid (opens_last s)
  go_enter Tryd.func20, Tryd.ntmps20
  go_wp2_with fail
  go_loop [4, 5, 6] (fun n a i => ∃ k N A : Nat, k ≤ s.size ∧ N ≤ k ∧ A ≤ k ∧ i = .int .i64 k ∧ n = .int .i64 N ∧ a = .int .i64 A ∧ Hid (N + utf.begins (s.data.toList.drop k) = NB ∧ A + utf.after (ahead s.data.toList k) (s.data.toList.drop k) = NA)) (fun _ _ i => s.size - (intOf i).toNat)
  case atStart => exact ⟨0, 0, 0, Nat.zero_le _, Nat.le_refl _, Nat.le_refl _, rfl, rfl, rfl, H0⟩
  case round =>
    obtain ⟨k, N, A, hk, hN, hA, rfl, rfl, rfl, hv⟩ := hrel
    by_cases hlt : k + 1 < s.size
    · have hltz : (k : Int) + 1 < (s.size : Int) := by omega
      have hk0 : k < s.size := by omega
      by_cases hh : s[k].toNat = 36 ∧ s[k + 1].toNat = 123
      · have hst := Lib.hid (hhit.out k hlt hh.1 hh.2)
        have c1 : ((s[k].toNat : Int) == 36) = true := by rw [hh.1]; rfl
        have c2 : ((s[k + 1].toNat : Int) == 123) = true := by rw [hh.2]; rfl
        clear hh
        by_cases hp : ahead s.data.toList k = 36
        · have hk1 : 0 < k := by
            rcases Nat.eq_zero_or_pos k with h | h
            · subst h
              exact absurd hp (by unfold ahead; rw [if_pos rfl]; decide)
            · exact h
          have hkz : (0 : Int) < (k : Int) := by omega
          have hpv : s[k - 1].toNat = 36 := by
            have h2 := ahead_succ s (k - 1) (by omega)
            rw [Nat.sub_add_cancel hk1] at h2
            rw [← h2, hp]
            rfl
          have c3 : ((s[k - 1].toNat : Int) == 36) = true := by rw [hpv]; rfl
          have HP := Lib.hid hp
          clear hp hpv
          go_wp2_with fail
          go_round
          case rel =>
            refine ⟨k + 1, N + 1, A + 1, by omega, by omega, by omega, by go_num, by go_num, by go_num, ?_⟩
            have h1 := hst.out.1
            have h2 := hst.out.2
            rw [if_pos HP.out] at h2
            have h3 := hv.out
            exact ⟨by omega, by omega⟩
          case measure => simp [intOf]; omega
        · have HP := Lib.hid hp
          by_cases hk1 : 0 < k
          · have hkz : (0 : Int) < (k : Int) := by omega
            have hpv : ¬ s[k - 1].toNat = 36 := by
              have h2 := ahead_succ s (k - 1) (by omega)
              rw [Nat.sub_add_cancel hk1] at h2
              intro e
              exact hp (by rw [h2]; exact UInt8.toNat_inj.1 (by rw [e]; rfl))
            have c3 : ((s[k - 1].toNat : Int) == 36) = false := beq_eq_false_iff_ne.2 (by omega)
            clear hp hpv
            go_wp2_with fail
            go_round
            case rel =>
              refine ⟨k + 1, N + 1, A, by omega, by omega, by omega, by go_num, by go_num, rfl, ?_⟩
              have h1 := hst.out.1
              have h2 := hst.out.2
              rw [if_neg HP.out] at h2
              have h3 := hv.out
              exact ⟨by omega, by omega⟩
            case measure => simp [intOf]; omega
          · obtain rfl : k = 0 := by omega
            clear hp
            go_wp2_with fail
            go_round
            case rel =>
              refine ⟨0 + 1, N + 1, A, by omega, by omega, by omega, by go_num, by go_num, rfl, ?_⟩
              have h1 := hst.out.1
              have h2 := hst.out.2
              rw [if_neg HP.out] at h2
              have h3 := hv.out
              exact ⟨by omega, by omega⟩
            case measure => simp [intOf]; omega
      · have hst := Lib.hid (hmiss.out k hlt hh)
        by_cases h36 : s[k].toNat = 36
        · have h123 : ¬ s[k + 1].toNat = 123 := fun x => hh ⟨h36, x⟩
          have c1 : ((s[k].toNat : Int) == 36) = true := by rw [h36]; rfl
          have c2 : ((s[k + 1].toNat : Int) == 123) = false := beq_eq_false_iff_ne.2 (by omega)
          clear hh h36 h123
          go_wp2_with fail
          go_round
          case rel =>
            refine ⟨k + 1, N, A, by omega, by omega, by omega, by go_num, rfl, rfl, ?_⟩
            have h1 := hst.out.1
            have h2 := hst.out.2
            have h3 := hv.out
            exact ⟨by omega, by omega⟩
          case measure => simp [intOf]; omega
        · have c1 : ((s[k].toNat : Int) == 36) = false := beq_eq_false_iff_ne.2 (by omega)
          clear hh h36
          go_wp2_with fail
          go_round
          case rel =>
            refine ⟨k + 1, N, A, by omega, by omega, by omega, by go_num, rfl, rfl, ?_⟩
            have h1 := hst.out.1
            have h2 := hst.out.2
            have h3 := hv.out
            exact ⟨by omega, by omega⟩
          case measure => simp [intOf]; omega
    · have hltz : ¬ (k : Int) + 1 < (s.size : Int) := by omega
      have h1 := hlast.out k (by omega) (ahead s.data.toList k)
      have h3 := hv.out
      obtain rfl : NB = N := by omega
      obtain rfl : NA = A := by omega
      clear h1 h3 hv hhit hmiss hlast
      go_wp2_with fail
      go_ret2
      exact ⟨rfl, rfl⟩

theorem escapes_long (s : ByteArray) (w : World) (f : Fx w) (hs : s.size ≤ maxLen) (h : 5000 < s.size) :
    Calls Tryd.prog 7 #[.string s] w fun e w' => e = .returned (.bool true) ∧ Q w w' := by
  have F := Lib.hid f; clear f
  unfold maxLen at hs
  have z1 : (5000 : Int) < (s.size : Int) := by omega
  clear h
  go_enter Tryd.func7, Tryd.ntmps7
  go_wp2_with fail
  refine (awake_true _ F.out).mono ?_; rintro e w1 ⟨rfl, q1⟩
  go_wp2_with fail
  go_ret
  exact ⟨rfl, q1⟩
set_option maxHeartbeats 2000000 in
theorem escapes_short (s : ByteArray) (w : World) (f : Fx w) (hs : s.size ≤ 5000) :
    Calls Tryd.prog 7 #[.string s] w fun e w' => e = .returned (.bool true) ∧ Q w w' := by
  have F := Lib.hid f; clear f
  have z1 : ¬ (5000 : Int) < (s.size : Int) := by omega
  have hlen : s.data.toList.length = s.size := by simp
  have hel := utf.escL_length s.data.toList
  have hbl := utf.begins_le s.data.toList
  have hbe := utf.begins_esc s.data.toList
  have hae := utf.after_esc 0 s.data.toList
  have cO : Hid (∀ w, ∃ A : Int, Calls Tryd.prog 20 #[.string s] w fun e w' => e = .returned (.tuple #[.int .i64 (utf.begins s.data.toList), .int .i64 A]) ∧ w = w') := fun w => ⟨_, opens_any s w (by omega)⟩
  have cE : Hid (∀ w, Fx w → Calls Tryd.prog 14 #[.string s] w fun e w' => e = .returned (.string ⟨(utf.escL s.data.toList).toArray⟩) ∧ Q w w') := fun w f => escape_text s w f (by omega)
  obtain ⟨EB, hEB⟩ : ∃ EB : ByteArray, (⟨(utf.escL s.data.toList).toArray⟩ : ByteArray) = EB := ⟨_, rfl⟩
  have hd : EB.data.toList = utf.escL s.data.toList := by rw [← hEB]
  have hsz : EB.size = (utf.escL s.data.toList).length := by rw [← hEB]; simp [ByteArray.size]
  have cP : Hid (∀ w, Calls Tryd.prog 20 #[.string EB] w fun e w' => e = .returned (.tuple #[.int .i64 (utf.begins s.data.toList), .int .i64 (utf.begins s.data.toList)]) ∧ w = w') := fun w => by
    have h := opens_any EB w (by omega)
    rw [hd, hbe, hae] at h
    exact h
  rw [hEB] at cE
  have b0 : (EB.size : Int) = (s.size : Int) + (utf.begins s.data.toList : Int) := by omega
  have b1 : utf.begins s.data.toList ≤ 5000 := by omega
  clear hEB hd hsz hel hbl hbe hae hlen
  generalize utf.begins s.data.toList = N at *
  go_enter Tryd.func7, Tryd.ntmps7
  go_wp2_with fail
  obtain ⟨A0, cO0⟩ := cO.out w
  refine cO0.mono ?_; rintro e w' ⟨rfl, rfl⟩
  clear cO0
  go_wp2_with fail
  refine (cE.out _ F.out).mono ?_; rintro e w1 ⟨rfl, q1⟩
  have F1 := Lib.hid (Q.fx q1 F.out)
  go_wp2_with fail
  refine (cP.out _).mono ?_; rintro e w' ⟨rfl, rfl⟩
  go_wp2_with fail
  refine (cE.out _ F1.out).mono ?_; rintro e w2 ⟨rfl, q2⟩
  have F2 := Lib.hid (Q.fx q2 F1.out)
  go_wp2_with fail
  refine (awake_true _ F2.out).mono ?_; rintro e w3 ⟨rfl, q3⟩
  go_wp2_with fail
  go_ret
  exact ⟨rfl, (q1.trans q2).trans q3⟩
theorem escapes_any (s : ByteArray) (w : World) (hs : s.size ≤ maxLen) (f : Fx w) :
    Calls Tryd.prog 7 #[.string s] w fun e w' => e = .returned (.bool true) ∧ Q w w' := by
  by_cases h : 5000 < s.size
  · exact escapes_long s w f hs h
  · exact escapes_short s w f (by omega)

end Go.Proofs.YtnhnondljackmaaDoor.lit
