/- checkString, checkKeys, hasItsFields and checkNode; hasItsFields, and checkNode. -/
import Derived.Test.YtjmchjphdfbhiaaGreatDoorVst
import Derived.Test.YtjmchjphdfbhiaaGreatDoorBas
namespace Go.Proofs.YtjmchjphdfbhiaaGreatDoor.val
open Go.RowKit
open Go.Proofs.YtjmchjphdfbhiaaGreatDoor.lit (Fx okL)
theorem Q.fx {w w' : World} (q : Q w w') (f : Fx w) : Fx w' := lit.Q.fx q f
set_option maxRecDepth 100000 in
theorem checkString_any (s : ByteArray) (w : World) (f : Fx w) :
    Calls Tryz.prog 70 #[.string s] w fun e w' => e = .returned (.int .i64 (textE s)) ∧ Q w w' := by
  unfold textE
  by_cases h : 4096 < s.size
  · rw [if_pos h]
    have hz : (4096 : Int) < (s.size : Int) := by omega
    clear h
    go_enter Tryz.func70, Tryz.ntmps70
    go_wp2_with fail
    go_ret
    exact ⟨rfl, Q.refl _⟩
  · rw [if_neg h]
    have hz : decide ((4096 : Int) < (s.size : Int)) = false := decide_eq_false (by omega)
    have cV := Lib.hid (lit.valid_any s w f (by omega))
    have e : okL s.data.toList = Lib.validD s.data.toList := by
      unfold okL
      rw [decide_eq_true (show s.data.toList.length ≤ 4096 by simp; omega), Bool.true_and]
    rw [e] at cV
    clear e h f
    cases hV : Lib.validD s.data.toList with
    | true =>
      rw [hV] at cV
      rw [if_neg (by decide)]
      clear hV
      go_enter Tryz.func70, Tryz.ntmps70
      go_wp2_with fail
      refine cV.out.mono ?_; rintro e w1 ⟨rfl, q1⟩
      go_wp2_with fail
      go_ret
      exact ⟨rfl, q1⟩
    | false =>
      rw [hV] at cV
      rw [if_pos rfl]
      clear hV
      go_enter Tryz.func70, Tryz.ntmps70
      go_wp2_with fail
      refine cV.out.mono ?_; rintro e w1 ⟨rfl, q1⟩
      go_wp2_with fail
      go_ret
      exact ⟨rfl, q1⟩
/-! ### the order of strings as the model has it -/
theorem less_iff : ∀ a b : List UInt8, Op.bytesLess a b = true ↔ Lib.compareBytes a b = -1
  | [], [] => by simp [Op.bytesLess, Lib.compareBytes]
  | [], _ :: _ => by simp [Op.bytesLess, Lib.compareBytes]
  | _ :: _, [] => by simp [Op.bytesLess, Lib.compareBytes]
  | a :: s, b :: t => by
    have ih := less_iff s t
    show (decide (a < b) || (a == b && Op.bytesLess s t)) = true ↔ (if a < b then -1 else if b < a then 1 else Lib.compareBytes s t) = -1
    rcases u8_cases a b with h | ⟨h1, h2, h3⟩ | ⟨h1, h2⟩
    · simp [h]
    · subst h3
      simp [h1, ih]
    · have : ¬ a = b := by
        rintro rfl
        exact h1 h2
      simp [h1, h2, this]
theorem less_cT (a b : ByteArray) : Op.bytesLess a.data.toList b.data.toList = decide (cT a b < 0) := by
  have h := less_iff a.data.toList b.data.toList
  have hl := tot_cT.low a b
  by_cases g : cT a b < 0
  · rw [decide_eq_true g]
    exact h.2 (show cT a b = -1 by omega)
  · rw [decide_eq_false g]
    cases hb : Op.bytesLess a.data.toList b.data.toList with
    | false => rfl
    | true =>
      have : cT a b = -1 := h.1 hb
      omega
theorem less_cT' (a b : ByteArray) : Op.bytesLess a.toList b.toList = decide (cT a b < 0) := by
  rw [Lib.toList_data, Lib.toList_data]
  exact less_cT a b
theorem same_cT (a b : ByteArray) : (a.toList == b.toList) = decide (cT a b = 0) := by
  rw [Lib.toList_data, Lib.toList_data, decide_eq_decide.2 (tot_cT.zero a b)]
  by_cases h : a = b
  · subst h
    simp
  · rw [decide_eq_false h, beq_eq_false_iff_ne]
    exact fun e => h (bax e)
theorem leq_cT (a b : ByteArray) : (Op.bytesLess a.toList b.toList || a.toList == b.toList) = !decide (cT b a < 0) := by
  rw [less_cT', same_cT, tot_cT.anti a b]
  have := tot_cT.low a b
  by_cases h1 : cT a b < 0
  · rw [decide_eq_true h1, decide_eq_false (show ¬ -cT a b < 0 by omega)]
    rfl
  · by_cases h2 : cT a b = 0
    · rw [decide_eq_false h1, decide_eq_true h2, decide_eq_false (show ¬ -cT a b < 0 by omega)]
      rfl
    · rw [decide_eq_false h1, decide_eq_false h2, decide_eq_true (show -cT a b < 0 by omega)]
      rfl
set_option maxRecDepth 100000 in
theorem checkKeys_any (kv : Value) (ks : List ByteArray) (w : World) (f : Fx w) (hk : Ks kv ks w) (hl : ks.length ≤ maxLen) :
    Calls Tryz.prog 71 #[kv] w fun e w' => e = .returned (.int .i64 (keysE none ks)) ∧ Q w w' := by
  obtain ⟨A, c, rfl, hc, hA⟩ := hk
  obtain ⟨n, hn⟩ : ∃ n, ks.length = n := ⟨_, rfl⟩
  obtain ⟨ANS, hANS⟩ : ∃ A, keysE none ks = A := ⟨_, rfl⟩
  rw [hANS]
  have H0 : Hid (keysE (if 0 = 0 then none else ks[0 - 1]?) (ks.drop 0) = ANS) := by
    show _ = _
    rw [if_pos rfl, List.drop_zero, hANS]
  have hA := Lib.hid hA
  go_enter Tryz.func71, Tryz.ntmps71
  rw [hn]
  go_wp2_with fail
  have hnm : n ≤ maxLen := by omega
  have hlen := Lib.hid hn
  have cS := Lib.hid (fun s w' (q : Q w w') => checkString_any s w' (q.fx f))
  clear hl hn hANS hc f
  go_loopw [8] (fun i wr => ∃ k : Nat, k ≤ n ∧ i = .int .i64 k ∧ Hid (Q w wr) ∧ Hid (keysE (if k = 0 then none else ks[k - 1]?) (ks.drop k) = ANS)) (fun i _ => n - (intOf i).toNat)
  case atStart => exact ⟨0, Nat.zero_le _, rfl, Q.refl _, H0⟩
  case round =>
    obtain ⟨k, hk, rfl, hq, hv⟩ := hrel
    by_cases hlt : k < n
    · have hltl : k < ks.length := by have : ks.length = n := hlen.out; omega
      have hne : ks ≠ [] := by rintro rfl; simp at hltl
      obtain ⟨b, o, rfl, kl⟩ := hA.out hne
      have x0 := cell_stays hq.out (KL.at ks b o w kl k hltl)
      have hv2 := hv.out
      rw [List.drop_eq_getElem_cons hltl, keysE_cons] at hv2
      have cS2 := Lib.hid (cS.out ks[k] wr hq.out)
      obtain ⟨key, hkey⟩ : ∃ key, ks[k] = key := ⟨_, rfl⟩
      have hkb : (k : Int) < (n : Int) := by omega
      have hkm : (k : Int) < 9223372036854775807 := by unfold maxLen at hnm; omega
      rw [hkey] at x0 hv2 cS2
      have HV : Hid (textE key = 0 → fits (if k = 0 then none else ks[k - 1]?) key = true → keysE (if k + 1 = 0 then none else ks[k + 1 - 1]?) (ks.drop (k + 1)) = ANS) := by
        intro h1 h2
        rw [if_pos h1, if_pos h2] at hv2
        rw [if_neg (by omega), Nat.add_sub_cancel, List.getElem?_eq_getElem hltl, hkey]
        exact hv2
      have hlt' := Lib.hid hlt
      obtain ⟨E, hE⟩ : ∃ E, textE key = E := ⟨_, rfl⟩
      rw [hE] at hv2 cS2 HV
      by_cases hE0 : E = 0
      · subst hE0
        rw [if_pos rfl] at hv2
        rcases Nat.eq_zero_or_pos k with hk0 | hk0
        · have HV2 := Lib.hid (HV.out rfl (by rw [if_pos hk0]; rfl))
          have hkz : decide (0 < k) = false := decide_eq_false (by omega)
          clear hk0
          clear hkey hltl hlt kl hne hA H0 hk hnm hE hv2 HV hv cS
          go_wp2_with fail
          refine cS2.out.mono ?_; rintro e w1 ⟨rfl, q1⟩
          have Q1 := Lib.hid (hq.out.trans q1)
          clear x0 q1
          go_wp2_with fail
          go_round
          case rel => exact ⟨k + 1, hlt'.out, by go_num, Q1, HV2⟩
          case measure => have := hlt'.out; simp [intOf]; omega
        · obtain ⟨m, hm⟩ : ∃ m, k = m + 1 := ⟨k - 1, by omega⟩
          have hkm1 : (k : Int) - 1 = (m : Int) := by omega
          have hkp : decide (0 < k) = true := decide_eq_true (by omega)
          have hml : m < ks.length := by omega
          have hmn : (m : Int) < (n : Int) := by omega
          have hpk : ks[k - 1]? = some ks[m] := by rw [hm, Nat.add_sub_cancel, List.getElem?_eq_getElem hml]
          have hkn : ¬ k = 0 := by omega
          rw [if_neg hkn, hpk] at hv2 HV
          have klm := Lib.hid (KL.at ks b o w kl m hml)
          obtain ⟨prev, hprev⟩ : ∃ prev, ks[m] = prev := ⟨_, rfl⟩
          rw [hprev] at klm hv2 HV
          have hf : fits (some prev) key = !(Op.bytesLess key.toList prev.toList || key.toList == prev.toList) := by
            rw [leq_cT, Bool.not_not]
            rfl
          rw [hf] at hv2 HV
          have hmb : (m : Int) < 9223372036854775807 := by omega
          obtain ⟨R, hR⟩ : ∃ R, (Op.bytesLess key.toList prev.toList || key.toList == prev.toList) = R := ⟨_, rfl⟩
          rw [hR] at hv2 HV
          clear hkey hltl hlt kl hne hA H0 hk hnm hE hv cS hf hprev hml hm hpk hk0 hkn
          cases R with
          | false =>
            have HV2 := Lib.hid (HV.out rfl rfl)
            clear HV hv2
            go_wp2_with fail
            refine cS2.out.mono ?_; rintro e w1 ⟨rfl, q1⟩
            have Q1 := Lib.hid (hq.out.trans q1)
            have x1 := cell_stays Q1.out klm.out
            clear x0 q1
            go_wp2_with fail
            go_round
            case rel => exact ⟨k + 1, hlt'.out, by go_num, Q1, HV2⟩
            case measure => have := hlt'.out; simp [intOf]; omega
          | true =>
            rw [if_neg (by decide)] at hv2
            subst hv2
            clear HV
            go_wp2_with fail
            refine cS2.out.mono ?_; rintro e w1 ⟨rfl, q1⟩
            have Q1 := Lib.hid (hq.out.trans q1)
            have x1 := cell_stays Q1.out klm.out
            clear x0 q1
            go_wp2_with fail
            go_ret
            exact ⟨rfl, Q1.out⟩
      · rw [if_neg hE0] at hv2
        subst hv2
        have hE' : ((E != 0) = true) := by simpa using hE0
        clear hkey hltl hlt kl hne hA H0 hk hnm hE hE0 HV cS hv
        go_wp2_with fail
        refine cS2.out.mono ?_; rintro e w1 ⟨rfl, q1⟩
        have Q1 := Lib.hid (hq.out.trans q1)
        clear x0 q1
        go_wp2_with fail
        go_ret
        exact ⟨rfl, Q1.out⟩
    · obtain rfl : n = k := by omega
      have hv2 := hv.out
      rw [List.drop_of_length_le (by have : ks.length = n := hlen.out; omega)] at hv2
      have : ANS = 0 := hv2.symm
      subst this
      clear hv2 hv hA cS hlt
      go_wp2_with fail
      go_ret
      exact ⟨rfl, hq.out⟩

end Go.Proofs.YtjmchjphdfbhiaaGreatDoor.val

namespace Go.Proofs.YtjmchjphdfbhiaaGreatDoor.val
open Go.RowKit
open Go.Proofs.YtjmchjphdfbhiaaGreatDoor.lit (Fx okL)
theorem Q.box (w : World) (o : Obj) : Q w (w.alloc o) := (Below.refl _ w).alloc (Nat.le_refl _) o
theorem Q.drewN (w : World) (n : Nat) : Q w (w.drewN n) := ⟨rfl, rfl, rfl, by simp, fun _ _ => rfl⟩
theorem Q.boxed (w : World) (o : Obj) (n : Nat) : Q w ((w.alloc o).drewN n) := (Q.box w o).trans (Q.drewN _ _)

set_option maxRecDepth 100000 in
set_option maxHeartbeats 4000000 in
theorem fields_0 (n : Int) (s : ByteArray) (A3 A4 : Option Addr) (nl cl nk ck : Nat) (w : World) (b1 b2 b3 b4 b5 b6 : Bool) (h1 : (n == 0) = b1) (h2 : (s.toList == []) = b2) (h3 : ((nl : Int) == 0) = b3) (h4 : ((nk : Int) == 0) = b4) (h5 : (n == 1) = b5) (h6 : ((nk : Int) == (nl : Int)) = b6) :
    Calls Tryz.prog 68 #[.agg #[.int .i64 0, .int .i64 n, .string s, .slice A3 nl cl, .slice A4 nk ck]] w fun e w' => e = .returned (.bool (b1 && b2 && b3 && b4)) ∧ Q w w' := by
  have _u := And.intro h1 (And.intro h2 (And.intro h3 (And.intro h4 (And.intro h5 h6))))
  clear _u
  go_enter Tryz.func68, Tryz.ntmps68
  go_wp2_with fail
  go_quiet (fail)
  go_wp2_with fail
  all_goals
    go_ret
    refine ⟨?_, Q.boxed _ _ _⟩
    simp_all

set_option maxRecDepth 100000 in
set_option maxHeartbeats 4000000 in
theorem fields_1 (n : Int) (s : ByteArray) (A3 A4 : Option Addr) (nl cl nk ck : Nat) (w : World) (b1 b2 b3 b4 b5 b6 : Bool) (h1 : (n == 0) = b1) (h2 : (s.toList == []) = b2) (h3 : ((nl : Int) == 0) = b3) (h4 : ((nk : Int) == 0) = b4) (h5 : (n == 1) = b5) (h6 : ((nk : Int) == (nl : Int)) = b6) :
    Calls Tryz.prog 68 #[.agg #[.int .i64 1, .int .i64 n, .string s, .slice A3 nl cl, .slice A4 nk ck]] w fun e w' => e = .returned (.bool ((b1 || b5) && b2 && b3 && b4)) ∧ Q w w' := by
  have _u := And.intro h1 (And.intro h2 (And.intro h3 (And.intro h4 (And.intro h5 h6))))
  clear _u
  go_enter Tryz.func68, Tryz.ntmps68
  go_wp2_with fail
  go_quiet (fail)
  go_wp2_with fail
  all_goals
    go_ret
    refine ⟨?_, Q.boxed _ _ _⟩
    simp_all

set_option maxRecDepth 100000 in
set_option maxHeartbeats 4000000 in
theorem fields_2 (n : Int) (s : ByteArray) (A3 A4 : Option Addr) (nl cl nk ck : Nat) (w : World) (b1 b2 b3 b4 b5 b6 : Bool) (h1 : (n == 0) = b1) (h2 : (s.toList == []) = b2) (h3 : ((nl : Int) == 0) = b3) (h4 : ((nk : Int) == 0) = b4) (h5 : (n == 1) = b5) (h6 : ((nk : Int) == (nl : Int)) = b6) :
    Calls Tryz.prog 68 #[.agg #[.int .i64 2, .int .i64 n, .string s, .slice A3 nl cl, .slice A4 nk ck]] w fun e w' => e = .returned (.bool (b2 && b3 && b4)) ∧ Q w w' := by
  have _u := And.intro h1 (And.intro h2 (And.intro h3 (And.intro h4 (And.intro h5 h6))))
  clear _u
  go_enter Tryz.func68, Tryz.ntmps68
  go_wp2_with fail
  go_quiet (fail)
  go_wp2_with fail
  all_goals
    go_ret
    refine ⟨?_, Q.boxed _ _ _⟩
    simp_all

set_option maxRecDepth 100000 in
set_option maxHeartbeats 4000000 in
theorem fields_3 (n : Int) (s : ByteArray) (A3 A4 : Option Addr) (nl cl nk ck : Nat) (w : World) (b1 b2 b3 b4 b5 b6 : Bool) (h1 : (n == 0) = b1) (h2 : (s.toList == []) = b2) (h3 : ((nl : Int) == 0) = b3) (h4 : ((nk : Int) == 0) = b4) (h5 : (n == 1) = b5) (h6 : ((nk : Int) == (nl : Int)) = b6) :
    Calls Tryz.prog 68 #[.agg #[.int .i64 3, .int .i64 n, .string s, .slice A3 nl cl, .slice A4 nk ck]] w fun e w' => e = .returned (.bool (b1 && b3 && b4)) ∧ Q w w' := by
  have _u := And.intro h1 (And.intro h2 (And.intro h3 (And.intro h4 (And.intro h5 h6))))
  clear _u
  go_enter Tryz.func68, Tryz.ntmps68
  go_wp2_with fail
  go_quiet (fail)
  go_wp2_with fail
  all_goals
    go_ret
    refine ⟨?_, Q.boxed _ _ _⟩
    simp_all

set_option maxRecDepth 100000 in
set_option maxHeartbeats 4000000 in
theorem fields_4 (n : Int) (s : ByteArray) (A3 A4 : Option Addr) (nl cl nk ck : Nat) (w : World) (b1 b2 b3 b4 b5 b6 : Bool) (h1 : (n == 0) = b1) (h2 : (s.toList == []) = b2) (h3 : ((nl : Int) == 0) = b3) (h4 : ((nk : Int) == 0) = b4) (h5 : (n == 1) = b5) (h6 : ((nk : Int) == (nl : Int)) = b6) :
    Calls Tryz.prog 68 #[.agg #[.int .i64 4, .int .i64 n, .string s, .slice A3 nl cl, .slice A4 nk ck]] w fun e w' => e = .returned (.bool (b1 && b2 && b4)) ∧ Q w w' := by
  have _u := And.intro h1 (And.intro h2 (And.intro h3 (And.intro h4 (And.intro h5 h6))))
  clear _u
  go_enter Tryz.func68, Tryz.ntmps68
  go_wp2_with fail
  go_quiet (fail)
  go_wp2_with fail
  all_goals
    go_ret
    refine ⟨?_, Q.boxed _ _ _⟩
    simp_all

set_option maxRecDepth 100000 in
set_option maxHeartbeats 4000000 in
theorem fields_5 (n : Int) (s : ByteArray) (A3 A4 : Option Addr) (nl cl nk ck : Nat) (w : World) (b1 b2 b3 b4 b5 b6 : Bool) (h1 : (n == 0) = b1) (h2 : (s.toList == []) = b2) (h3 : ((nl : Int) == 0) = b3) (h4 : ((nk : Int) == 0) = b4) (h5 : (n == 1) = b5) (h6 : ((nk : Int) == (nl : Int)) = b6) :
    Calls Tryz.prog 68 #[.agg #[.int .i64 5, .int .i64 n, .string s, .slice A3 nl cl, .slice A4 nk ck]] w fun e w' => e = .returned (.bool (b1 && b2 && b6)) ∧ Q w w' := by
  have _u := And.intro h1 (And.intro h2 (And.intro h3 (And.intro h4 (And.intro h5 h6))))
  clear _u
  go_enter Tryz.func68, Tryz.ntmps68
  go_wp2_with fail
  go_quiet (fail)
  go_wp2_with fail
  all_goals
    go_ret
    refine ⟨?_, Q.boxed _ _ _⟩
    simp_all

set_option maxRecDepth 100000 in
set_option maxHeartbeats 4000000 in
theorem fields_6 (n : Int) (s : ByteArray) (A3 A4 : Option Addr) (nl cl nk ck : Nat) (w : World) (b1 b2 b3 b4 b5 b6 : Bool) (h1 : (n == 0) = b1) (h2 : (s.toList == []) = b2) (h3 : ((nl : Int) == 0) = b3) (h4 : ((nk : Int) == 0) = b4) (h5 : (n == 1) = b5) (h6 : ((nk : Int) == (nl : Int)) = b6) :
    Calls Tryz.prog 68 #[.agg #[.int .i64 6, .int .i64 n, .string s, .slice A3 nl cl, .slice A4 nk ck]] w fun e w' => e = .returned (.bool (b1 && b2 && b3 && b4)) ∧ Q w w' := by
  have _u := And.intro h1 (And.intro h2 (And.intro h3 (And.intro h4 (And.intro h5 h6))))
  clear _u
  go_enter Tryz.func68, Tryz.ntmps68
  go_wp2_with fail
  go_quiet (fail)
  go_wp2_with fail
  all_goals
    go_ret
    refine ⟨?_, Q.boxed _ _ _⟩
    simp_all

set_option maxRecDepth 100000 in
set_option maxHeartbeats 4000000 in
theorem fields_none (k n : Int) (s : ByteArray) (A3 A4 : Option Addr) (nl cl nk ck : Nat) (w : World) (b1 b2 b3 b4 b5 b6 : Bool) (h1 : (n == 0) = b1) (h2 : (s.toList == []) = b2) (h3 : ((nl : Int) == 0) = b3) (h4 : ((nk : Int) == 0) = b4) (h5 : (n == 1) = b5) (h6 : ((nk : Int) == (nl : Int)) = b6) (k0 : (k == 0) = false) (k1 : (k == 1) = false) (k2 : (k == 2) = false) (k3 : (k == 3) = false) (k4 : (k == 4) = false) (k5 : (k == 5) = false) (k6 : (k == 6) = false) :
    Calls Tryz.prog 68 #[.agg #[.int .i64 k, .int .i64 n, .string s, .slice A3 nl cl, .slice A4 nk ck]] w fun e w' => e = .returned (.bool (false)) ∧ Q w w' := by
  have _u := And.intro h1 (And.intro h2 (And.intro h3 (And.intro h4 (And.intro h5 h6))))
  clear _u
  go_enter Tryz.func68, Tryz.ntmps68
  go_wp2_with fail
  go_quiet (fail)
  go_wp2_with fail
  all_goals
    go_ret
    refine ⟨?_, Q.boxed _ _ _⟩
    simp_all

theorem size_nil (s : ByteArray) : (s.toList == []) = decide (s.size = 0) := by
  rw [Lib.toList_data]
  cases s with | mk a =>
  by_cases h : a.toList = []
  · have : a.size = 0 := by simpa using congrArg List.length h
    rw [h]
    exact (decide_eq_true (show (ByteArray.mk a).size = 0 from this)).symm
  · have : ¬ (ByteArray.mk a).size = 0 := fun e => h (List.eq_nil_of_length_eq_zero (show a.toList.length = 0 by rw [Array.length_toList]; exact e))
    rw [decide_eq_false this, beq_eq_false_iff_ne]
    exact h
theorem int_beq (a b : Int) : (a == b) = decide (a = b) := by
  by_cases h : a = b
  · rw [decide_eq_true h, beq_iff_eq]
    exact h
  · rw [decide_eq_false h, beq_eq_false_iff_ne]
    exact h
theorem fields_any (v : V) (c3 c4 : Value) (w w0 : World) (h3 : Is c3 v.items w0) (h4 : Ks c4 v.keys w0) :
    Calls Tryz.prog 68 #[.agg #[.int .i64 v.kind, .int .i64 v.num, .string v.str, c3, c4]] w fun e w' => e = .returned (.bool (shB v.kind v.num v.str v.items v.keys)) ∧ Q w w' := by
  obtain ⟨A3, k3, rfl, -⟩ := h3.shape
  obtain ⟨A4, k4, rfl, -⟩ := h4.shape
  obtain ⟨k, n, s, l, ks⟩ := v
  show Calls _ _ #[.agg #[.int .i64 k, .int .i64 n, .string s, .slice A3 l.length k3, .slice A4 ks.length k4]] _ _
  have e3 : ((l.length : Int) == 0) = decide (l.length = 0) := by rw [int_beq]; exact decide_eq_decide.2 (by omega)
  have e4 : ((ks.length : Int) == 0) = decide (ks.length = 0) := by rw [int_beq]; exact decide_eq_decide.2 (by omega)
  have e6 : ((ks.length : Int) == (l.length : Int)) = decide (ks.length = l.length) := by rw [int_beq]; exact decide_eq_decide.2 (by omega)
  have e : ∀ b, b = shB k n s l ks → (∀ e w', (e = Ending.returned (.bool b) ∧ Q w w') → (e = Ending.returned (.bool (shB (V.mk k n s l ks).kind (V.mk k n s l ks).num (V.mk k n s l ks).str (V.mk k n s l ks).items (V.mk k n s l ks).keys)) ∧ Q w w')) := by
    rintro b rfl e w' h
    exact h
  by_cases g0 : k = 0
  · subst g0
    exact (fields_0 n s A3 A4 _ k3 _ k4 w _ _ _ _ _ _ (int_beq _ _) (size_nil s) e3 e4 (int_beq _ _) e6).mono (e _ (by simp [shB, Bool.and_assoc]))
  by_cases g1 : k = 1
  · subst g1
    exact (fields_1 n s A3 A4 _ k3 _ k4 w _ _ _ _ _ _ (int_beq _ _) (size_nil s) e3 e4 (int_beq _ _) e6).mono (e _ (by simp [shB, Bool.and_assoc]))
  by_cases g2 : k = 2
  · subst g2
    exact (fields_2 n s A3 A4 _ k3 _ k4 w _ _ _ _ _ _ (int_beq _ _) (size_nil s) e3 e4 (int_beq _ _) e6).mono (e _ (by simp [shB, Bool.and_assoc]))
  by_cases g3 : k = 3
  · subst g3
    exact (fields_3 n s A3 A4 _ k3 _ k4 w _ _ _ _ _ _ (int_beq _ _) (size_nil s) e3 e4 (int_beq _ _) e6).mono (e _ (by simp [shB, Bool.and_assoc]))
  by_cases g4 : k = 4
  · subst g4
    exact (fields_4 n s A3 A4 _ k3 _ k4 w _ _ _ _ _ _ (int_beq _ _) (size_nil s) e3 e4 (int_beq _ _) e6).mono (e _ (by simp [shB, Bool.and_assoc]))
  by_cases g5 : k = 5
  · subst g5
    exact (fields_5 n s A3 A4 _ k3 _ k4 w _ _ _ _ _ _ (int_beq _ _) (size_nil s) e3 e4 (int_beq _ _) e6).mono (e _ (by simp [shB, Bool.and_assoc]))
  by_cases g6 : k = 6
  · subst g6
    exact (fields_6 n s A3 A4 _ k3 _ k4 w _ _ _ _ _ _ (int_beq _ _) (size_nil s) e3 e4 (int_beq _ _) e6).mono (e _ (by simp [shB, Bool.and_assoc]))
  refine (fields_none k n s A3 A4 _ k3 _ k4 w _ _ _ _ _ _ (int_beq _ _) (size_nil s) e3 e4 (int_beq _ _) e6 (by simpa using g0) (by simpa using g1) (by simpa using g2) (by simpa using g3) (by simpa using g4) (by simpa using g5) (by simpa using g6)).mono (e _ ?_)
  have : ¬ (0 ≤ k ∧ k ≤ 6) := by omega
  unfold shB
  rw [← Bool.decide_and, decide_eq_false this]
  simp
/-- The error of a node, by its program. -/
theorem nodeE_cases (v : V) : nodeE v.kind v.num v.str v.items v.keys = if shB v.kind v.num v.str v.items v.keys = false then 1 else if v.kind = 2 ∧ ¬ (-9007199254740992 ≤ v.num ∧ v.num ≤ 9007199254740992) then 5 else if v.kind = 3 then textE v.str else keysE none v.keys := by
  obtain ⟨k, n, s, l, ks⟩ := v
  show nodeE k n s l ks = if shB k n s l ks = false then 1 else if k = 2 ∧ ¬ (-9007199254740992 ≤ n ∧ n ≤ 9007199254740992) then 5 else if k = 3 then textE s else keysE none ks
  unfold nodeE
  cases h : shB k n s l ks with
  | false => rw [if_pos rfl, if_pos rfl]
  | true =>
    rw [if_neg (show ¬ true = false by decide), if_neg (show ¬ true = false by decide)]
    obtain ⟨h1, _, _, _, h5, _⟩ := shB_iff h
    by_cases g : k = 2 ∧ ¬ (-9007199254740992 ≤ n ∧ n ≤ 9007199254740992)
    · rw [if_pos g, if_pos g]
    · rw [if_neg g, if_neg g]
      by_cases g3 : k = 3
      · rw [if_pos g3]
        have : ks = [] := h1.2.2 (by omega)
        rw [this]
        show (if textE s = 0 then 0 else textE s) = textE s
        split <;> omega
      · rw [if_neg g3, h5 g3]
        have : textE ⟨#[]⟩ = 0 := by decide +kernel
        rw [if_pos this]

end Go.Proofs.YtjmchjphdfbhiaaGreatDoor.val
