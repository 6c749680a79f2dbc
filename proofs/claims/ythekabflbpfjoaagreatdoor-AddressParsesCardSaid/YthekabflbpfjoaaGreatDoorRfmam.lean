/- The reference's Steps and Format. -/
import Derived.Test.YthekabflbpfjoaaGreatDoorRresm
import Derived.Test.YthekabflbpfjoaaGreatDoorAvdm
import Derived.Deep.RegionHeld3
namespace Go.Proofs.YthekabflbpfjoaaGreatDoor.adr
open Go.RowKit
open Go.Proofs.YthekabflbpfjoaaGreatDoor

set_option maxHeartbeats 8000000 in
theorem refSteps_any (A : Option Addr) (n c : Nat) (ms : List St) (w : World) (hn : n = ms.length) (hI : In A ms w) (hs : chkS ms = 0) (h16 : ms.length ≤ 16) :
    Calls Tryz.prog 33 #[.slice A n c] w fun e w' => e = .returned (.string ⟨(tSs ms).toArray⟩) ∧ Q w w' := by
  have cK : Hid (∀ (k : K) w', Kb k → Calls Tryz.prog 14 #[.agg #[.int .i64 k.kind, .int .i64 k.num, .string k.str]] w' fun e w'' => e = .returned (.string ⟨(fK k).toArray⟩) ∧ Q w' w'') := Lib.hid (fun k w' h => refFormatKey_any k w' h)
  have HN := Lib.hid hn
  have HI := Lib.hid hI
  have HS := Lib.hid hs
  have hn16 : Hid (n ≤ 16) := Lib.hid (by omega)
  obtain ⟨ANS, hA⟩ : ∃ z, tSs ms = z := ⟨_, rfl⟩
  rw [hA]
  have HA := Lib.hid hA
  have HL : Hid (∀ k : Nat, (tSs (ms.take k)).length ≤ 401152) := Lib.hid (fun k => by
    have h1 := tSs_len (ms.take k) (chkS_take ms k hs)
    rw [List.length_take] at h1
    omega)
  clear hn hI hs h16 hA
  go_enter Tryz.func33, Tryz.ntmps33
  go_wp2_with fail
  go_loopw [3, 4] (fun p i wr => ∃ (k : Nat) (P : ByteArray), k ≤ n ∧ i = .int .i64 k ∧ p = .string P ∧ P.size ≤ 401152 ∧ Hid (Q w wr) ∧ Hid (P.data.toList = tSs (ms.take k))) (fun _ i _ => n - (intOf i).toNat)
  case atStart => exact ⟨0, ⟨#[]⟩, Nat.zero_le _, rfl, rfl, by decide, Lib.hid (Q.refl _), Lib.hid rfl⟩
  case round =>
    obtain ⟨k, P, hk, rfl, rfl, hP, QQ, HP⟩ := hrel
    by_cases hlt : k < n
    · have hlt2 : k < ms.length := by rw [← HN.out]; exact hlt
      obtain ⟨b, o, rfl, hbb, hcc⟩ := HI.out (by intro e; rw [e] at hlt2; cases hlt2)
      have hck := chkS_mem ms HS.out _ (List.getElem_mem hlt2)
      obtain ⟨hid, hok⟩ := chkN_ok hck
      have hns := id_size hid
      have hkb := okK_Kb hok
      have hfl := fK_len ms[k].key
      have sees : Hid (∀ w', Hid (Q w w') → Hid (Q w w') ∧ w'.cell? ⟨b, o + k * 4, none⟩ = some (.string ms[k].name) ∧ w'.cell? ⟨b, o + k * 4 + 1, none⟩ = some (.int .i64 ms[k].key.kind) ∧ w'.cell? ⟨b, o + k * 4 + 2, none⟩ = some (.int .i64 ms[k].key.num) ∧ w'.cell? ⟨b, o + k * 4 + 3, none⟩ = some (.string ms[k].key.str)) := Lib.hid (fun w' q => by
        obtain ⟨b', o', e', _, hcc'⟩ := (HI.out.stays q.out) (by intro e; rw [e] at hlt2; cases hlt2)
        simp only [Option.some.injEq, Addr.mk.injEq, and_true] at e'
        obtain ⟨rfl, rfl⟩ := e'
        exact ⟨q, hcc' k hlt2⟩)
      have hsn : tSs (ms.take (k + 1)) = tSs (ms.take k) ++ (tS ms[k] ++ [46]) := by
        rw [List.take_succ_eq_append_getElem hlt2, tSs_snoc]
      have htS : tS ms[k] = modB ++ (ms[k].name.data.toList ++ fK ms[k].key) := rfl
      have len1 := HL.out (k + 1)
      have cK1 : Hid (∀ w', Hid (Q w w') → Calls Tryz.prog 14 #[.agg #[.int .i64 ms[k].key.kind, .int .i64 ms[k].key.num, .string ms[k].key.str]] w' fun e w'' => e = .returned (.string ⟨(fK ms[k].key).toArray⟩) ∧ Hid (Q w w'')) := Lib.hid (fun w' q => (cK.out ms[k].key w' hkb).mono fun _ _ ⟨he, hq⟩ => ⟨he, Lib.hid (q.out.trans hq)⟩)
      rw [htS, ← HP.out] at hsn
      clear hbb hcc hck hid hok hkb cK HL htS HP
      generalize ms[k].name = sn at *
      generalize ms[k].key = sk at *
      obtain ⟨skd, sm, st⟩ := sk
      simp only at sees cK1
      obtain ⟨FK, hFK⟩ : ∃ z : ByteArray, (⟨(fK ⟨skd, sm, st⟩).toArray⟩ : ByteArray) = z := ⟨_, rfl⟩
      have hFl : FK.data.toList = fK ⟨skd, sm, st⟩ := by rw [← hFK]
      rw [hFK] at cK1
      rw [← hFl] at hsn hfl
      have hFs : FK.size ≤ 25000 := by rw [Lib.size_eq]; exact hfl
      clear hFK hFl hfl
      obtain ⟨P1, hP1⟩ : ∃ z, (((P ++ ⟨#[109, 111, 100, 117, 108, 101, 46]⟩) ++ sn) ++ FK) ++ ⟨#[46]⟩ = z := ⟨_, rfl⟩
      have e1 : Hid (P1.data.toList = tSs (ms.take (k + 1))) := Lib.hid (by rw [hsn, ← hP1]; simp [modB, List.append_assoc])
      have sz1 : P1.size ≤ 401152 := by rw [Lib.size_eq, e1.out]; exact len1
      clear hsn len1
      have f1 : ¬ 9223372036854775807 < P.size + 7 := by omega
      have f2 : ¬ 9223372036854775807 < P.size + 7 + sn.size := by omega
      have f3 : ¬ 9223372036854775807 < P.size + 7 + sn.size + FK.size := by omega
      have f4 : ¬ 9223372036854775807 < P.size + 7 + sn.size + FK.size + 1 := by omega
      have h0 : Hid (Q w wr.drew) := Lib.hid (QQ.out.trans (Q.drewN _ 1))
      have hlt' : (k : Int) < (n : Int) := by omega
      have hk0 : (0 : Int) ≤ (k : Int) := Int.natCast_nonneg _
      have hk16 : (k : Int) ≤ 16 := by have := hn16.out; omega
      go_wp2_with fail
      go_region_held3 (fun w' => Hid (Q w w') ∧ w'.cell? ⟨b, o + k * 4, none⟩ = some (.string sn) ∧ w'.cell? ⟨b, o + k * 4 + 1, none⟩ = some (.int .i64 skd) ∧ w'.cell? ⟨b, o + k * 4 + 2, none⟩ = some (.int .i64 sm) ∧ w'.cell? ⟨b, o + k * 4 + 3, none⟩ = some (.string st))
        (exact sees.out _ (by assumption))
        (first | (go_at_call 14; refine (cK1.out _ (And.left ‹_›)).mono ?_; rintro e v1 ⟨rfl, h1⟩))
      clear cK1 sees
      go_wp2_with fail
      go_roundw
      case rel => exact ⟨k + 1, P1, hlt, by go_num, rfl, sz1, h1, e1⟩
      case measure => simp [intOf]; omega
    · obtain rfl : n = k := by omega
      have e : P = ⟨ANS.toArray⟩ := ba_ext (by rw [HP.out, ba_list, HN.out, List.take_length]; exact HA.out)
      subst e
      clear HP hP
      go_wp2_with fail
      go_ret
      exact ⟨rfl, QQ.out⟩

set_option maxRecDepth 100000 in
set_option maxHeartbeats 8000000 in
theorem refFormat_any (A : Option Addr) (n c : Nat) (ms : List St) (r : Rs) (w : World) (hn : n = ms.length) (hI : In A ms w) (hb : Ab ms r) (hlim : ms.length ≤ maxLen) :
    Calls Tryz.prog 12 #[rv (.slice A n c) r] w fun e w' => e = .returned (.string ⟨(fA ⟨ms, r⟩).toArray⟩) ∧ Q w w' := by
  have cC : Hid (∀ w', Q w w' → Calls Tryz.prog 10 #[rv (.slice A n c) r] w' fun e w'' => e = .returned (.int .i64 (chk ⟨ms, r⟩)) ∧ Q w' w'') := Lib.hid (fun w' q => refCheck_any A n c ms r w' hn (hI.stays q) hb hlim)
  have cS : Hid (chk ⟨ms, r⟩ = 0 → ∀ w', Q w w' → Calls Tryz.prog 33 #[.slice A n c] w' fun e w'' => e = .returned (.string ⟨(tSs ms).toArray⟩) ∧ Q w' w'') := Lib.hid (fun hc w' q => refSteps_any A n c ms w' hn (hI.stays q) (chk_ok hc).2.1 (chk_ok hc).1)
  have cK : Hid (∀ w', Calls Tryz.prog 14 #[.agg #[.int .i64 r.key.kind, .int .i64 r.key.num, .string r.key.str]] w' fun e w'' => e = .returned (.string ⟨(fK r.key).toArray⟩) ∧ Q w' w'') := Lib.hid (fun w' => refFormatKey_any r.key w' hb.key)
  rw [fA_case]
  have HE : Hid (chk ⟨ms, r⟩ = 0 → (tSs ms).length ≤ 401152 ∧ r.type.size ≤ 64 ∧ r.name.size ≤ 64) := Lib.hid (fun hc => by
    obtain ⟨h16, hs, hr⟩ := chk_ok hc
    have h1 := tSs_len ms hs
    obtain ⟨t1, t2⟩ := chkR_ok hr
    obtain ⟨n1, _⟩ := chkN_ok t2
    exact ⟨by omega, id_size (isTy_id t1), id_size n1⟩)
  have hfl := fK_len r.key
  obtain ⟨d, ty, nm, ⟨kd, m, t⟩⟩ := r
  have htR : tR ⟨d, ty, nm, ⟨kd, m, t⟩⟩ = (if d then dataB else []) ++ (ty.data.toList ++ (46 :: (nm.data.toList ++ fK ⟨kd, m, t⟩))) := rfl
  unfold rv at *
  simp only at *
  obtain ⟨FK, hFK⟩ : ∃ z : ByteArray, (⟨(fK ⟨kd, m, t⟩).toArray⟩ : ByteArray) = z := ⟨_, rfl⟩
  have hFl : FK.data.toList = fK ⟨kd, m, t⟩ := by rw [← hFK]
  rw [hFK] at cK
  rw [← hFl] at htR hfl
  have hFs : FK.size ≤ 25000 := by rw [Lib.size_eq]; exact hfl
  rw [htR]
  clear hFK hFl hfl htR hI hb hlim hn
  obtain ⟨E, hE⟩ : ∃ e, chk ⟨ms, ⟨d, ty, nm, ⟨kd, m, t⟩⟩⟩ = e := ⟨_, rfl⟩
  rw [hE] at cC cS HE ⊢
  clear hE
  cases hE0 : (E != 0) with
  | true =>
    rw [if_neg (by simpa using hE0)]
    clear cS cK HE
    go_enter Tryz.func12, Tryz.ntmps12
    go_wp2_with fail
    refine (cC.out _ (Q.alloc _ _)).mono ?_; rintro e w1 ⟨rfl, q1⟩
    go_wp2_with fail
    go_ret
    exact ⟨rfl, (Q.alloc _ _).trans q1⟩
  | false =>
    obtain rfl : E = 0 := by simpa using hE0
    rw [if_pos rfl]
    obtain ⟨z1, z2, z3⟩ := HE.out rfl
    have CS := Lib.hid (cS.out rfl)
    clear cS HE hE0
    obtain ⟨SP, hSP⟩ : ∃ z : ByteArray, (⟨(tSs ms).toArray⟩ : ByteArray) = z := ⟨_, rfl⟩
    have hSl : SP.data.toList = tSs ms := by rw [← hSP]
    rw [hSP] at CS
    rw [← hSl] at z1 ⊢
    have z4 : SP.size ≤ 401152 := by rw [Lib.size_eq]; exact z1
    clear hSP hSl z1
    obtain ⟨AN, hAN⟩ : ∃ z : ByteArray, (if d then SP ++ ⟨#[100, 97, 116, 97, 46]⟩ else SP) ++ ty ++ ⟨#[46]⟩ ++ nm ++ FK = z := ⟨_, rfl⟩
    have e : (⟨(SP.data.toList ++ ((if d then dataB else []) ++ (ty.data.toList ++ (46 :: (nm.data.toList ++ FK.data.toList))))).toArray⟩ : ByteArray) = AN := ba_ext (by
      rw [← hAN]
      cases d <;> simp [dataB, List.append_assoc])
    rw [e]
    clear e
    go_enter Tryz.func12, Tryz.ntmps12
    go_wp2_with fail
    refine (cC.out _ (Q.alloc _ _)).mono ?_; rintro e w1 ⟨rfl, q1⟩
    have BB := Lib.hid ((Bk.new #[.slice A n c, .bool d, .string ty, .string nm, .int .i64 kd, .int .i64 m, .string t] 27 w).stays q1)
    have Q1 := Lib.hid ((Q.alloc w (.cells #[.slice A n c, .bool d, .string ty, .string nm, .int .i64 kd, .int .i64 m, .string t] 27)).trans q1)
    clear q1 cC
    have l0 := BB.out.at 0 (.slice A n c) rfl
    go_wp2_with fail
    refine (CS.out _ Q1.out).mono ?_; rintro e w2 ⟨rfl, q2⟩
    replace BB := Lib.hid (BB.out.stays q2)
    replace Q1 := Lib.hid (Q1.out.trans q2)
    clear q2 CS l0
    have l1 := BB.out.at 1 (.bool d) rfl
    have sees : Hid (∀ w', Hid (Q w2 w') → Hid (Q w2 w') ∧ w'.cell? ⟨w.heap.size, 2, none⟩ = some (.string ty) ∧ w'.cell? ⟨w.heap.size, 3, none⟩ = some (.string nm) ∧ w'.cell? ⟨w.heap.size, 4, none⟩ = some (.int .i64 kd) ∧ w'.cell? ⟨w.heap.size, 5, none⟩ = some (.int .i64 m) ∧ w'.cell? ⟨w.heap.size, 6, none⟩ = some (.string t)) := Lib.hid (fun w' q => by
      have B := BB.out.stays q.out
      exact ⟨q, B.at 2 (.string ty) rfl, B.at 3 (.string nm) rfl, B.at 4 (.int .i64 kd) rfl, B.at 5 (.int .i64 m) rfl, B.at 6 (.string t) rfl⟩)
    have cK1 : Hid (∀ w', Hid (Q w2 w') → Calls Tryz.prog 14 #[.agg #[.int .i64 kd, .int .i64 m, .string t]] w' fun e w'' => e = .returned (.string FK) ∧ Hid (Q w2 w'')) := Lib.hid (fun w' q => (cK.out w').mono fun _ _ ⟨he, hq⟩ => ⟨he, Lib.hid (q.out.trans hq)⟩)
    clear cK BB
    have h0 : Hid (Q w2 w2.drew) := Lib.hid (Q.drewN _ 1)
    cases d with
    | true =>
      simp only [if_true] at hAN
      have f0 : ¬ 9223372036854775807 < SP.size + 5 := by omega
      have f1 : ¬ 9223372036854775807 < SP.size + 5 + ty.size := by omega
      have f2 : ¬ 9223372036854775807 < SP.size + 5 + ty.size + 1 := by omega
      have f3 : ¬ 9223372036854775807 < SP.size + 5 + ty.size + 1 + nm.size := by omega
      have f4 : ¬ 9223372036854775807 < SP.size + 5 + ty.size + 1 + nm.size + FK.size := by omega
      go_wp2_with fail
      go_region_held3 (fun w' => Hid (Q w2 w') ∧ w'.cell? ⟨w.heap.size, 2, none⟩ = some (.string ty) ∧ w'.cell? ⟨w.heap.size, 3, none⟩ = some (.string nm) ∧ w'.cell? ⟨w.heap.size, 4, none⟩ = some (.int .i64 kd) ∧ w'.cell? ⟨w.heap.size, 5, none⟩ = some (.int .i64 m) ∧ w'.cell? ⟨w.heap.size, 6, none⟩ = some (.string t))
        (exact sees.out _ (by assumption))
        (first | (go_at_call 14; refine (cK1.out _ (And.left ‹_›)).mono ?_; rintro e v1 ⟨rfl, h1⟩))
      clear cK1 sees
      go_wp2_with fail
      go_ret
      exact ⟨rfl, Q1.out.trans h1.out⟩
    | false =>
      simp only [Bool.false_eq_true, if_false] at hAN
      have f1 : ¬ 9223372036854775807 < SP.size + ty.size := by omega
      have f2 : ¬ 9223372036854775807 < SP.size + ty.size + 1 := by omega
      have f3 : ¬ 9223372036854775807 < SP.size + ty.size + 1 + nm.size := by omega
      have f4 : ¬ 9223372036854775807 < SP.size + ty.size + 1 + nm.size + FK.size := by omega
      go_wp2_with fail
      go_region_held3 (fun w' => Hid (Q w2 w') ∧ w'.cell? ⟨w.heap.size, 2, none⟩ = some (.string ty) ∧ w'.cell? ⟨w.heap.size, 3, none⟩ = some (.string nm) ∧ w'.cell? ⟨w.heap.size, 4, none⟩ = some (.int .i64 kd) ∧ w'.cell? ⟨w.heap.size, 5, none⟩ = some (.int .i64 m) ∧ w'.cell? ⟨w.heap.size, 6, none⟩ = some (.string t))
        (exact sees.out _ (by assumption))
        (first | (go_at_call 14; refine (cK1.out _ (And.left ‹_›)).mono ?_; rintro e v1 ⟨rfl, h1⟩))
      clear cK1 sees
      go_wp2_with fail
      go_ret
      exact ⟨rfl, Q1.out.trans h1.out⟩

end Go.Proofs.YthekabflbpfjoaaGreatDoor.adr
