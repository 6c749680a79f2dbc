/- The reference's place. -/
import Derived.Test.YthekabflbpfjoaaGreatDoorRppm
namespace Go.Proofs.YthekabflbpfjoaaGreatDoor.adr
open Go.RowKit
open Go.Proofs.YthekabflbpfjoaaGreatDoor

/-- What the loop says of the text when it goes on, ends or fails. -/
theorem pl_none {l S : List UInt8} {path : List St} (h : full l = (full S).map fun x => (path ++ x.1, x.2)) (hp : Lib.hasPrefix S modB = true) (hn : rdNm (Lib.trimPrefix S modB) = none) : full l = none := by rw [h, full_none S hp hn]; rfl
theorem pl_path {l S : List UInt8} {path : List St} {st : St} (h : full l = (full S).map fun x => (path ++ x.1, x.2)) (hp : Lib.hasPrefix S modB = true) (hn : rdNm (Lib.trimPrefix S modB) = some (st, [])) : full l = some (path ++ [st], none) := by rw [h, full_path S st hp hn]; rfl
theorem pl_bad {l S : List UInt8} {path : List St} {st : St} {c : UInt8} {r : List UInt8} (h : full l = (full S).map fun x => (path ++ x.1, x.2)) (hp : Lib.hasPrefix S modB = true) (hn : rdNm (Lib.trimPrefix S modB) = some (st, c :: r)) (hc : ¬ c = 46) : full l = none := by rw [h, full_bad S st c r hp hn hc]; rfl
theorem pl_more {l S : List UInt8} {path : List St} {st : St} {r : List UInt8} (h : full l = (full S).map fun x => (path ++ x.1, x.2)) (hp : Lib.hasPrefix S modB = true) (hn : rdNm (Lib.trimPrefix S modB) = some (st, 46 :: r)) : full l = (full r).map fun x => ((path ++ [st]) ++ x.1, x.2) := by
  rw [h, full_more S st r hp hn, Option.map_map]
  congr 1
  funext x
  show (path ++ (st :: x.1), x.2) = ((path ++ [st]) ++ x.1, x.2)
  rw [List.append_assoc]
  rfl
theorem pl_res {l S : List UInt8} {path : List St} (h : full l = (full S).map fun x => (path ++ x.1, x.2)) (hp : Lib.hasPrefix S modB = false) : full l = (rdR S).map fun r => (path, some r) := by
  rw [h, full_res S hp, Option.map_map]
  congr 1
  funext r
  show (path ++ [], some r) = _
  rw [List.append_nil]
theorem trim_drop (l p : List UInt8) (h : Lib.hasPrefix l p = true) : Lib.trimPrefix l p = l.drop p.length := by
  unfold Lib.trimPrefix
  rw [if_pos h]

set_option maxRecDepth 100000 in
set_option maxHeartbeats 64000000 in
theorem refPlace_any (s : ByteArray) (w : World) (hs : s.size ≤ 3000) :
    Calls Tryz.prog 41 #[.string s] w (PlE s.data.toList w) := by
  generalize hl : s.data.toList = l
  have cB : Hid (∀ (S : ByteArray) w', Calls Tryz.prog 68 #[.string S, .string ⟨#[109, 111, 100, 117, 108, 101, 46]⟩] w' fun e w'' => e = .returned (.bool (Lib.hasPrefix S.data.toList modB)) ∧ w' = w'') := Lib.hid (fun S w' => refBegins_any S ⟨#[109, 111, 100, 117, 108, 101, 46]⟩ w')
  have cD : Hid (∀ (S : ByteArray) w', Calls Tryz.prog 68 #[.string S, .string ⟨#[100, 97, 116, 97, 46]⟩] w' fun e w'' => e = .returned (.bool (Lib.hasPrefix S.data.toList dataB)) ∧ w' = w'') := Lib.hid (fun S w' => refBegins_any S ⟨#[100, 97, 116, 97, 46]⟩ w')
  have cS : Hid (∀ (S : ByteArray) w', S.size ≤ 3000 → 7 ≤ S.size → Calls Tryz.prog 69 #[.string S] w' fun e w'' => ∃ st r ok, e = .returned (.tuple #[sv st, .string r, .bool ok]) ∧ NmEnds (rdNm (S.data.toList.drop 7)) st r ok ∧ Q w' w'') := Lib.hid (fun S w' h1 h2 => refStep_any S w' h1 h2)
  have cW : Hid (∀ (S : ByteArray) w', S.size ≤ 1000000 → Calls Tryz.prog 70 #[.string S] w' fun e w'' => e = .returned (.tuple #[.string ⟨(word S.data.toList).toArray⟩, .string ⟨(S.data.toList.drop (word S.data.toList).length).toArray⟩]) ∧ Q w' w'') := Lib.hid (fun S w' h1 => refWord_any S w' h1)
  have cK : Hid (∀ (S : ByteArray) w', S.size ≤ 3000 → Calls Tryz.prog 71 #[.string S] w' fun e w'' => ∃ k r ok, e = .returned (.tuple #[kv k, .string r, .bool ok]) ∧ KeyEnds (rdK S.data.toList) k r ok ∧ Q w' w'') := Lib.hid (fun S w' h1 => refKy_any S w' h1)
  have cI : Hid (∀ (S : ByteArray) w', S.size ≤ 1000000 → Calls Tryz.prog 28 #[.string S] w' fun e w'' => e = .returned (.bool (isId S.data.toList)) ∧ w' = w'') := Lib.hid (fun S w' h1 => refIdentifier_any S w' h1)
  have cR : Hid (∀ (S : ByteArray) w', Calls Tryz.prog 30 #[.string S] w' fun e w'' => e = .returned (.bool (words.contains S.data.toList)) ∧ Q w' w'') := Lib.hid (fun S w' => refReserved_any S w')
  go_enter Tryz.func41, Tryz.ntmps41
  go_wp2_with fail
  have B2 : Hid (Pl w.heap.size (.slice none 0 0) (.bool false) (.string ⟨#[]⟩) (.string ⟨#[]⟩) (.int .i64 0) (.int .i64 0) (.string ⟨#[]⟩) (.bool false) ((w.alloc (.cells #[.slice none 0 0, .bool false, .string ⟨#[]⟩, .string ⟨#[]⟩, .int .i64 0, .int .i64 0, .string ⟨#[]⟩, .bool false] 63)).alloc (.cells #[.slice none 0 0, .bool false, .string ⟨#[]⟩, .string ⟨#[]⟩, .int .i64 0, .int .i64 0, .string ⟨#[]⟩, .bool false] 63))) := Lib.hid (Pl.stays (Bk.new _ _ w) (Q.alloc _ _))
  have B4 : Hid (Pl (w.heap.size + 1) (.slice none 0 0) (.bool false) (.string ⟨#[]⟩) (.string ⟨#[]⟩) (.int .i64 0) (.int .i64 0) (.string ⟨#[]⟩) (.bool false) ((w.alloc (.cells #[.slice none 0 0, .bool false, .string ⟨#[]⟩, .string ⟨#[]⟩, .int .i64 0, .int .i64 0, .string ⟨#[]⟩, .bool false] 63)).alloc (.cells #[.slice none 0 0, .bool false, .string ⟨#[]⟩, .string ⟨#[]⟩, .int .i64 0, .int .i64 0, .string ⟨#[]⟩, .bool false] 63))) := Lib.hid (by
    have h := Bk.new #[.slice none 0 0, .bool false, .string ⟨#[]⟩, .string ⟨#[]⟩, .int .i64 0, .int .i64 0, .string ⟨#[]⟩, .bool false] 63 (w.alloc (.cells #[.slice none 0 0, .bool false, .string ⟨#[]⟩, .string ⟨#[]⟩, .int .i64 0, .int .i64 0, .string ⟨#[]⟩, .bool false] 63))
    have e : (w.alloc (.cells #[.slice none 0 0, .bool false, .string ⟨#[]⟩, .string ⟨#[]⟩, .int .i64 0, .int .i64 0, .string ⟨#[]⟩, .bool false] 63)).heap.size = w.heap.size + 1 := by simp
    rwa [e] at h)
  have QQ := Lib.hid (two_alloc w (.cells #[.slice none 0 0, .bool false, .string ⟨#[]⟩, .string ⟨#[]⟩, .int .i64 0, .int .i64 0, .string ⟨#[]⟩, .bool false] 63) (.cells #[.slice none 0 0, .bool false, .string ⟨#[]⟩, .string ⟨#[]⟩, .int .i64 0, .int .i64 0, .string ⟨#[]⟩, .bool false] 63))
  have SR := Lib.hid (Sr.nil w.heap.size ((w.alloc (.cells #[.slice none 0 0, .bool false, .string ⟨#[]⟩, .string ⟨#[]⟩, .int .i64 0, .int .i64 0, .string ⟨#[]⟩, .bool false] 63)).alloc (.cells #[.slice none 0 0, .bool false, .string ⟨#[]⟩, .string ⟨#[]⟩, .int .i64 0, .int .i64 0, .string ⟨#[]⟩, .bool false] 63)))
  have HF : Hid (full l = (full s.data.toList).map fun x => ([] ++ x.1, x.2)) := Lib.hid (by
    rw [hl]
    cases full l with
    | none => rfl
    | some x => rfl)
  have HS : Hid (s.size + 8 * ([] : List St).length ≤ 3000) := Lib.hid (by simpa using hs)
  clear hl
  generalize ((w.alloc (.cells #[.slice none 0 0, .bool false, .string ⟨#[]⟩, .string ⟨#[]⟩, .int .i64 0, .int .i64 0, .string ⟨#[]⟩, .bool false] 63)).alloc (.cells #[.slice none 0 0, .bool false, .string ⟨#[]⟩, .string ⟨#[]⟩, .int .i64 0, .int .i64 0, .string ⟨#[]⟩, .bool false] 63)) = w2 at *
  go_loopw [0] (fun sv wr => ∃ (S : ByteArray) (path : List St) (V : Value), sv = .string S ∧ Hid (Q w wr) ∧ Hid (Pl w.heap.size (.slice none 0 0) (.bool false) (.string ⟨#[]⟩) (.string ⟨#[]⟩) (.int .i64 0) (.int .i64 0) (.string ⟨#[]⟩) (.bool false) wr) ∧ Hid (Pl (w.heap.size + 1) V (.bool false) (.string ⟨#[]⟩) (.string ⟨#[]⟩) (.int .i64 0) (.int .i64 0) (.string ⟨#[]⟩) (.bool false) wr) ∧ Hid (Sr w.heap.size V path wr) ∧ Hid (full l = (full S.data.toList).map fun x => (path ++ x.1, x.2)) ∧ Hid (S.size + 8 * path.length ≤ 3000)) (fun v _ => strLen v)
  case atStart => exact ⟨s, [], .slice none 0 0, rfl, QQ, B2, B4, SR, HF, HS⟩
  case round =>
    clear B2 B4 QQ SR HF HS hs
    obtain ⟨S, path, V, rfl, QQ, B2, B4, SR, HF, HS⟩ := hrel
    have cB1 := Lib.hid (cB.out S)
    cases hp : Lib.hasPrefix S.data.toList modB with
    | true =>
      rw [hp] at cB1
      have hlen : S.data.toList.length = S.size := by simp
      have h7 : 7 ≤ S.size := by
        have := trim_len _ _ hp
        have hm : modB.length = 7 := rfl
        omega
      have hS3 : S.size ≤ 3000 := by have := HS.out; omega
      have cS1 := Lib.hid (fun w' => cS.out S w' hS3 h7)
      have htd : Lib.trimPrefix S.data.toList modB = S.data.toList.drop 7 := trim_drop _ _ hp
      rw [← htd] at cS1
      have HP := Lib.hid hp
      have HT := Lib.hid htd
      have H7 := Lib.hid h7
      clear hp htd hlen h7 hS3 cB cS
      go_wp2_with fail
      refine (cB1.out _).mono ?_; rintro e w3 ⟨rfl, rfl⟩
      go_wp2_with fail
      refine (cS1.out _).mono ?_; rintro e w3 ⟨⟨nm, kd, n, t⟩, r, ok, rfl, hne, q3⟩
      have HN := Lib.hid hne
      replace QQ := Lib.hid (QQ.out.trans q3)
      replace B2 := Lib.hid (B2.out.stays q3)
      replace B4 := Lib.hid (B4.out.stays q3)
      replace SR := Lib.hid (SR.out.stays q3)
      clear hne q3 cB1 cS1 cD cW cK cI cR
      unfold sv
      simp only
      generalize hNO : rdNm (Lib.trimPrefix S.data.toList modB) = NO at *
      have HNO := Lib.hid hNO
      clear hNO
      cases NO with
      | none =>
        have : ok = false := HN.out
        subst this
        replace HN : Hid (full l = none) := Lib.hid (pl_none HF.out HP.out HNO.out)
        replace QQ := Lib.hid (QQ.out.trans (Q.alloc w3 (.cells #[.string nm, .int .i64 kd, .int .i64 n, .string t] 44)))
        replace B2 := Lib.hid (B2.out.stays (Q.alloc w3 (.cells #[.string nm, .int .i64 kd, .int .i64 n, .string t] 44)))
        clear B4 SR HF HS
        obtain ⟨w5, hw5⟩ : ∃ W, w3.alloc (.cells #[.string nm, .int .i64 kd, .int .i64 n, .string t] 44) = W := ⟨_, rfl⟩
        rw [hw5] at B2 QQ
        obtain ⟨a0, a1, a2, a3, a4, a5, a6, a7⟩ := B2.out.cells
        obtain ⟨z0, z1, z2, z3, z4, z5, z6, z7⟩ := B2.out.marks
        have bp := Lib.hid (B2.out.put8 (.slice none 0 0) (.bool false) (.string ⟨#[]⟩) (.string ⟨#[]⟩) (.int .i64 0) (.int .i64 0) (.string ⟨#[]⟩) (.bool false))
        have KP := Lib.hid (QQ.out.put8 (Nat.le_refl _) (.slice none 0 0) (.bool false) (.string ⟨#[]⟩) (.string ⟨#[]⟩) (.int .i64 0) (.int .i64 0) (.string ⟨#[]⟩) (.bool false))
        clear B2 QQ
        go_wp2_with fail
        obtain ⟨y0, y1, y2, y3, y4, y5, y6, y7⟩ := bp.out.cells
        refine bodyPost_ret (by simp [results, Tryz.results41, go_sem, y0, y1, y2, y3, y4, y5, y6, y7]; try rfl) rfl ?_
        exact PlE.no HN.out KP.out
      | some y =>
        obtain ⟨st', r'⟩ := y
        obtain ⟨g1, g2, g3⟩ := HN.out
        subst g1 g2
        clear HN
        have lt2 : w.heap.size < w3.heap.size := B2.out.lt
        have lt4 : w.heap.size + 1 < w3.heap.size := B4.out.lt
        have hpl : Hid (path.length ≤ 1000) := Lib.hid (by have := HS.out; omega)
        have hsz : Hid (w.heap.size ≤ w3.heap.size) := Lib.hid (by omega)
        have hap := Lib.hid ((SR.out.stays (Q.alloc w3 (.cells #[.string nm, .int .i64 kd, .int .i64 n, .string t] 44))).stays (Q.alloc (w3.alloc (.cells #[.string nm, .int .i64 kd, .int .i64 n, .string t] 44)) (.cells #[.string nm, .int .i64 kd, .int .i64 n, .string t] 44)))
        have KK0 := Lib.hid (Kp.of ((Q.alloc w3 (.cells #[.string nm, .int .i64 kd, .int .i64 n, .string t] 44)).trans (Q.alloc (w3.alloc (.cells #[.string nm, .int .i64 kd, .int .i64 n, .string t] 44)) (.cells #[.string nm, .int .i64 kd, .int .i64 n, .string t] 44))) hsz.out)
        obtain ⟨A, c, rfl⟩ := SR.out.shape
        obtain ⟨N, hN⟩ : ∃ z, path.length = z := ⟨_, rfl⟩
        rw [hN] at B4 hap
        have m4 := (B4.out.stays (Q.alloc w3 (.cells #[.string nm, .int .i64 kd, .int .i64 n, .string t] 44))).cells.1
        clear hN SR lt2 lt4
        go_wp2_with (at_builtin; refine wpList_sr rfl _ _ rfl w.heap.size _ path ⟨nm, ⟨kd, n, t⟩⟩ rfl hap.out ⟨w3.heap.size + 1, 0, none⟩ 1 rfl ?c1 ?c2 ?c3 ?_)
        case c1 => exact new_step (w3.alloc (.cells #[.string nm, .int .i64 kd, .int .i64 n, .string t] 44)) ⟨nm, ⟨kd, n, t⟩⟩ (w3.heap.size + 1) (by simp)
        case c2 => exact hpl.out
        case c3 => have := hsz.out; simp; omega
        intro v' w5 hv5 hk5
        have KK := Lib.hid (KK0.out.trans hk5)
        have SR5 := Lib.hid hv5
        replace QQ : Hid (Q w w5) := Lib.hid (Below.trans QQ.out KK.out.below)
        have ne24 : w.heap.size ≠ w.heap.size + 1 := by omega
        replace B2 := Lib.hid (B2.out.kept KK.out)
        replace B4 := Lib.hid (B4.out.kept KK.out)
        clear hv5 hk5 hap KK0 KK m4 hsz hpl
        obtain ⟨A5, c5, rfl⟩ := SR5.out.shape
        obtain ⟨N5, hN5⟩ : ∃ z, (path ++ [(⟨nm, ⟨kd, n, t⟩⟩ : St)]).length = z := ⟨_, rfl⟩
        rw [hN5] at SR5 ⊢
        have HN5 := Lib.hid hN5
        clear hN5
        have l0 := B4.out.cells.1
        have f0 := B4.out.marks.1
        replace SR5 := Lib.hid (SR5.out.put B4.out (by decide) 0 (.slice A5 N5 c5))
        replace QQ := Lib.hid (Q.put QQ.out (p := w.heap.size + 1) (by omega) 0 (.slice A5 N5 c5))
        replace B2 := Lib.hid (B2.out.other ne24 0 (.slice A5 N5 c5))
        replace B4 := Lib.hid (B4.out.set0 (.slice A5 N5 c5))
        obtain ⟨w6, hw6⟩ : ∃ W, w5.setCell ⟨w.heap.size + 1, 0, none⟩ (.slice A5 N5 c5) = W := ⟨_, rfl⟩
        rw [hw6] at SR5 QQ B2 B4
        cases r' with
        | nil =>
          have hr : r.toList.isEmpty = true := (isEmpty_nil r).2 g3
          have HN : Hid (full l = some (path ++ [⟨nm, ⟨kd, n, t⟩⟩], none)) := Lib.hid (pl_path HF.out HP.out HNO.out)
          have SP := Lib.hid (SR5.out.put8 B2.out (.slice A5 N5 c5) (.bool false) (.string ⟨#[]⟩) (.string ⟨#[]⟩) (.int .i64 0) (.int .i64 0) (.string ⟨#[]⟩) (.bool false))
          obtain ⟨l0', l1, l2, l3, l4, l5, l6, l7⟩ := B4.out.cells
          clear HF HS HNO HP HT H7 g3 SR5 B4
          obtain ⟨a0, a1, a2, a3, a4, a5, a6, a7⟩ := B2.out.cells
          obtain ⟨z0, z1, z2, z3, z4, z5, z6, z7⟩ := B2.out.marks
          have bp := Lib.hid (B2.out.put8 (.slice A5 N5 c5) (.bool false) (.string ⟨#[]⟩) (.string ⟨#[]⟩) (.int .i64 0) (.int .i64 0) (.string ⟨#[]⟩) (.bool false))
          have KP := Lib.hid (QQ.out.put8 (Nat.le_refl _) (.slice A5 N5 c5) (.bool false) (.string ⟨#[]⟩) (.string ⟨#[]⟩) (.int .i64 0) (.int .i64 0) (.string ⟨#[]⟩) (.bool false))
          clear B2 QQ
          go_wp2_with fail
          obtain ⟨y0, y1, y2, y3, y4, y5, y6, y7⟩ := bp.out.cells
          refine bodyPost_ret (by simp [results, Tryz.results41, go_sem, y0, y1, y2, y3, y4, y5, y6, y7]; try rfl) rfl ?_
          exact PlE.path HN.out SP.out KP.out
        | cons c0 r0 =>
          have hre : r.toList.isEmpty = false := by
            cases hx : r.toList.isEmpty with
            | false => rfl
            | true => rw [(isEmpty_nil r).1 hx] at g3; cases g3
          have hrp : 0 < r.size := by
            rcases Nat.eq_zero_or_pos r.size with h | h
            · rw [Lib.size_eq, g3] at h
              cases h
            · exact h
          have hdr := drop_at r 0 hrp
          have hd0 : r.data.toList.drop 0 = c0 :: r0 := g3
          rw [hd0] at hdr
          obtain ⟨hc0, hr0⟩ := List.cons.inj hdr
          have hrl := rdNm_len _ _ _ HNO.out
          have hS7 : (Lib.trimPrefix S.data.toList modB).length + 7 = S.size := by rw [HT.out, List.length_drop, show S.data.toList.length = S.size by simp]; have := H7.out; omega
          have hrsz : r.size = (c0 :: r0).length := by rw [Lib.size_eq, g3]
          cases h46 : (r[0] == 46) with
          | false =>
            have hb : ((r[0].toNat : Int) != 46) = true := bne_byte _ _ _ h46
            have HN : Hid (full l = none) := Lib.hid (pl_bad HF.out HP.out HNO.out (fun e => by rw [← hc0, e] at h46; exact absurd h46 (by decide)))
            clear HF HS HNO HP HT H7 g3 SR5 B4 hd0 hdr hc0 hr0 hrl hS7 hrsz h46
            obtain ⟨a0, a1, a2, a3, a4, a5, a6, a7⟩ := B2.out.cells
            obtain ⟨z0, z1, z2, z3, z4, z5, z6, z7⟩ := B2.out.marks
            have bp := Lib.hid (B2.out.put8 (.slice none 0 0) (.bool false) (.string ⟨#[]⟩) (.string ⟨#[]⟩) (.int .i64 0) (.int .i64 0) (.string ⟨#[]⟩) (.bool false))
            have KP := Lib.hid (QQ.out.put8 (Nat.le_refl _) (.slice none 0 0) (.bool false) (.string ⟨#[]⟩) (.string ⟨#[]⟩) (.int .i64 0) (.int .i64 0) (.string ⟨#[]⟩) (.bool false))
            clear B2 QQ
            go_wp2_with fail
            obtain ⟨y0, y1, y2, y3, y4, y5, y6, y7⟩ := bp.out.cells
            refine bodyPost_ret (by simp [results, Tryz.results41, go_sem, y0, y1, y2, y3, y4, y5, y6, y7]; try rfl) rfl ?_
            exact PlE.no HN.out KP.out
          | true =>
            have hb : ((r[0].toNat : Int) != 46) = false := bne_byte _ _ _ h46
            have e46 : c0 = 46 := by rw [hc0]; exact beq_iff_eq.1 h46
            subst e46
            have hX : (r.extract 1 r.size).data.toList = r0 := by rw [ext_to, hr0]
            obtain ⟨S', hS'⟩ : ∃ z, r.extract 1 r.size = z := ⟨_, rfl⟩
            rw [hS'] at hX
            have HF' : Hid (full l = (full S'.data.toList).map fun x => ((path ++ [⟨nm, ⟨kd, n, t⟩⟩]) ++ x.1, x.2)) := Lib.hid (by rw [hX]; exact pl_more HF.out HP.out HNO.out)
            have hsS : S'.size + 9 ≤ S.size := by
              rw [Lib.size_eq, hX]
              rw [List.length_cons] at hrl
              omega
            have HS' : Hid (S'.size + 8 * (path ++ [(⟨nm, ⟨kd, n, t⟩⟩ : St)]).length ≤ 3000) := Lib.hid (by have := HS.out; rw [List.length_append, List.length_singleton]; omega)
            have hr1 : (1 : Int) ≤ (r.size : Int) := by omega
            clear HF HS HNO HP HT H7 g3 hd0 hdr hc0 hr0 hrl hS7 hrsz h46 hX
            go_wp2_with fail
            go_roundw
            case rel => exact ⟨S', _, _, rfl, QQ, B2, B4, SR5, HF', HS'⟩
            case measure => show S'.size < S.size; omega
    | false =>
      rw [hp] at cB1
      have HF2 : Hid (full l = (rdR S.data.toList).map fun r => (path, some r)) := Lib.hid (pl_res HF.out hp)
      have hS3 : Hid (S.size ≤ 3000) := Lib.hid (by have := HS.out; omega)
      clear HF HS hp cB cS
      have ne24 : w.heap.size ≠ w.heap.size + 1 := by omega
      obtain ⟨A, c, rfl⟩ := SR.out.shape
      obtain ⟨N, hN⟩ : ∃ z, path.length = z := ⟨_, rfl⟩
      rw [hN] at B4 SR
      clear hN
      have cD1 := Lib.hid (cD.out S)
      cases hd : Lib.hasPrefix S.data.toList dataB with
      | true =>
        rw [hd] at cD1
        have htd : Lib.trimPrefix S.data.toList dataB = S.data.toList.drop 5 := trim_drop _ _ hd
        have h5 : (5 : Int) ≤ (S.size : Int) := by
          have := trim_len _ _ hd
          have hm : dataB.length = 5 := rfl
          have hlen : S.data.toList.length = S.size := by simp
          omega
        obtain ⟨T, hT⟩ : ∃ z, S.extract 5 S.size = z := ⟨_, rfl⟩
        have hTd : T.data.toList = S.data.toList.drop 5 := by rw [← hT, ext_to]
        have HR : Hid (full l = (rdR' true T.data.toList).map fun r => (path, some r)) := Lib.hid (by rw [HF2.out, rdR, hd, htd, hTd])
        have hT3 : Hid (T.size ≤ 3000) := Lib.hid (by have := hS3.out; rw [Lib.size_eq, hTd, List.length_drop, show S.data.toList.length = S.size by simp]; omega)
        have l1 := B4.out.cells.2.1
        have f1 := B4.out.marks.2.1
        have SR5 := Lib.hid (SR.out.put B4.out (by decide) 1 (.bool true))
        replace QQ := Lib.hid (Q.put QQ.out (p := w.heap.size + 1) (by omega) 1 (.bool true))
        replace B2 := Lib.hid (B2.out.other ne24 1 (.bool true))
        replace B4 := Lib.hid (B4.out.set1 (.bool true))
        obtain ⟨w6, hw6⟩ : ∃ W, wr.setCell ⟨w.heap.size + 1, 1, none⟩ (.bool true) = W := ⟨_, rfl⟩
        rw [hw6] at SR5 QQ B2 B4
        have cW1 := Lib.hid (fun w' => cW.out T w' (by have := hT3.out; omega))
        clear HF2 hS3 hd htd hTd SR cD
        go_wp2_with fail
        refine (cB1.out _).mono ?_; rintro e w3 ⟨rfl, rfl⟩
        go_wp2_with fail
        refine (cD1.out _).mono ?_; rintro e w3 ⟨rfl, rfl⟩
        go_wp2_with fail
        clear l1 f1 cD1 cB1 hw6
        obtain ⟨TY, hTY⟩ : ∃ z : ByteArray, (⟨(word T.data.toList).toArray⟩ : ByteArray) = z := ⟨_, rfl⟩
        obtain ⟨RS, hRS⟩ : ∃ z : ByteArray, (⟨(T.data.toList.drop (word T.data.toList).length).toArray⟩ : ByteArray) = z := ⟨_, rfl⟩
        rw [hTY, hRS] at cW1
        have TYd : TY.data.toList = word T.data.toList := by rw [← hTY]
        have RSd : RS.data.toList = T.data.toList.drop (word T.data.toList).length := by rw [← hRS]
        have hwl := word_le T.data.toList
        have hTl : T.data.toList.length = T.size := by simp
        have TYs : TY.size ≤ 3000 := by have := hT3.out; rw [Lib.size_eq, TYd]; omega
        have RSs : RS.size ≤ 3000 := by have := hT3.out; rw [Lib.size_eq, RSd, List.length_drop]; omega
        have HQ := Lib.hid (rdR'_ref true T.data.toList)
        have hdd : T.data.toList.drop ((word T.data.toList).length + 1) = RS.data.toList.drop 1 := by rw [RSd, List.drop_drop]
        rw [← RSd, hdd, ← TYd, ba_mk] at HQ
        generalize rdR' true T.data.toList = RO at *
        have cI1 := Lib.hid (fun w' => cI.out TY w' (by omega))
        have cR1 := Lib.hid (fun w' => cR.out TY w')
        clear hTY hRS TYd RSd hwl hTl hdd hT3
        refine (cW1.out _).mono ?_; rintro e w7 ⟨rfl, q7⟩
        replace QQ := Lib.hid (QQ.out.trans q7)
        replace B2 := Lib.hid (B2.out.stays q7)
        replace B4 := Lib.hid (B4.out.stays q7)
        replace SR5 := Lib.hid (SR5.out.stays q7)
        clear q7
        clear cW1
        cases hid : isId TY.data.toList with
        | false =>
          have HN : Hid (full l = none) := Lib.hid (by rw [HR.out, HQ.out, if_neg (fun x => by have := isTy_id x.1; rw [hid] at this; cases this)]; rfl)
          rw [hid] at cI1
          clear HR HQ SR5 B4 cR1 cK cI cR cW
          go_wp2_with fail
          refine (cI1.out _).mono ?_; rintro e w8 ⟨rfl, rfl⟩
          clear cI1
          obtain ⟨a0, a1, a2, a3, a4, a5, a6, a7⟩ := B2.out.cells
          obtain ⟨z0, z1, z2, z3, z4, z5, z6, z7⟩ := B2.out.marks
          have bp := Lib.hid (B2.out.put8 (.slice none 0 0) (.bool false) (.string ⟨#[]⟩) (.string ⟨#[]⟩) (.int .i64 0) (.int .i64 0) (.string ⟨#[]⟩) (.bool false))
          have KP := Lib.hid (QQ.out.put8 (Nat.le_refl _) (.slice none 0 0) (.bool false) (.string ⟨#[]⟩) (.string ⟨#[]⟩) (.int .i64 0) (.int .i64 0) (.string ⟨#[]⟩) (.bool false))
          clear B2 QQ
          go_wp2_with fail
          obtain ⟨y0, y1, y2, y3, y4, y5, y6, y7⟩ := bp.out.cells
          refine bodyPost_ret (by simp [results, Tryz.results41, go_sem, y0, y1, y2, y3, y4, y5, y6, y7]; try rfl) rfl ?_
          exact PlE.no HN.out KP.out
        | true =>
        rw [hid] at cI1
        cases hrv : words.contains TY.data.toList with
        | true =>
          have HN : Hid (full l = none) := Lib.hid (by rw [HR.out, HQ.out, if_neg (fun x => by have h := ((isTy_iff _).1 x.1).1; rw [List.contains_iff_mem] at hrv; exact h hrv)]; rfl)
          rw [hrv] at cR1
          clear HR HQ cK cI cR cW
          go_wp2_with fail
          refine (cI1.out _).mono ?_; rintro e w8 ⟨rfl, rfl⟩
          go_wp2_with fail
          refine (cR1.out _).mono ?_; rintro e w9 ⟨rfl, q9⟩
          replace QQ := Lib.hid (QQ.out.trans q9)
          replace B2 := Lib.hid (B2.out.stays q9)
          replace B4 := Lib.hid (B4.out.stays q9)
          replace SR5 := Lib.hid (SR5.out.stays q9)
          clear q9
          clear cI1 cR1 SR5 B4
          obtain ⟨a0, a1, a2, a3, a4, a5, a6, a7⟩ := B2.out.cells
          obtain ⟨z0, z1, z2, z3, z4, z5, z6, z7⟩ := B2.out.marks
          have bp := Lib.hid (B2.out.put8 (.slice none 0 0) (.bool false) (.string ⟨#[]⟩) (.string ⟨#[]⟩) (.int .i64 0) (.int .i64 0) (.string ⟨#[]⟩) (.bool false))
          have KP := Lib.hid (QQ.out.put8 (Nat.le_refl _) (.slice none 0 0) (.bool false) (.string ⟨#[]⟩) (.string ⟨#[]⟩) (.int .i64 0) (.int .i64 0) (.string ⟨#[]⟩) (.bool false))
          clear B2 QQ
          go_wp2_with fail
          obtain ⟨y0, y1, y2, y3, y4, y5, y6, y7⟩ := bp.out.cells
          refine bodyPost_ret (by simp [results, Tryz.results41, go_sem, y0, y1, y2, y3, y4, y5, y6, y7]; try rfl) rfl ?_
          exact PlE.no HN.out KP.out
        | false =>
        rw [hrv] at cR1
        have HTY : Hid (isTy TY.data.toList = true) := Lib.hid ((isTy_iff _).2 ⟨(fun h => by rw [← List.contains_iff_mem, hrv] at h; cases h), hid⟩)
        cases hre : RS.toList.isEmpty with
        | true =>
          have HN : Hid (full l = none) := Lib.hid (by rw [HR.out, HQ.out, if_neg (fun x => by have h := x.2; rw [(isEmpty_nil RS).1 hre] at h; cases h)]; rfl)
          clear HR HQ cK cI cR cW
          go_wp2_with fail
          refine (cI1.out _).mono ?_; rintro e w8 ⟨rfl, rfl⟩
          go_wp2_with fail
          refine (cR1.out _).mono ?_; rintro e w9 ⟨rfl, q9⟩
          replace QQ := Lib.hid (QQ.out.trans q9)
          replace B2 := Lib.hid (B2.out.stays q9)
          replace B4 := Lib.hid (B4.out.stays q9)
          replace SR5 := Lib.hid (SR5.out.stays q9)
          clear q9
          clear cI1 cR1 SR5 B4
          obtain ⟨a0, a1, a2, a3, a4, a5, a6, a7⟩ := B2.out.cells
          obtain ⟨z0, z1, z2, z3, z4, z5, z6, z7⟩ := B2.out.marks
          have bp := Lib.hid (B2.out.put8 (.slice none 0 0) (.bool false) (.string ⟨#[]⟩) (.string ⟨#[]⟩) (.int .i64 0) (.int .i64 0) (.string ⟨#[]⟩) (.bool false))
          have KP := Lib.hid (QQ.out.put8 (Nat.le_refl _) (.slice none 0 0) (.bool false) (.string ⟨#[]⟩) (.string ⟨#[]⟩) (.int .i64 0) (.int .i64 0) (.string ⟨#[]⟩) (.bool false))
          clear B2 QQ
          go_wp2_with fail
          obtain ⟨y0, y1, y2, y3, y4, y5, y6, y7⟩ := bp.out.cells
          refine bodyPost_ret (by simp [results, Tryz.results41, go_sem, y0, y1, y2, y3, y4, y5, y6, y7]; try rfl) rfl ?_
          exact PlE.no HN.out KP.out
        | false =>
        have hrp : 0 < RS.size := by
          rcases Nat.eq_zero_or_pos RS.size with h | h
          · rw [Lib.size_eq] at h
            rw [(isEmpty_nil RS).2 (List.eq_nil_of_length_eq_zero h)] at hre
            cases hre
          · exact h
        have hdr : RS.data.toList = RS[0] :: RS.data.toList.drop 1 := drop_at RS 0 hrp
        cases h46 : (RS[0] == 46) with
        | false =>
          have hb : ((RS[0].toNat : Int) != 46) = true := bne_byte _ _ _ h46
          have HN : Hid (full l = none) := Lib.hid (by rw [HR.out, HQ.out, if_neg (fun x => by have h := x.2; rw [hdr, List.head?_cons, Option.some.injEq] at h; rw [h] at h46; exact absurd h46 (by decide))]; rfl)
          clear HR HQ cK cI cR cW hdr h46
          go_wp2_with fail
          refine (cI1.out _).mono ?_; rintro e w8 ⟨rfl, rfl⟩
          go_wp2_with fail
          refine (cR1.out _).mono ?_; rintro e w9 ⟨rfl, q9⟩
          replace QQ := Lib.hid (QQ.out.trans q9)
          replace B2 := Lib.hid (B2.out.stays q9)
          replace B4 := Lib.hid (B4.out.stays q9)
          replace SR5 := Lib.hid (SR5.out.stays q9)
          clear q9
          clear cI1 cR1 SR5 B4
          obtain ⟨a0, a1, a2, a3, a4, a5, a6, a7⟩ := B2.out.cells
          obtain ⟨z0, z1, z2, z3, z4, z5, z6, z7⟩ := B2.out.marks
          have bp := Lib.hid (B2.out.put8 (.slice none 0 0) (.bool false) (.string ⟨#[]⟩) (.string ⟨#[]⟩) (.int .i64 0) (.int .i64 0) (.string ⟨#[]⟩) (.bool false))
          have KP := Lib.hid (QQ.out.put8 (Nat.le_refl _) (.slice none 0 0) (.bool false) (.string ⟨#[]⟩) (.string ⟨#[]⟩) (.int .i64 0) (.int .i64 0) (.string ⟨#[]⟩) (.bool false))
          clear B2 QQ
          go_wp2_with fail
          obtain ⟨y0, y1, y2, y3, y4, y5, y6, y7⟩ := bp.out.cells
          refine bodyPost_ret (by simp [results, Tryz.results41, go_sem, y0, y1, y2, y3, y4, y5, y6, y7]; try rfl) rfl ?_
          exact PlE.no HN.out KP.out
        | true =>
        have hb : ((RS[0].toNat : Int) != 46) = false := bne_byte _ _ _ h46
        obtain ⟨X, hX⟩ : ∃ z, RS.extract 1 RS.size = z := ⟨_, rfl⟩
        have hXd : X.data.toList = RS.data.toList.drop 1 := by rw [← hX, ext_to]
        have hXs : X.size ≤ 3000 := by rw [Lib.size_eq, hXd, List.length_drop, show RS.data.toList.length = RS.size by simp]; omega
        have hr1 : (1 : Int) ≤ (RS.size : Int) := by omega
        have hh : RS.data.toList.head? = some 46 := by rw [hdr, beq_iff_eq.1 h46]; rfl
        have HO := Lib.hid (HQ.out.trans (if_pos ⟨HTY.out, hh⟩))
        rw [← hXd] at HO
        have cW2 := Lib.hid (fun w' => cW.out X w' (by omega))
        obtain ⟨NM, hNM⟩ : ∃ z : ByteArray, (⟨(word X.data.toList).toArray⟩ : ByteArray) = z := ⟨_, rfl⟩
        obtain ⟨KR, hKR⟩ : ∃ z : ByteArray, (⟨(X.data.toList.drop (word X.data.toList).length).toArray⟩ : ByteArray) = z := ⟨_, rfl⟩
        rw [hNM, hKR] at cW2
        have NMd : NM.data.toList = word X.data.toList := by rw [← hNM]
        have KRd : KR.data.toList = X.data.toList.drop (word X.data.toList).length := by rw [← hKR]
        have hwl := word_le X.data.toList
        have hXl : X.data.toList.length = X.size := by simp
        have NMs : NM.size ≤ 3000 := by rw [Lib.size_eq, NMd]; omega
        have KRs : KR.size ≤ 3000 := by rw [Lib.size_eq, KRd, List.length_drop]; omega
        have hnmO : rdNm X.data.toList = if isId NM.data.toList = true then (rdK KR.data.toList).map fun x => (⟨NM, x.1⟩, x.2) else none := by
          unfold rdNm
          rw [← KRd, ← NMd, ba_mk]
        rw [hnmO] at HO
        have cI2 := Lib.hid (fun w' => cI.out NM w' (by omega))
        have cK2 := Lib.hid (fun w' => cK.out KR w' KRs)
        clear HQ HTY hdr h46 hXd hh hNM hKR NMd KRd hwl hXl hnmO cW cI cK cR TYs RSs NMs KRs hXs
        go_wp2_with fail
        refine (cI1.out _).mono ?_; rintro e w8 ⟨rfl, rfl⟩
        go_wp2_with fail
        refine (cR1.out _).mono ?_; rintro e w9 ⟨rfl, q9⟩
        replace QQ := Lib.hid (QQ.out.trans q9)
        replace B2 := Lib.hid (B2.out.stays q9)
        replace B4 := Lib.hid (B4.out.stays q9)
        replace SR5 := Lib.hid (SR5.out.stays q9)
        clear q9
        clear cI1 cR1
        go_wp2_with fail
        refine (cW2.out _).mono ?_; rintro e w10 ⟨rfl, q10⟩
        replace QQ := Lib.hid (QQ.out.trans q10)
        replace B2 := Lib.hid (B2.out.stays q10)
        replace B4 := Lib.hid (B4.out.stays q10)
        replace SR5 := Lib.hid (SR5.out.stays q10)
        clear q10
        clear cW2
        go_wp2_with fail
        refine (cK2.out _).mono ?_; rintro e w11 ⟨⟨kd, m, t⟩, r, ok, rfl, hke, q11⟩
        have HK := Lib.hid hke
        replace QQ := Lib.hid (QQ.out.trans q11)
        replace B2 := Lib.hid (B2.out.stays q11)
        replace B4 := Lib.hid (B4.out.stays q11)
        replace SR5 := Lib.hid (SR5.out.stays q11)
        clear q11
        clear cK2 hke
        unfold kv
        simp only
        have BK := Lib.hid (Bk.new #[.int .i64 kd, .int .i64 m, .string t] 25 w11)
        have nek : Hid (w11.heap.size ≠ w.heap.size + 1) := Lib.hid (by have := B4.out.lt; omega)
        replace QQ := Lib.hid (QQ.out.trans (Q.alloc w11 (.cells #[.int .i64 kd, .int .i64 m, .string t] 25)))
        replace B2 := Lib.hid (B2.out.stays (Q.alloc w11 (.cells #[.int .i64 kd, .int .i64 m, .string t] 25)))
        replace B4 := Lib.hid (B4.out.stays (Q.alloc w11 (.cells #[.int .i64 kd, .int .i64 m, .string t] 25)))
        replace SR5 := Lib.hid (SR5.out.stays (Q.alloc w11 (.cells #[.int .i64 kd, .int .i64 m, .string t] 25)))
        obtain ⟨w12, hw12⟩ : ∃ W, w11.alloc (.cells #[.int .i64 kd, .int .i64 m, .string t] 25) = W := ⟨_, rfl⟩
        rw [hw12] at BK QQ B2 B4 SR5
        obtain ⟨p11, hp11⟩ : ∃ z, w11.heap.size = z := ⟨_, rfl⟩
        rw [hp11] at BK nek
        cases hid2 : isId NM.data.toList with
        | false =>
          have HN : Hid (full l = none) := Lib.hid (by rw [HR.out, HO.out, if_neg (by rw [hid2]; decide)]; rfl)
          rw [hid2] at cI2
          clear HR HO HK SR5 B4 BK nek
          go_wp2_with fail
          refine (cI2.out _).mono ?_; rintro e w13 ⟨rfl, rfl⟩
          clear cI2
          obtain ⟨a0, a1, a2, a3, a4, a5, a6, a7⟩ := B2.out.cells
          obtain ⟨z0, z1, z2, z3, z4, z5, z6, z7⟩ := B2.out.marks
          have bp := Lib.hid (B2.out.put8 (.slice none 0 0) (.bool false) (.string ⟨#[]⟩) (.string ⟨#[]⟩) (.int .i64 0) (.int .i64 0) (.string ⟨#[]⟩) (.bool false))
          have KP := Lib.hid (QQ.out.put8 (Nat.le_refl _) (.slice none 0 0) (.bool false) (.string ⟨#[]⟩) (.string ⟨#[]⟩) (.int .i64 0) (.int .i64 0) (.string ⟨#[]⟩) (.bool false))
          clear B2 QQ
          go_wp2_with fail
          obtain ⟨y0, y1, y2, y3, y4, y5, y6, y7⟩ := bp.out.cells
          refine bodyPost_ret (by simp [results, Tryz.results41, go_sem, y0, y1, y2, y3, y4, y5, y6, y7]; try rfl) rfl ?_
          exact PlE.no HN.out KP.out
        | true =>
        rw [hid2] at cI2
        replace HO := Lib.hid (HO.out)
        rw [if_pos hid2] at HO
        generalize rdK KR.data.toList = KO at *
        cases KO with
        | none =>
          have : ok = false := HK.out
          subst this
          have HN : Hid (full l = none) := Lib.hid (by rw [HR.out, HO.out]; rfl)
          clear HR HO HK SR5 B4 BK nek
          go_wp2_with fail
          refine (cI2.out _).mono ?_; rintro e w13 ⟨rfl, rfl⟩
          clear cI2
          obtain ⟨a0, a1, a2, a3, a4, a5, a6, a7⟩ := B2.out.cells
          obtain ⟨z0, z1, z2, z3, z4, z5, z6, z7⟩ := B2.out.marks
          have bp := Lib.hid (B2.out.put8 (.slice none 0 0) (.bool false) (.string ⟨#[]⟩) (.string ⟨#[]⟩) (.int .i64 0) (.int .i64 0) (.string ⟨#[]⟩) (.bool false))
          have KP := Lib.hid (QQ.out.put8 (Nat.le_refl _) (.slice none 0 0) (.bool false) (.string ⟨#[]⟩) (.string ⟨#[]⟩) (.int .i64 0) (.int .i64 0) (.string ⟨#[]⟩) (.bool false))
          clear B2 QQ
          go_wp2_with fail
          obtain ⟨y0, y1, y2, y3, y4, y5, y6, y7⟩ := bp.out.cells
          refine bodyPost_ret (by simp [results, Tryz.results41, go_sem, y0, y1, y2, y3, y4, y5, y6, y7]; try rfl) rfl ?_
          exact PlE.no HN.out KP.out
        | some y =>
        obtain ⟨k', r'⟩ := y
        obtain ⟨g1, g2, g3⟩ := HK.out
        subst g1 g2
        clear HK
        cases r' with
        | cons c0 r0 =>
          have hr : r.toList.isEmpty = false := by
            cases hx : r.toList.isEmpty with
            | false => rfl
            | true => rw [(isEmpty_nil r).1 hx] at g3; cases g3
          have HN : Hid (full l = none) := Lib.hid (by rw [HR.out, HO.out]; rfl)
          clear HR HO SR5 B4 BK nek g3
          go_wp2_with fail
          refine (cI2.out _).mono ?_; rintro e w13 ⟨rfl, rfl⟩
          clear cI2
          obtain ⟨a0, a1, a2, a3, a4, a5, a6, a7⟩ := B2.out.cells
          obtain ⟨z0, z1, z2, z3, z4, z5, z6, z7⟩ := B2.out.marks
          have bp := Lib.hid (B2.out.put8 (.slice none 0 0) (.bool false) (.string ⟨#[]⟩) (.string ⟨#[]⟩) (.int .i64 0) (.int .i64 0) (.string ⟨#[]⟩) (.bool false))
          have KP := Lib.hid (QQ.out.put8 (Nat.le_refl _) (.slice none 0 0) (.bool false) (.string ⟨#[]⟩) (.string ⟨#[]⟩) (.int .i64 0) (.int .i64 0) (.string ⟨#[]⟩) (.bool false))
          clear B2 QQ
          go_wp2_with fail
          obtain ⟨y0, y1, y2, y3, y4, y5, y6, y7⟩ := bp.out.cells
          refine bodyPost_ret (by simp [results, Tryz.results41, go_sem, y0, y1, y2, y3, y4, y5, y6, y7]; try rfl) rfl ?_
          exact PlE.no HN.out KP.out
        | nil =>
        have hr : r.toList.isEmpty = true := (isEmpty_nil r).2 g3
        have HN : Hid (full l = some (path, some ⟨true, TY, NM, ⟨kd, m, t⟩⟩)) := Lib.hid (by rw [HR.out, HO.out]; rfl)
        clear HR HO g3
        have ge4 : w.heap.size ≤ w.heap.size + 1 := by omega
        have d2 := B4.out.cells.2.2.1
        have e2 := B4.out.marks.2.2.1
        have QQ1 := Lib.hid (Q.put QQ.out (p := w.heap.size + 1) ge4 2 (.string TY))
        have SR1 := Lib.hid (SR5.out.put B4.out (by decide) 2 (.string TY))
        have B21 := Lib.hid (B2.out.other ne24 2 (.string TY))
        have BK1 := Lib.hid (BK.out.other nek.out 2 (.string TY))
        have B41 := Lib.hid (B4.out.set2 (.string TY))
        clear QQ SR5 B2 BK B4
        obtain ⟨v1, hv1⟩ : ∃ W, w12.setCell ⟨w.heap.size + 1, 2, none⟩ (.string TY) = W := ⟨_, rfl⟩
        rw [hv1] at QQ1 SR1 B21 BK1 B41
        have d3 := B41.out.cells.2.2.2.1
        have e3 := B41.out.marks.2.2.2.1
        have QQ2 := Lib.hid (Q.put QQ1.out (p := w.heap.size + 1) ge4 3 (.string NM))
        have SR2 := Lib.hid (SR1.out.put B41.out (by decide) 3 (.string NM))
        have B22 := Lib.hid (B21.out.other ne24 3 (.string NM))
        have BK2 := Lib.hid (BK1.out.other nek.out 3 (.string NM))
        have B42 := Lib.hid (B41.out.set3 (.string NM))
        clear QQ1 SR1 B21 BK1 B41
        obtain ⟨v2, hv2⟩ : ∃ W, v1.setCell ⟨w.heap.size + 1, 3, none⟩ (.string NM) = W := ⟨_, rfl⟩
        rw [hv2] at QQ2 SR2 B22 BK2 B42
        have d4 := B42.out.cells.2.2.2.2.1
        have e4 := B42.out.marks.2.2.2.2.1
        have d5 := B42.out.cells.2.2.2.2.2.1
        have e5 := B42.out.marks.2.2.2.2.2.1
        have d6 := B42.out.cells.2.2.2.2.2.2.1
        have e6 := B42.out.marks.2.2.2.2.2.2.1
        have k0 := BK2.out.at 0 (.int .i64 kd) rfl
        have k1 := BK2.out.at 1 (.int .i64 m) rfl
        have k2 := BK2.out.at 2 (.string t) rfl
        have b4 := B42.out.set4 (.int .i64 kd)
        have b5 := b4.set5 (.int .i64 m)
        have s4 := SR2.out.put B42.out (by decide) 4 (.int .i64 kd)
        have s5 := s4.put b4 (by decide) 5 (.int .i64 m)
        have QQ5 := Lib.hid (((Q.put QQ2.out (p := w.heap.size + 1) ge4 4 (.int .i64 kd)).put (p := w.heap.size + 1) ge4 5 (.int .i64 m)).put (p := w.heap.size + 1) ge4 6 (.string t))
        have SR6 := Lib.hid (s5.put b5 (by decide) 6 (.string t))
        have B26 := Lib.hid (((B22.out.other ne24 4 (.int .i64 kd)).other ne24 5 (.int .i64 m)).other ne24 6 (.string t))
        have B46 := Lib.hid (b5.set6 (.string t))
        clear b4 b5 s4 s5 QQ2 SR2 B22 BK2 B42
        obtain ⟨v5, hv5⟩ : ∃ W, ((v2.setCell ⟨w.heap.size + 1, 4, none⟩ (.int .i64 kd)).setCell ⟨w.heap.size + 1, 5, none⟩ (.int .i64 m)).setCell ⟨w.heap.size + 1, 6, none⟩ (.string t) = W := ⟨_, rfl⟩
        rw [hv5] at QQ5 SR6 B26 B46
        have d7 := B46.out.cells.2.2.2.2.2.2.2
        have e7 := B46.out.marks.2.2.2.2.2.2.2
        have QQ := Lib.hid (Q.put QQ5.out (p := w.heap.size + 1) ge4 7 (.bool true))
        have SR7 := Lib.hid (SR6.out.put B46.out (by decide) 7 (.bool true))
        have B2 := Lib.hid (B26.out.other ne24 7 (.bool true))
        have B47 := Lib.hid (B46.out.set7 (.bool true))
        clear QQ5 SR6 B26 B46
        obtain ⟨v6, hv6⟩ : ∃ W, v5.setCell ⟨w.heap.size + 1, 7, none⟩ (.bool true) = W := ⟨_, rfl⟩
        rw [hv6] at QQ SR7 B2 B47
        obtain ⟨l0, l1, l2, l3, l4, l5, l6, l7⟩ := B47.out.cells
        have SP := Lib.hid (SR7.out.put8 B2.out (.slice A N c) (.bool true) (.string TY) (.string NM) (.int .i64 kd) (.int .i64 m) (.string t) (.bool true))
        clear SR7 B47 nek ne24 ge4
        go_wp2_with fail
        refine (cI2.out _).mono ?_; rintro e w13 ⟨rfl, rfl⟩
        clear cI2
        obtain ⟨a0, a1, a2, a3, a4, a5, a6, a7⟩ := B2.out.cells
        obtain ⟨z0, z1, z2, z3, z4, z5, z6, z7⟩ := B2.out.marks
        have bp := Lib.hid (B2.out.put8 (.slice A N c) (.bool true) (.string TY) (.string NM) (.int .i64 kd) (.int .i64 m) (.string t) (.bool true))
        have KP := Lib.hid (QQ.out.put8 (Nat.le_refl _) (.slice A N c) (.bool true) (.string TY) (.string NM) (.int .i64 kd) (.int .i64 m) (.string t) (.bool true))
        clear B2 QQ
        go_wp2_with fail
        obtain ⟨y0, y1, y2, y3, y4, y5, y6, y7⟩ := bp.out.cells
        refine bodyPost_ret (by simp [results, Tryz.results41, go_sem, y0, y1, y2, y3, y4, y5, y6, y7]; try rfl) rfl ?_
        exact PlE.whole HN.out SP.out KP.out
      | false =>
        rw [hd] at cD1
        have HR : Hid (full l = (rdR' false S.data.toList).map fun r => (path, some r)) := Lib.hid (by rw [HF2.out, rdR, hd, pre_not _ _ hd])
        have cW1 := Lib.hid (fun w' => cW.out S w' (by have := hS3.out; omega))
        have SR5 := SR
        have hT3 := hS3
        clear HF2 hS3 hd SR cD
        go_wp2_with fail
        refine (cB1.out _).mono ?_; rintro e w3 ⟨rfl, rfl⟩
        go_wp2_with fail
        refine (cD1.out _).mono ?_; rintro e w3 ⟨rfl, rfl⟩
        go_wp2_with fail
        clear cD1 cB1
        obtain ⟨TY, hTY⟩ : ∃ z : ByteArray, (⟨(word S.data.toList).toArray⟩ : ByteArray) = z := ⟨_, rfl⟩
        obtain ⟨RS, hRS⟩ : ∃ z : ByteArray, (⟨(S.data.toList.drop (word S.data.toList).length).toArray⟩ : ByteArray) = z := ⟨_, rfl⟩
        rw [hTY, hRS] at cW1
        have TYd : TY.data.toList = word S.data.toList := by rw [← hTY]
        have RSd : RS.data.toList = S.data.toList.drop (word S.data.toList).length := by rw [← hRS]
        have hwl := word_le S.data.toList
        have hTl : S.data.toList.length = S.size := by simp
        have TYs : TY.size ≤ 3000 := by have := hT3.out; rw [Lib.size_eq, TYd]; omega
        have RSs : RS.size ≤ 3000 := by have := hT3.out; rw [Lib.size_eq, RSd, List.length_drop]; omega
        have HQ := Lib.hid (rdR'_ref false S.data.toList)
        have hdd : S.data.toList.drop ((word S.data.toList).length + 1) = RS.data.toList.drop 1 := by rw [RSd, List.drop_drop]
        rw [← RSd, hdd, ← TYd, ba_mk] at HQ
        generalize rdR' false S.data.toList = RO at *
        have cI1 := Lib.hid (fun w' => cI.out TY w' (by omega))
        have cR1 := Lib.hid (fun w' => cR.out TY w')
        clear hTY hRS TYd RSd hwl hTl hdd hT3
        refine (cW1.out _).mono ?_; rintro e w7 ⟨rfl, q7⟩
        replace QQ := Lib.hid (QQ.out.trans q7)
        replace B2 := Lib.hid (B2.out.stays q7)
        replace B4 := Lib.hid (B4.out.stays q7)
        replace SR5 := Lib.hid (SR5.out.stays q7)
        clear q7
        clear cW1
        cases hid : isId TY.data.toList with
        | false =>
          have HN : Hid (full l = none) := Lib.hid (by rw [HR.out, HQ.out, if_neg (fun x => by have := isTy_id x.1; rw [hid] at this; cases this)]; rfl)
          rw [hid] at cI1
          clear HR HQ SR5 B4 cR1 cK cI cR cW
          go_wp2_with fail
          refine (cI1.out _).mono ?_; rintro e w8 ⟨rfl, rfl⟩
          clear cI1
          obtain ⟨a0, a1, a2, a3, a4, a5, a6, a7⟩ := B2.out.cells
          obtain ⟨z0, z1, z2, z3, z4, z5, z6, z7⟩ := B2.out.marks
          have bp := Lib.hid (B2.out.put8 (.slice none 0 0) (.bool false) (.string ⟨#[]⟩) (.string ⟨#[]⟩) (.int .i64 0) (.int .i64 0) (.string ⟨#[]⟩) (.bool false))
          have KP := Lib.hid (QQ.out.put8 (Nat.le_refl _) (.slice none 0 0) (.bool false) (.string ⟨#[]⟩) (.string ⟨#[]⟩) (.int .i64 0) (.int .i64 0) (.string ⟨#[]⟩) (.bool false))
          clear B2 QQ
          go_wp2_with fail
          obtain ⟨y0, y1, y2, y3, y4, y5, y6, y7⟩ := bp.out.cells
          refine bodyPost_ret (by simp [results, Tryz.results41, go_sem, y0, y1, y2, y3, y4, y5, y6, y7]; try rfl) rfl ?_
          exact PlE.no HN.out KP.out
        | true =>
        rw [hid] at cI1
        cases hrv : words.contains TY.data.toList with
        | true =>
          have HN : Hid (full l = none) := Lib.hid (by rw [HR.out, HQ.out, if_neg (fun x => by have h := ((isTy_iff _).1 x.1).1; rw [List.contains_iff_mem] at hrv; exact h hrv)]; rfl)
          rw [hrv] at cR1
          clear HR HQ cK cI cR cW
          go_wp2_with fail
          refine (cI1.out _).mono ?_; rintro e w8 ⟨rfl, rfl⟩
          go_wp2_with fail
          refine (cR1.out _).mono ?_; rintro e w9 ⟨rfl, q9⟩
          replace QQ := Lib.hid (QQ.out.trans q9)
          replace B2 := Lib.hid (B2.out.stays q9)
          replace B4 := Lib.hid (B4.out.stays q9)
          replace SR5 := Lib.hid (SR5.out.stays q9)
          clear q9
          clear cI1 cR1 SR5 B4
          obtain ⟨a0, a1, a2, a3, a4, a5, a6, a7⟩ := B2.out.cells
          obtain ⟨z0, z1, z2, z3, z4, z5, z6, z7⟩ := B2.out.marks
          have bp := Lib.hid (B2.out.put8 (.slice none 0 0) (.bool false) (.string ⟨#[]⟩) (.string ⟨#[]⟩) (.int .i64 0) (.int .i64 0) (.string ⟨#[]⟩) (.bool false))
          have KP := Lib.hid (QQ.out.put8 (Nat.le_refl _) (.slice none 0 0) (.bool false) (.string ⟨#[]⟩) (.string ⟨#[]⟩) (.int .i64 0) (.int .i64 0) (.string ⟨#[]⟩) (.bool false))
          clear B2 QQ
          go_wp2_with fail
          obtain ⟨y0, y1, y2, y3, y4, y5, y6, y7⟩ := bp.out.cells
          refine bodyPost_ret (by simp [results, Tryz.results41, go_sem, y0, y1, y2, y3, y4, y5, y6, y7]; try rfl) rfl ?_
          exact PlE.no HN.out KP.out
        | false =>
        rw [hrv] at cR1
        have HTY : Hid (isTy TY.data.toList = true) := Lib.hid ((isTy_iff _).2 ⟨(fun h => by rw [← List.contains_iff_mem, hrv] at h; cases h), hid⟩)
        cases hre : RS.toList.isEmpty with
        | true =>
          have HN : Hid (full l = none) := Lib.hid (by rw [HR.out, HQ.out, if_neg (fun x => by have h := x.2; rw [(isEmpty_nil RS).1 hre] at h; cases h)]; rfl)
          clear HR HQ cK cI cR cW
          go_wp2_with fail
          refine (cI1.out _).mono ?_; rintro e w8 ⟨rfl, rfl⟩
          go_wp2_with fail
          refine (cR1.out _).mono ?_; rintro e w9 ⟨rfl, q9⟩
          replace QQ := Lib.hid (QQ.out.trans q9)
          replace B2 := Lib.hid (B2.out.stays q9)
          replace B4 := Lib.hid (B4.out.stays q9)
          replace SR5 := Lib.hid (SR5.out.stays q9)
          clear q9
          clear cI1 cR1 SR5 B4
          obtain ⟨a0, a1, a2, a3, a4, a5, a6, a7⟩ := B2.out.cells
          obtain ⟨z0, z1, z2, z3, z4, z5, z6, z7⟩ := B2.out.marks
          have bp := Lib.hid (B2.out.put8 (.slice none 0 0) (.bool false) (.string ⟨#[]⟩) (.string ⟨#[]⟩) (.int .i64 0) (.int .i64 0) (.string ⟨#[]⟩) (.bool false))
          have KP := Lib.hid (QQ.out.put8 (Nat.le_refl _) (.slice none 0 0) (.bool false) (.string ⟨#[]⟩) (.string ⟨#[]⟩) (.int .i64 0) (.int .i64 0) (.string ⟨#[]⟩) (.bool false))
          clear B2 QQ
          go_wp2_with fail
          obtain ⟨y0, y1, y2, y3, y4, y5, y6, y7⟩ := bp.out.cells
          refine bodyPost_ret (by simp [results, Tryz.results41, go_sem, y0, y1, y2, y3, y4, y5, y6, y7]; try rfl) rfl ?_
          exact PlE.no HN.out KP.out
        | false =>
        have hrp : 0 < RS.size := by
          rcases Nat.eq_zero_or_pos RS.size with h | h
          · rw [Lib.size_eq] at h
            rw [(isEmpty_nil RS).2 (List.eq_nil_of_length_eq_zero h)] at hre
            cases hre
          · exact h
        have hdr : RS.data.toList = RS[0] :: RS.data.toList.drop 1 := drop_at RS 0 hrp
        cases h46 : (RS[0] == 46) with
        | false =>
          have hb : ((RS[0].toNat : Int) != 46) = true := bne_byte _ _ _ h46
          have HN : Hid (full l = none) := Lib.hid (by rw [HR.out, HQ.out, if_neg (fun x => by have h := x.2; rw [hdr, List.head?_cons, Option.some.injEq] at h; rw [h] at h46; exact absurd h46 (by decide))]; rfl)
          clear HR HQ cK cI cR cW hdr h46
          go_wp2_with fail
          refine (cI1.out _).mono ?_; rintro e w8 ⟨rfl, rfl⟩
          go_wp2_with fail
          refine (cR1.out _).mono ?_; rintro e w9 ⟨rfl, q9⟩
          replace QQ := Lib.hid (QQ.out.trans q9)
          replace B2 := Lib.hid (B2.out.stays q9)
          replace B4 := Lib.hid (B4.out.stays q9)
          replace SR5 := Lib.hid (SR5.out.stays q9)
          clear q9
          clear cI1 cR1 SR5 B4
          obtain ⟨a0, a1, a2, a3, a4, a5, a6, a7⟩ := B2.out.cells
          obtain ⟨z0, z1, z2, z3, z4, z5, z6, z7⟩ := B2.out.marks
          have bp := Lib.hid (B2.out.put8 (.slice none 0 0) (.bool false) (.string ⟨#[]⟩) (.string ⟨#[]⟩) (.int .i64 0) (.int .i64 0) (.string ⟨#[]⟩) (.bool false))
          have KP := Lib.hid (QQ.out.put8 (Nat.le_refl _) (.slice none 0 0) (.bool false) (.string ⟨#[]⟩) (.string ⟨#[]⟩) (.int .i64 0) (.int .i64 0) (.string ⟨#[]⟩) (.bool false))
          clear B2 QQ
          go_wp2_with fail
          obtain ⟨y0, y1, y2, y3, y4, y5, y6, y7⟩ := bp.out.cells
          refine bodyPost_ret (by simp [results, Tryz.results41, go_sem, y0, y1, y2, y3, y4, y5, y6, y7]; try rfl) rfl ?_
          exact PlE.no HN.out KP.out
        | true =>
        have hb : ((RS[0].toNat : Int) != 46) = false := bne_byte _ _ _ h46
        obtain ⟨X, hX⟩ : ∃ z, RS.extract 1 RS.size = z := ⟨_, rfl⟩
        have hXd : X.data.toList = RS.data.toList.drop 1 := by rw [← hX, ext_to]
        have hXs : X.size ≤ 3000 := by rw [Lib.size_eq, hXd, List.length_drop, show RS.data.toList.length = RS.size by simp]; omega
        have hr1 : (1 : Int) ≤ (RS.size : Int) := by omega
        have hh : RS.data.toList.head? = some 46 := by rw [hdr, beq_iff_eq.1 h46]; rfl
        have HO := Lib.hid (HQ.out.trans (if_pos ⟨HTY.out, hh⟩))
        rw [← hXd] at HO
        have cW2 := Lib.hid (fun w' => cW.out X w' (by omega))
        obtain ⟨NM, hNM⟩ : ∃ z : ByteArray, (⟨(word X.data.toList).toArray⟩ : ByteArray) = z := ⟨_, rfl⟩
        obtain ⟨KR, hKR⟩ : ∃ z : ByteArray, (⟨(X.data.toList.drop (word X.data.toList).length).toArray⟩ : ByteArray) = z := ⟨_, rfl⟩
        rw [hNM, hKR] at cW2
        have NMd : NM.data.toList = word X.data.toList := by rw [← hNM]
        have KRd : KR.data.toList = X.data.toList.drop (word X.data.toList).length := by rw [← hKR]
        have hwl := word_le X.data.toList
        have hXl : X.data.toList.length = X.size := by simp
        have NMs : NM.size ≤ 3000 := by rw [Lib.size_eq, NMd]; omega
        have KRs : KR.size ≤ 3000 := by rw [Lib.size_eq, KRd, List.length_drop]; omega
        have hnmO : rdNm X.data.toList = if isId NM.data.toList = true then (rdK KR.data.toList).map fun x => (⟨NM, x.1⟩, x.2) else none := by
          unfold rdNm
          rw [← KRd, ← NMd, ba_mk]
        rw [hnmO] at HO
        have cI2 := Lib.hid (fun w' => cI.out NM w' (by omega))
        have cK2 := Lib.hid (fun w' => cK.out KR w' KRs)
        clear HQ HTY hdr h46 hXd hh hNM hKR NMd KRd hwl hXl hnmO cW cI cK cR TYs RSs NMs KRs hXs
        go_wp2_with fail
        refine (cI1.out _).mono ?_; rintro e w8 ⟨rfl, rfl⟩
        go_wp2_with fail
        refine (cR1.out _).mono ?_; rintro e w9 ⟨rfl, q9⟩
        replace QQ := Lib.hid (QQ.out.trans q9)
        replace B2 := Lib.hid (B2.out.stays q9)
        replace B4 := Lib.hid (B4.out.stays q9)
        replace SR5 := Lib.hid (SR5.out.stays q9)
        clear q9
        clear cI1 cR1
        go_wp2_with fail
        refine (cW2.out _).mono ?_; rintro e w10 ⟨rfl, q10⟩
        replace QQ := Lib.hid (QQ.out.trans q10)
        replace B2 := Lib.hid (B2.out.stays q10)
        replace B4 := Lib.hid (B4.out.stays q10)
        replace SR5 := Lib.hid (SR5.out.stays q10)
        clear q10
        clear cW2
        go_wp2_with fail
        refine (cK2.out _).mono ?_; rintro e w11 ⟨⟨kd, m, t⟩, r, ok, rfl, hke, q11⟩
        have HK := Lib.hid hke
        replace QQ := Lib.hid (QQ.out.trans q11)
        replace B2 := Lib.hid (B2.out.stays q11)
        replace B4 := Lib.hid (B4.out.stays q11)
        replace SR5 := Lib.hid (SR5.out.stays q11)
        clear q11
        clear cK2 hke
        unfold kv
        simp only
        have BK := Lib.hid (Bk.new #[.int .i64 kd, .int .i64 m, .string t] 25 w11)
        have nek : Hid (w11.heap.size ≠ w.heap.size + 1) := Lib.hid (by have := B4.out.lt; omega)
        replace QQ := Lib.hid (QQ.out.trans (Q.alloc w11 (.cells #[.int .i64 kd, .int .i64 m, .string t] 25)))
        replace B2 := Lib.hid (B2.out.stays (Q.alloc w11 (.cells #[.int .i64 kd, .int .i64 m, .string t] 25)))
        replace B4 := Lib.hid (B4.out.stays (Q.alloc w11 (.cells #[.int .i64 kd, .int .i64 m, .string t] 25)))
        replace SR5 := Lib.hid (SR5.out.stays (Q.alloc w11 (.cells #[.int .i64 kd, .int .i64 m, .string t] 25)))
        obtain ⟨w12, hw12⟩ : ∃ W, w11.alloc (.cells #[.int .i64 kd, .int .i64 m, .string t] 25) = W := ⟨_, rfl⟩
        rw [hw12] at BK QQ B2 B4 SR5
        obtain ⟨p11, hp11⟩ : ∃ z, w11.heap.size = z := ⟨_, rfl⟩
        rw [hp11] at BK nek
        cases hid2 : isId NM.data.toList with
        | false =>
          have HN : Hid (full l = none) := Lib.hid (by rw [HR.out, HO.out, if_neg (by rw [hid2]; decide)]; rfl)
          rw [hid2] at cI2
          clear HR HO HK SR5 B4 BK nek
          go_wp2_with fail
          refine (cI2.out _).mono ?_; rintro e w13 ⟨rfl, rfl⟩
          clear cI2
          obtain ⟨a0, a1, a2, a3, a4, a5, a6, a7⟩ := B2.out.cells
          obtain ⟨z0, z1, z2, z3, z4, z5, z6, z7⟩ := B2.out.marks
          have bp := Lib.hid (B2.out.put8 (.slice none 0 0) (.bool false) (.string ⟨#[]⟩) (.string ⟨#[]⟩) (.int .i64 0) (.int .i64 0) (.string ⟨#[]⟩) (.bool false))
          have KP := Lib.hid (QQ.out.put8 (Nat.le_refl _) (.slice none 0 0) (.bool false) (.string ⟨#[]⟩) (.string ⟨#[]⟩) (.int .i64 0) (.int .i64 0) (.string ⟨#[]⟩) (.bool false))
          clear B2 QQ
          go_wp2_with fail
          obtain ⟨y0, y1, y2, y3, y4, y5, y6, y7⟩ := bp.out.cells
          refine bodyPost_ret (by simp [results, Tryz.results41, go_sem, y0, y1, y2, y3, y4, y5, y6, y7]; try rfl) rfl ?_
          exact PlE.no HN.out KP.out
        | true =>
        rw [hid2] at cI2
        replace HO := Lib.hid (HO.out)
        rw [if_pos hid2] at HO
        generalize rdK KR.data.toList = KO at *
        cases KO with
        | none =>
          have : ok = false := HK.out
          subst this
          have HN : Hid (full l = none) := Lib.hid (by rw [HR.out, HO.out]; rfl)
          clear HR HO HK SR5 B4 BK nek
          go_wp2_with fail
          refine (cI2.out _).mono ?_; rintro e w13 ⟨rfl, rfl⟩
          clear cI2
          obtain ⟨a0, a1, a2, a3, a4, a5, a6, a7⟩ := B2.out.cells
          obtain ⟨z0, z1, z2, z3, z4, z5, z6, z7⟩ := B2.out.marks
          have bp := Lib.hid (B2.out.put8 (.slice none 0 0) (.bool false) (.string ⟨#[]⟩) (.string ⟨#[]⟩) (.int .i64 0) (.int .i64 0) (.string ⟨#[]⟩) (.bool false))
          have KP := Lib.hid (QQ.out.put8 (Nat.le_refl _) (.slice none 0 0) (.bool false) (.string ⟨#[]⟩) (.string ⟨#[]⟩) (.int .i64 0) (.int .i64 0) (.string ⟨#[]⟩) (.bool false))
          clear B2 QQ
          go_wp2_with fail
          obtain ⟨y0, y1, y2, y3, y4, y5, y6, y7⟩ := bp.out.cells
          refine bodyPost_ret (by simp [results, Tryz.results41, go_sem, y0, y1, y2, y3, y4, y5, y6, y7]; try rfl) rfl ?_
          exact PlE.no HN.out KP.out
        | some y =>
        obtain ⟨k', r'⟩ := y
        obtain ⟨g1, g2, g3⟩ := HK.out
        subst g1 g2
        clear HK
        cases r' with
        | cons c0 r0 =>
          have hr : r.toList.isEmpty = false := by
            cases hx : r.toList.isEmpty with
            | false => rfl
            | true => rw [(isEmpty_nil r).1 hx] at g3; cases g3
          have HN : Hid (full l = none) := Lib.hid (by rw [HR.out, HO.out]; rfl)
          clear HR HO SR5 B4 BK nek g3
          go_wp2_with fail
          refine (cI2.out _).mono ?_; rintro e w13 ⟨rfl, rfl⟩
          clear cI2
          obtain ⟨a0, a1, a2, a3, a4, a5, a6, a7⟩ := B2.out.cells
          obtain ⟨z0, z1, z2, z3, z4, z5, z6, z7⟩ := B2.out.marks
          have bp := Lib.hid (B2.out.put8 (.slice none 0 0) (.bool false) (.string ⟨#[]⟩) (.string ⟨#[]⟩) (.int .i64 0) (.int .i64 0) (.string ⟨#[]⟩) (.bool false))
          have KP := Lib.hid (QQ.out.put8 (Nat.le_refl _) (.slice none 0 0) (.bool false) (.string ⟨#[]⟩) (.string ⟨#[]⟩) (.int .i64 0) (.int .i64 0) (.string ⟨#[]⟩) (.bool false))
          clear B2 QQ
          go_wp2_with fail
          obtain ⟨y0, y1, y2, y3, y4, y5, y6, y7⟩ := bp.out.cells
          refine bodyPost_ret (by simp [results, Tryz.results41, go_sem, y0, y1, y2, y3, y4, y5, y6, y7]; try rfl) rfl ?_
          exact PlE.no HN.out KP.out
        | nil =>
        have hr : r.toList.isEmpty = true := (isEmpty_nil r).2 g3
        have HN : Hid (full l = some (path, some ⟨false, TY, NM, ⟨kd, m, t⟩⟩)) := Lib.hid (by rw [HR.out, HO.out]; rfl)
        clear HR HO g3
        have ge4 : w.heap.size ≤ w.heap.size + 1 := by omega
        have d2 := B4.out.cells.2.2.1
        have e2 := B4.out.marks.2.2.1
        have QQ1 := Lib.hid (Q.put QQ.out (p := w.heap.size + 1) ge4 2 (.string TY))
        have SR1 := Lib.hid (SR5.out.put B4.out (by decide) 2 (.string TY))
        have B21 := Lib.hid (B2.out.other ne24 2 (.string TY))
        have BK1 := Lib.hid (BK.out.other nek.out 2 (.string TY))
        have B41 := Lib.hid (B4.out.set2 (.string TY))
        clear QQ SR5 B2 BK B4
        obtain ⟨v1, hv1⟩ : ∃ W, w12.setCell ⟨w.heap.size + 1, 2, none⟩ (.string TY) = W := ⟨_, rfl⟩
        rw [hv1] at QQ1 SR1 B21 BK1 B41
        have d3 := B41.out.cells.2.2.2.1
        have e3 := B41.out.marks.2.2.2.1
        have QQ2 := Lib.hid (Q.put QQ1.out (p := w.heap.size + 1) ge4 3 (.string NM))
        have SR2 := Lib.hid (SR1.out.put B41.out (by decide) 3 (.string NM))
        have B22 := Lib.hid (B21.out.other ne24 3 (.string NM))
        have BK2 := Lib.hid (BK1.out.other nek.out 3 (.string NM))
        have B42 := Lib.hid (B41.out.set3 (.string NM))
        clear QQ1 SR1 B21 BK1 B41
        obtain ⟨v2, hv2⟩ : ∃ W, v1.setCell ⟨w.heap.size + 1, 3, none⟩ (.string NM) = W := ⟨_, rfl⟩
        rw [hv2] at QQ2 SR2 B22 BK2 B42
        have d4 := B42.out.cells.2.2.2.2.1
        have e4 := B42.out.marks.2.2.2.2.1
        have d5 := B42.out.cells.2.2.2.2.2.1
        have e5 := B42.out.marks.2.2.2.2.2.1
        have d6 := B42.out.cells.2.2.2.2.2.2.1
        have e6 := B42.out.marks.2.2.2.2.2.2.1
        have k0 := BK2.out.at 0 (.int .i64 kd) rfl
        have k1 := BK2.out.at 1 (.int .i64 m) rfl
        have k2 := BK2.out.at 2 (.string t) rfl
        have b4 := B42.out.set4 (.int .i64 kd)
        have b5 := b4.set5 (.int .i64 m)
        have s4 := SR2.out.put B42.out (by decide) 4 (.int .i64 kd)
        have s5 := s4.put b4 (by decide) 5 (.int .i64 m)
        have QQ5 := Lib.hid (((Q.put QQ2.out (p := w.heap.size + 1) ge4 4 (.int .i64 kd)).put (p := w.heap.size + 1) ge4 5 (.int .i64 m)).put (p := w.heap.size + 1) ge4 6 (.string t))
        have SR6 := Lib.hid (s5.put b5 (by decide) 6 (.string t))
        have B26 := Lib.hid (((B22.out.other ne24 4 (.int .i64 kd)).other ne24 5 (.int .i64 m)).other ne24 6 (.string t))
        have B46 := Lib.hid (b5.set6 (.string t))
        clear b4 b5 s4 s5 QQ2 SR2 B22 BK2 B42
        obtain ⟨v5, hv5⟩ : ∃ W, ((v2.setCell ⟨w.heap.size + 1, 4, none⟩ (.int .i64 kd)).setCell ⟨w.heap.size + 1, 5, none⟩ (.int .i64 m)).setCell ⟨w.heap.size + 1, 6, none⟩ (.string t) = W := ⟨_, rfl⟩
        rw [hv5] at QQ5 SR6 B26 B46
        have d7 := B46.out.cells.2.2.2.2.2.2.2
        have e7 := B46.out.marks.2.2.2.2.2.2.2
        have QQ := Lib.hid (Q.put QQ5.out (p := w.heap.size + 1) ge4 7 (.bool true))
        have SR7 := Lib.hid (SR6.out.put B46.out (by decide) 7 (.bool true))
        have B2 := Lib.hid (B26.out.other ne24 7 (.bool true))
        have B47 := Lib.hid (B46.out.set7 (.bool true))
        clear QQ5 SR6 B26 B46
        obtain ⟨v6, hv6⟩ : ∃ W, v5.setCell ⟨w.heap.size + 1, 7, none⟩ (.bool true) = W := ⟨_, rfl⟩
        rw [hv6] at QQ SR7 B2 B47
        obtain ⟨l0, l1, l2, l3, l4, l5, l6, l7⟩ := B47.out.cells
        have SP := Lib.hid (SR7.out.put8 B2.out (.slice A N c) (.bool false) (.string TY) (.string NM) (.int .i64 kd) (.int .i64 m) (.string t) (.bool true))
        clear SR7 B47 nek ne24 ge4
        go_wp2_with fail
        refine (cI2.out _).mono ?_; rintro e w13 ⟨rfl, rfl⟩
        clear cI2
        obtain ⟨a0, a1, a2, a3, a4, a5, a6, a7⟩ := B2.out.cells
        obtain ⟨z0, z1, z2, z3, z4, z5, z6, z7⟩ := B2.out.marks
        have bp := Lib.hid (B2.out.put8 (.slice A N c) (.bool false) (.string TY) (.string NM) (.int .i64 kd) (.int .i64 m) (.string t) (.bool true))
        have KP := Lib.hid (QQ.out.put8 (Nat.le_refl _) (.slice A N c) (.bool false) (.string TY) (.string NM) (.int .i64 kd) (.int .i64 m) (.string t) (.bool true))
        clear B2 QQ
        go_wp2_with fail
        obtain ⟨y0, y1, y2, y3, y4, y5, y6, y7⟩ := bp.out.cells
        refine bodyPost_ret (by simp [results, Tryz.results41, go_sem, y0, y1, y2, y3, y4, y5, y6, y7]; try rfl) rfl ?_
        exact PlE.whole HN.out SP.out KP.out

end Go.Proofs.YthekabflbpfjoaaGreatDoor.adr
