/- Format: the text of an address. -/
import Derived.Test.YthekabflbpfjoaaGreatDoorAvcm
namespace Go.Proofs.YthekabflbpfjoaaGreatDoor.adr
open Go.RowKit
open Go.Proofs.YthekabflbpfjoaaGreatDoor

theorem strCells_bytes (s : ByteArray) : Lib.strCells s = Lib.byteCells s.data.toList := by
  unfold Lib.strCells Lib.byteCells
  simp
theorem BuilderAt.stays {T e : TypeId} {B b : Nat} {p : Value} {bs : List Value} {w w' : World} (h : Lib.BuilderAt T e B b p bs w) (q : Q w w') : Lib.BuilderAt T e B b p bs w' := by
  obtain ⟨hB, v, hb, hown, hne⟩ := h
  refine ⟨hB, v, (q.block b (heap_lt hb)).trans hb, ?_, hne⟩
  exact hown.kept (row := none) ⟨q.os, q.tape, q.output, q.size, fun k hk _ => q.block k hk⟩ (by cases v.ownBlock <;> simp)
/-- Block b is a builder that holds these bytes. -/
def Bi (B b : Nat) (l : List UInt8) (w : World) : Prop := Lib.IsBuilder 51 5 B b (Lib.byteCells l) w
theorem Bi.stays {B b : Nat} {l : List UInt8} {w w' : World} (h : Bi B b l w) (q : Q w w') : Bi B b l w' := by
  rcases h with h | h
  · exact .inl (BuilderAt.stays h q)
  · exact .inr (BuilderAt.stays h q)
theorem Bi.new (w : World) : Bi w.heap.size w.heap.size [] (w.alloc (.cells #[.pointer none, .slice none 0 0] 51)) := Lib.fresh_isBuilder _ _ w

theorem writes_any (B b : Nat) (l : List UInt8) (s : ByteArray) (w : World) (h : Bi B b l w) (hlen : l.length + s.size ≤ 140737488355328) (hBw : B ≤ w.heap.size) :
    Calls Tryz.prog 31 #[.pointer (some ⟨b, 0, none⟩), .string s] w fun e w' => e = .returned (.tuple #[.int .i64 s.size, .nilIface]) ∧ (Bi B b (l ++ s.data.toList) w' ∧ Below B w w' ∧ ∀ (k : Nat) (cs : Array Value) (t : TypeId) (fr : Nat × Nat), t ≠ 5 → k ≠ b → w.heap[k]? = some (.cells cs t fr) → w'.heap[k]? = w.heap[k]?) := by
  refine (writeString_any B b _ s w h (by rw [Lib.byteCells_length]; exact hlen) hBw).mono ?_
  rintro e w' ⟨he, hb, hr⟩
  refine ⟨he, .inr ?_, hr⟩
  rw [Lib.strCells_eq, ← lit.byteCells_app] at hb
  exact hb
/-- The builder beside a block of another type; what came in is as it was. -/
def Sq (B b : Nat) (l : List UInt8) (p : Nat) (cs : Array Value) (t : TypeId) (w w' : World) : Prop := Bi B b l w' ∧ Bk p cs t w' ∧ Below B w w' ∧ B ≤ w'.heap.size
theorem Sq.stays {B b : Nat} {l : List UInt8} {p : Nat} {cs : Array Value} {t : TypeId} {w w' w2 : World} (h : Sq B b l p cs t w w') (q : Q w' w2) : Sq B b l p cs t w w2 :=
  ⟨h.1.stays q, h.2.1.stays q, Below.trans h.2.2.1 (Below.mono q h.2.2.2), Nat.le_trans h.2.2.2 q.size⟩
theorem Sq.write {B b : Nat} {l : List UInt8} {p : Nat} {cs : Array Value} {t : TypeId} {w w' : World} (s : ByteArray) (h : Sq B b l p cs t w w') (ht : t ≠ 5) (hp : p ≠ b) (hlen : l.length + s.size ≤ 140737488355328) :
    Calls Tryz.prog 31 #[.pointer (some ⟨b, 0, none⟩), .string s] w' fun e w2 => e = .returned (.tuple #[.int .i64 s.size, .nilIface]) ∧ Sq B b (l ++ s.data.toList) p cs t w w2 := by
  refine (writes_any B b l s w' h.1 hlen h.2.2.2).mono ?_
  rintro e w2 ⟨he, h1, h2, h3⟩
  exact ⟨he, h1, (h3 p cs t _ ht hp h.2.1).trans h.2.1, Below.trans h.2.2.1 h2, Nat.le_trans h.2.2.2 h2.size⟩

theorem Sq.four {B b : Nat} {l : List UInt8} {p : Nat} {sn : ByteArray} {skd sm : Int} {st : ByteArray} {t : TypeId} {w w' : World} (h : Sq B b l p #[.string sn, .int .i64 skd, .int .i64 sm, .string st] t w w') :
    w'.cell? ⟨p, 0, none⟩ = some (.string sn) ∧ w'.cell? ⟨p, 1, none⟩ = some (.int .i64 skd) ∧ w'.cell? ⟨p, 2, none⟩ = some (.int .i64 sm) ∧ w'.cell? ⟨p, 3, none⟩ = some (.string st) :=
  ⟨h.2.1.at 0 _ rfl, h.2.1.at 1 _ rfl, h.2.1.at 2 _ rfl, h.2.1.at 3 _ rfl⟩
theorem Sq.five {B b : Nat} {l : List UInt8} {p : Nat} {A : Option Addr} {n c : Nat} {d : Bool} {ty nm : ByteArray} {kd m : Int} {st : ByteArray} {t : TypeId} {w w' : World} (h : Sq B b l p #[.slice A n c, .bool d, .string ty, .string nm, .int .i64 kd, .int .i64 m, .string st] t w w') :
    w'.cell? ⟨p, 2, none⟩ = some (.string ty) ∧ w'.cell? ⟨p, 3, none⟩ = some (.string nm) ∧ w'.cell? ⟨p, 4, none⟩ = some (.int .i64 kd) ∧ w'.cell? ⟨p, 5, none⟩ = some (.int .i64 m) ∧ w'.cell? ⟨p, 6, none⟩ = some (.string st) :=
  ⟨h.2.1.at 2 _ rfl, h.2.1.at 3 _ rfl, h.2.1.at 4 _ rfl, h.2.1.at 5 _ rfl, h.2.1.at 6 _ rfl⟩
theorem tSs_snoc : ∀ (a : List St) (s : St), tSs (a ++ [s]) = tSs a ++ (tS s ++ [46])
  | [], s => rfl
  | x :: a, s => by
    show tS x ++ (46 :: tSs (a ++ [s])) = (tS x ++ (46 :: tSs a)) ++ _
    rw [tSs_snoc a s]
    simp [List.append_assoc]
theorem tS_len {s : St} (h : chkN s.name s.key = 0) : (tS s).length ≤ 25071 := by
  obtain ⟨h1, _⟩ := chkN_ok h
  have h2 := ((isId_iff _).1 h1).2.1
  have h3 := fK_len s.key
  unfold tS
  rw [List.length_append, List.length_append]
  have : modB.length = 7 := rfl
  omega
theorem tSs_len : ∀ (ms : List St), chkS ms = 0 → (tSs ms).length ≤ 25072 * ms.length
  | [], _ => Nat.le_refl _
  | s :: t, h => by
    obtain ⟨h1, h2⟩ := (chkS_cons s t).1 h
    have := tS_len h1
    have := tSs_len t h2
    show (tS s ++ (46 :: tSs t)).length ≤ _
    rw [List.length_append, List.length_cons, List.length_cons]
    omega

theorem chkS_take : ∀ (ms : List St) (k : Nat), chkS ms = 0 → chkS (ms.take k) = 0
  | [], k, _ => by simp [chkS]
  | s :: t, 0, _ => rfl
  | s :: t, k + 1, h => by
    obtain ⟨h1, h2⟩ := (chkS_cons s t).1 h
    exact (chkS_cons s (t.take k)).2 ⟨h1, chkS_take t k h2⟩
set_option maxHeartbeats 4000000 in
theorem format_no (A : Option Addr) (n c : Nat) (r : Rs) (E : Int) (w : World) (hE : (E != 0) = true)
  (cC : Hid (∀ w', Q w w' → Calls Tryz.prog 9 #[.agg #[.slice A n c, .bool r.data, .string r.type, .string r.name, .int .i64 r.key.kind, .int .i64 r.key.num, .string r.key.str]] w' fun e w'' => e = .returned (.int .i64 E) ∧ Q w' w'')) :
    Calls Tryz.prog 11 #[rv (.slice A n c) r] w fun e w' => e = .returned (.string ⟨#[]⟩) ∧ Q w w' := by
  obtain ⟨d, ty, nm, ⟨kd, m, t⟩⟩ := r
  unfold rv
  simp only at cC ⊢
  go_enter Tryz.func11, Tryz.ntmps11
  go_wp2_with fail
  refine (cC.out _ (Q.alloc _ _)).mono ?_; rintro e w1 ⟨rfl, q1⟩
  have Q1 := Lib.hid ((Q.alloc w _).trans q1)
  clear q1
  go_wp2_with fail
  go_ret
  exact ⟨rfl, Q1.out⟩

set_option maxHeartbeats 16000000 in
theorem format_yes (A : Option Addr) (n c : Nat) (ms : List St) (r : Rs) (w : World) (hn : n = ms.length) (hI : In A ms w) (hs : chkS ms = 0) (hr : chkR r = 0) (h16 : ms.length ≤ 16)
  (cC : Hid (∀ w', Q w w' → Calls Tryz.prog 9 #[.agg #[.slice A n c, .bool r.data, .string r.type, .string r.name, .int .i64 r.key.kind, .int .i64 r.key.num, .string r.key.str]] w' fun e w'' => e = .returned (.int .i64 0) ∧ Q w' w''))
  (cF : Hid (∀ k w', Q w w' → Kb k → Calls Tryz.prog 13 #[.agg #[.int .i64 k.kind, .int .i64 k.num, .string k.str]] w' fun e w'' => e = .returned (.string ⟨(fK k).toArray⟩) ∧ Q w' w'')) :
    Calls Tryz.prog 11 #[rv (.slice A n c) r] w fun e w' => e = .returned (.string ⟨(tSs ms ++ tR r).toArray⟩) ∧ Q w w' := by
  obtain ⟨d, ty, nm, ⟨kd, m, t⟩⟩ := r
  unfold rv
  simp only at cC ⊢
  have HN := Lib.hid hn
  have HI := Lib.hid hI
  have H16 := Lib.hid h16
  have HS := Lib.hid hs
  have HR := Lib.hid hr
  have n16 : (n : Int) ≤ 16 := by omega
  clear hn hI h16 hs hr
  obtain ⟨ANS, hANS⟩ : ∃ x, tSs ms ++ tR ⟨d, ty, nm, ⟨kd, m, t⟩⟩ = x := ⟨_, rfl⟩
  rw [hANS]
  have HA : Hid (tSs ms ++ ((if d then dataB else []) ++ (ty.data.toList ++ (46 :: (nm.data.toList ++ fK ⟨kd, m, t⟩)))) = ANS) := Lib.hid hANS
  clear hANS
  go_enter Tryz.func11, Tryz.ntmps11
  go_wp2_with fail
  refine (cC.out _ (Q.alloc _ _)).mono ?_; rintro e w1 ⟨rfl, q1⟩
  have BB := Lib.hid ((Bk.new #[.slice A n c, .bool d, .string ty, .string nm, .int .i64 kd, .int .i64 m, .string t] 27 w).stays q1)
  have Q1 := Lib.hid ((Q.alloc w _).trans q1)
  clear q1 cC
  have l0 := (BB.out.stays (Q.alloc w1 (.cells #[.pointer none, .slice none 0 0] 51))).at 0 (.slice A n c) rfl
  have hb1 : Hid (w.heap.size + 1 ≤ w1.heap.size) := Lib.hid (by have := BB.out.lt; omega)
  go_wp2_with fail
  have LL : Hid (Bi w1.heap.size w1.heap.size (tSs (ms.take 0)) (w1.alloc (.cells #[.pointer none, .slice none 0 0] 51)) ∧ w1.heap.size ≤ (w1.alloc (.cells #[.pointer none, .slice none 0 0] 51)).heap.size) := Lib.hid ⟨Bi.new w1, (Q.alloc w1 _).size⟩
  have B2 : Hid (Bk w.heap.size #[.slice A n c, .bool d, .string ty, .string nm, .int .i64 kd, .int .i64 m, .string t] 27 (w1.alloc (.cells #[.pointer none, .slice none 0 0] 51))) := Lib.hid (BB.out.stays (Q.alloc _ _))
  have Q2 := Lib.hid (Q1.out.trans (Q.alloc w1 (.cells #[.pointer none, .slice none 0 0] 51)))
  generalize w1.alloc (.cells #[.pointer none, .slice none 0 0] 51) = w2 at *
  generalize w1.heap.size = b at *
  clear BB Q1 l0
  go_loopw [12] (fun i wr => ∃ k : Nat, k ≤ n ∧ i = .int .i64 k ∧ Hid (Bi b b (tSs (ms.take k)) wr ∧ Below b w2 wr ∧ b ≤ wr.heap.size)) (fun i _ => n - (intOf i).toNat)
  case atStart => exact ⟨0, Nat.zero_le _, rfl, Lib.hid ⟨LL.out.1, Below.refl _ _, LL.out.2⟩⟩
  case round =>
    clear LL
    obtain ⟨k, hk, rfl, LL⟩ := hrel
    have Qr : Hid (Q w wr) := Lib.hid (Below.trans Q2.out (Below.mono LL.out.2.1 (by have := hb1.out; omega)))
    have hlen := tSs_len (ms.take k) (chkS_take ms k HS.out)
    rw [List.length_take, ← HN.out] at hlen
    by_cases hlt : k < n
    · have hlt2 : k < ms.length := by rw [← HN.out]; exact hlt
      have hne : ms ≠ [] := by intro e; rw [e] at hlt2; cases hlt2
      obtain ⟨b0, o, rfl, hbb, hcc⟩ := HI.out hne
      obtain ⟨b', o', e', _, hcc'⟩ := (HI.out.stays Qr.out) hne
      simp only [Option.some.injEq, Addr.mk.injEq, and_true] at e'
      obtain ⟨rfl, rfl⟩ := e'
      obtain ⟨g0, g1, g2, g3⟩ := hcc' k hlt2
      have hsn : tSs (ms.take (k + 1)) = tSs (ms.take k) ++ (tS ms[k] ++ [46]) := by
        rw [List.take_succ_eq_append_getElem hlt2, tSs_snoc]
      have hck := chkS_mem ms HS.out _ (List.getElem_mem hlt2)
      have hsl := tS_len hck
      obtain ⟨hid, hok⟩ := chkN_ok hck
      have hns := id_size hid
      have hkb := okK_Kb hok
      have hfl := fK_len ms[k].key
      have htS : tS ms[k] = modB ++ (ms[k].name.data.toList ++ fK ms[k].key) := rfl
      clear hbb hcc hcc' hne hck hid hok
      generalize tS ms[k] = TS at *
      generalize hsk : ms[k].key = sk at *
      clear hsk
      generalize ms[k].name = sn at *
      obtain ⟨skd, sm, st⟩ := sk
      simp only at g1 g2 g3
      have cK := Lib.hid (fun w' q => cF.out ⟨skd, sm, st⟩ w' q hkb)
      simp only at cK
      generalize fK ⟨skd, sm, st⟩ = FK at *
      have hFK : (⟨FK.toArray⟩ : ByteArray).size ≤ 25000 := by rw [ba_size]; exact hfl
      have hFL : (⟨FK.toArray⟩ : ByteArray).data.toList = FK := ba_list FK
      generalize (⟨FK.toArray⟩ : ByteArray) = FB at *
      have hTX : (((⟨#[109, 111, 100, 117, 108, 101, 46]⟩ ++ sn) ++ FB) ++ ⟨#[46]⟩ : ByteArray).data.toList = TS ++ [46] := by
        rw [ba_app, ba_app, ba_app, hFL, htS]
        simp [modB, List.append_assoc]
      have hTL : (((⟨#[109, 111, 100, 117, 108, 101, 46]⟩ ++ sn) ++ FB) ++ ⟨#[46]⟩ : ByteArray).size ≤ 25072 := by
        rw [Lib.size_eq, hTX, List.length_append, List.length_singleton]
        omega
      have S0 : Hid (Sq b b (tSs (ms.take k)) wr.heap.size #[.string sn, .int .i64 skd, .int .i64 sm, .string st] 44 w2 (wr.alloc (.cells #[.string sn, .int .i64 skd, .int .i64 sm, .string st] 44)).drew) := Lib.hid (Sq.stays ⟨LL.out.1.stays (Q.alloc _ _), Bk.new _ _ _, Below.trans LL.out.2.1 (Below.mono (Q.alloc _ _) LL.out.2.2), Nat.le_trans LL.out.2.2 (Q.alloc wr (.cells #[.string sn, .int .i64 skd, .int .i64 sm, .string st] 44)).size⟩ (Q.drewN _ 1))
      have q0 : Hid (∀ l' w', Sq b b l' wr.heap.size #[.string sn, .int .i64 skd, .int .i64 sm, .string st] 44 w2 w' → Q w w') := Lib.hid (fun l' w' h => Below.trans Q2.out (Below.mono h.2.2.1 (by have := hb1.out; omega)))
      have c1 : Hid (∀ w', Sq b b (tSs (ms.take k)) wr.heap.size #[.string sn, .int .i64 skd, .int .i64 sm, .string st] 44 w2 w' → Calls Tryz.prog 13 #[.agg #[.int .i64 skd, .int .i64 sm, .string st]] w' fun e w'' => e = .returned (.string FB) ∧ Sq b b (tSs (ms.take k)) wr.heap.size #[.string sn, .int .i64 skd, .int .i64 sm, .string st] 44 w2 w'') := Lib.hid (fun w' h => (cK.out w' (q0.out _ _ h)).mono fun _ _ ⟨he, hq⟩ => ⟨he, h.stays hq⟩)
      have hpb : wr.heap.size ≠ b := by
        have h1 := LL.out.1
        rcases h1 with h1 | h1
        · have := h1.lt; omega
        · have := h1.lt; omega
      have f1 : ¬ 9223372036854775807 < 7 + sn.size := by omega
      have f2 : ¬ 9223372036854775807 < 7 + sn.size + FB.size := by omega
      have f3 : ¬ 9223372036854775807 < 7 + sn.size + FB.size + 1 := by omega
      generalize hTXT : (((⟨#[109, 111, 100, 117, 108, 101, 46]⟩ ++ sn) ++ FB) ++ ⟨#[46]⟩ : ByteArray) = TXT at *
      have c2 : Hid (∀ w', Sq b b (tSs (ms.take k)) wr.heap.size #[.string sn, .int .i64 skd, .int .i64 sm, .string st] 44 w2 w' → Calls Tryz.prog 31 #[.pointer (some ⟨b, 0, none⟩), .string TXT] w' fun e w'' => e = .returned (.tuple #[.int .i64 TXT.size, .nilIface]) ∧ Sq b b (tSs (ms.take (k + 1))) wr.heap.size #[.string sn, .int .i64 skd, .int .i64 sm, .string st] 44 w2 w'') := Lib.hid (fun w' h => by
        have := Sq.write TXT h (by decide) hpb (by omega)
        rw [hTX, ← hsn] at this
        exact this)
      clear hTX hsn hTL hFL cK LL Qr hlen htS hsl hpb
      generalize hW0 : wr.alloc (.cells #[.string sn, .int .i64 skd, .int .i64 sm, .string st] 44) = w0 at *
      generalize hPS : wr.heap.size = ps at *
      go_wp2_with fail
      go_region_held3 (fun w' => w'.cell? ⟨ps, 0, none⟩ = some (.string sn) ∧ w'.cell? ⟨ps, 1, none⟩ = some (.int .i64 skd) ∧ w'.cell? ⟨ps, 2, none⟩ = some (.int .i64 sm) ∧ w'.cell? ⟨ps, 3, none⟩ = some (.string st))
        (first | (with_reducible exact Sq.four S0.out) | (with_reducible exact Sq.four h3) | (with_reducible exact Sq.four h4))
        (first | (go_at_call 13; refine (c1.out _ S0.out).mono ?_; rintro e w3 ⟨rfl, h3⟩) | (go_at_call 31; refine (c2.out _ h3).mono ?_; rintro e w4 ⟨rfl, h4⟩))
      all_goals
        have HL := Lib.hid h4
        clear h3 h4
        go_wp2_with fail
        go_roundw
        case rel => exact ⟨k + 1, hlt, by go_num, Lib.hid ⟨HL.out.1, HL.out.2.2.1, HL.out.2.2.2⟩⟩
        case measure => simp [intOf]; omega
    · obtain rfl : n = k := by omega
      have e0 : ms.take n = ms := List.take_of_length_le (by rw [HN.out]; exact Nat.le_refl _)
      rw [e0] at LL hlen
      have S0 : Hid (Sq b b (tSs ms) w.heap.size #[.slice A n c, .bool d, .string ty, .string nm, .int .i64 kd, .int .i64 m, .string t] 27 w2 wr) := Lib.hid ⟨LL.out.1, (LL.out.2.1.block w.heap.size (by have := hb1.out; omega)).trans B2.out, LL.out.2.1, LL.out.2.2⟩
      have hpb : w.heap.size ≠ b := by have := hb1.out; omega
      obtain ⟨hty, hnk⟩ := chkR_ok HR.out
      obtain ⟨hid, hok⟩ := chkN_ok hnk
      have hts := id_size (isTy_id hty)
      have hns := id_size hid
      have hfl := fK_len ⟨kd, m, t⟩
      have cK := Lib.hid (fun w' q => cF.out ⟨kd, m, t⟩ w' q (okK_Kb hok))
      simp only at cK hts hns
      clear LL hty hnk hid hok HR cF HI
      generalize fK ⟨kd, m, t⟩ = FK at *
      have hFK : (⟨FK.toArray⟩ : ByteArray).size ≤ 25000 := by rw [ba_size]; exact hfl
      have hFL : (⟨FK.toArray⟩ : ByteArray).data.toList = FK := ba_list FK
      generalize (⟨FK.toArray⟩ : ByteArray) = FB at *
      have hTX : (((ty ++ ⟨#[46]⟩) ++ nm) ++ FB : ByteArray).data.toList = ty.data.toList ++ (46 :: (nm.data.toList ++ FK)) := by
        rw [ba_app, ba_app, ba_app, hFL]
        simp [List.append_assoc]
      have hTL : (((ty ++ ⟨#[46]⟩) ++ nm) ++ FB : ByteArray).size ≤ 25200 := by
        rw [Lib.size_eq, hTX, List.length_append, List.length_cons, List.length_append, ← Lib.size_eq, ← Lib.size_eq]
        omega
      have f1 : ¬ 9223372036854775807 < ty.size + 1 := by omega
      have f2 : ¬ 9223372036854775807 < ty.size + 1 + nm.size := by omega
      have f3 : ¬ 9223372036854775807 < ty.size + 1 + nm.size + FB.size := by omega
      generalize hTXT : (((ty ++ ⟨#[46]⟩) ++ nm) ++ FB : ByteArray) = TXT at *
      have q0 : Hid (∀ l' w', Sq b b l' w.heap.size #[.slice A n c, .bool d, .string ty, .string nm, .int .i64 kd, .int .i64 m, .string t] 27 w2 w' → Q w w') := Lib.hid (fun l' w' h => Below.trans Q2.out (Below.mono h.2.2.1 (by have := hb1.out; omega)))
      have c1 : Hid (∀ l' w', Sq b b l' w.heap.size #[.slice A n c, .bool d, .string ty, .string nm, .int .i64 kd, .int .i64 m, .string t] 27 w2 w' → Calls Tryz.prog 13 #[.agg #[.int .i64 kd, .int .i64 m, .string t]] w' fun e w'' => e = .returned (.string FB) ∧ Sq b b l' w.heap.size #[.slice A n c, .bool d, .string ty, .string nm, .int .i64 kd, .int .i64 m, .string t] 27 w2 w'') := Lib.hid (fun l' w' h => (cK.out w' (q0.out _ _ h)).mono fun _ _ ⟨he, hq⟩ => ⟨he, h.stays hq⟩)
      have l1 := S0.out.2.1.at 1 (.bool d) rfl
      have hl2 : (tSs ms).length ≤ 401152 := by have := H16.out; have := HN.out; omega
      clear hlen cK hFL
      generalize tSs ms = L at *
      cases d with
      | true =>
        have hd5 : (⟨#[100, 97, 116, 97, 46]⟩ : ByteArray).data.toList = dataB := rfl
        have hd5s : (⟨#[100, 97, 116, 97, 46]⟩ : ByteArray).size = 5 := rfl
        have c0 : Hid (Calls Tryz.prog 31 #[.pointer (some ⟨b, 0, none⟩), .string ⟨#[100, 97, 116, 97, 46]⟩] wr fun e w'' => e = .returned (.tuple #[.int .i64 5, .nilIface]) ∧ Sq b b (L ++ dataB) w.heap.size #[.slice A n c, .bool true, .string ty, .string nm, .int .i64 kd, .int .i64 m, .string t] 27 w2 w'') := Lib.hid (Sq.write ⟨#[100, 97, 116, 97, 46]⟩ S0.out (by decide) hpb (by rw [hd5s]; omega))
        have c2 : Hid (∀ w', Sq b b (L ++ dataB) w.heap.size #[.slice A n c, .bool true, .string ty, .string nm, .int .i64 kd, .int .i64 m, .string t] 27 w2 w' → Calls Tryz.prog 31 #[.pointer (some ⟨b, 0, none⟩), .string TXT] w' fun e w'' => e = .returned (.tuple #[.int .i64 TXT.size, .nilIface]) ∧ Sq b b (L ++ (dataB ++ (ty.data.toList ++ (46 :: (nm.data.toList ++ FK))))) w.heap.size #[.slice A n c, .bool true, .string ty, .string nm, .int .i64 kd, .int .i64 m, .string t] 27 w2 w'') := Lib.hid (fun w' h => by
          have := Sq.write TXT h (by decide) hpb (by rw [List.length_append, show dataB.length = 5 from rfl]; omega)
          rw [hTX, List.append_assoc] at this
          exact this)
        clear S0 hTX hTL hd5 hd5s hl2 hpb
        go_wp2_with fail
        refine c0.out.mono ?_; rintro e W1 ⟨rfl, h0⟩
        have S0 := Lib.hid h0
        clear h0 c0
        go_wp2_with fail
        have S1 : Hid (Sq b b (L ++ dataB) w.heap.size #[.slice A n c, .bool true, .string ty, .string nm, .int .i64 kd, .int .i64 m, .string t] 27 w2 W1.drew) := Lib.hid (S0.out.stays (Q.drewN _ 1))
        go_region_held3 (fun w' => w'.cell? ⟨w.heap.size, 2, none⟩ = some (.string ty) ∧ w'.cell? ⟨w.heap.size, 3, none⟩ = some (.string nm) ∧ w'.cell? ⟨w.heap.size, 4, none⟩ = some (.int .i64 kd) ∧ w'.cell? ⟨w.heap.size, 5, none⟩ = some (.int .i64 m) ∧ w'.cell? ⟨w.heap.size, 6, none⟩ = some (.string t))
          (first | (with_reducible exact Sq.five S1.out) | (with_reducible exact Sq.five h3) | (with_reducible exact Sq.five h4))
          (first | (go_at_call 13; refine (c1.out _ _ S1.out).mono ?_; rintro e w3 ⟨rfl, h3⟩) | (go_at_call 31; refine (c2.out _ h3).mono ?_; rintro e w4 ⟨rfl, h4⟩))
        all_goals
          have HL := Lib.hid h4
          clear h3 h4
          have cS := Lib.hid (Tryz.Builder_String_any b b _ _ HL.out.1 HL.out.2.2.2)
          go_wp2_with fail
          refine cS.out.mono ?_; rintro e w6 ⟨rfl, q6⟩
          go_wp2_with fail
          go_ret
          exact ⟨by rw [← HA.out]; rfl, Below.trans Q2.out (Below.mono (Below.trans HL.out.2.2.1 q6) (by have := hb1.out; omega))⟩
      | false =>
        have c2 : Hid (∀ w', Sq b b L w.heap.size #[.slice A n c, .bool false, .string ty, .string nm, .int .i64 kd, .int .i64 m, .string t] 27 w2 w' → Calls Tryz.prog 31 #[.pointer (some ⟨b, 0, none⟩), .string TXT] w' fun e w'' => e = .returned (.tuple #[.int .i64 TXT.size, .nilIface]) ∧ Sq b b (L ++ ([] ++ (ty.data.toList ++ (46 :: (nm.data.toList ++ FK))))) w.heap.size #[.slice A n c, .bool false, .string ty, .string nm, .int .i64 kd, .int .i64 m, .string t] 27 w2 w'') := Lib.hid (fun w' h => by
          have := Sq.write TXT h (by decide) hpb (by omega)
          rw [hTX] at this
          exact this)
        clear hTX hTL hl2 hpb
        go_wp2_with fail
        have S1 : Hid (Sq b b L w.heap.size #[.slice A n c, .bool false, .string ty, .string nm, .int .i64 kd, .int .i64 m, .string t] 27 w2 wr.drew) := Lib.hid (S0.out.stays (Q.drewN _ 1))
        go_region_held3 (fun w' => w'.cell? ⟨w.heap.size, 2, none⟩ = some (.string ty) ∧ w'.cell? ⟨w.heap.size, 3, none⟩ = some (.string nm) ∧ w'.cell? ⟨w.heap.size, 4, none⟩ = some (.int .i64 kd) ∧ w'.cell? ⟨w.heap.size, 5, none⟩ = some (.int .i64 m) ∧ w'.cell? ⟨w.heap.size, 6, none⟩ = some (.string t))
          (first | (with_reducible exact Sq.five S1.out) | (with_reducible exact Sq.five h3) | (with_reducible exact Sq.five h4))
          (first | (go_at_call 13; refine (c1.out _ _ S1.out).mono ?_; rintro e w3 ⟨rfl, h3⟩) | (go_at_call 31; refine (c2.out _ h3).mono ?_; rintro e w4 ⟨rfl, h4⟩))
        all_goals
          have HL := Lib.hid h4
          clear h3 h4
          have cS := Lib.hid (Tryz.Builder_String_any b b _ _ HL.out.1 HL.out.2.2.2)
          go_wp2_with fail
          refine cS.out.mono ?_; rintro e w6 ⟨rfl, q6⟩
          go_wp2_with fail
          go_ret
          exact ⟨by rw [← HA.out]; rfl, Below.trans Q2.out (Below.mono (Below.trans HL.out.2.2.1 q6) (by have := hb1.out; omega))⟩

theorem fA_case (ms : List St) (r : Rs) : fA ⟨ms, r⟩ = if chk ⟨ms, r⟩ = 0 then tSs ms ++ tR r else [] := rfl
theorem chk_ok {ms : List St} {r : Rs} (h : chk ⟨ms, r⟩ = 0) : ms.length ≤ 16 ∧ chkS ms = 0 ∧ chkR r = 0 := by
  unfold chk at h
  split at h
  · cases h
  rename_i h1
  split at h
  · rename_i h2
    exact ⟨by simp only at h1; omega, h2, h⟩
  · rename_i h2
    exact absurd h h2
theorem format_any (A : Option Addr) (n c : Nat) (ms : List St) (r : Rs) (w : World) (f : Fa w) (hn : n = ms.length) (hI : In A ms w) (hb : Ab ms r) (hlim : ms.length ≤ maxLen) :
    Calls Tryz.prog 11 #[rv (.slice A n c) r] w fun e w' => e = .returned (.string ⟨(fA ⟨ms, r⟩).toArray⟩) ∧ Q w w' := by
  have cC := fun w' (q : Q w w') => check_any A n c ms r w' (q.fa f) hn (hI.stays q) hb hlim
  rw [fA_case]
  by_cases h : chk ⟨ms, r⟩ = 0
  · rw [if_pos h]
    obtain ⟨h1, h2, h3⟩ := chk_ok h
    rw [h] at cC
    exact format_yes A n c ms r w hn hI h2 h3 h1 cC (fun k w' q hk => formatKey_any k w' (q.fa f) hk)
  · rw [if_neg h]
    exact format_no A n c r _ w (by simpa using h) cC

end Go.Proofs.YthekabflbpfjoaaGreatDoor.adr
