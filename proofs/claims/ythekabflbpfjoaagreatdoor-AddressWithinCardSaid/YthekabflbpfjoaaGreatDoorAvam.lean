/- Parse: the address with a text. -/
import Derived.Test.YthekabflbpfjoaaGreatDoorAwym
namespace Go.Proofs.YthekabflbpfjoaaGreatDoor.adr
open Go.RowKit
open Go.Proofs.YthekabflbpfjoaaGreatDoor

def isRes (o : Option (List St × Option Rs)) : Bool :=
  match o with
  | some (_, some _) => true
  | _ => false
/-- The error of Parse. -/
def pErr (l : List UInt8) : Int :=
  match full l with
  | some (ms, some _) => if 16 < ms.length then 4 else 0
  | _ => 2
/-- What Parse returns. -/
def pMods (l : List UInt8) : List St :=
  match full l with
  | some (ms, some _) => if 16 < ms.length then [] else ms
  | _ => []
def pRes (l : List UInt8) : Rs :=
  match full l with
  | some (ms, some r) => if 16 < ms.length then Rs.zero else r
  | _ => Rs.zero
theorem res_type {r : Rs} (h : chkR r = 0) : r.type.toList.isEmpty = false := by
  unfold chkR at h
  split at h
  · cases h
  · rename_i hx
    rw [Bool.not_eq_false] at hx
    rw [Lib.toList_data]
    exact List.isEmpty_eq_false_iff.2 ((isId_iff _).1 (isTy_id hx)).1
theorem full_res_ok {l : List UInt8} {ms : List St} {r : Rs} (h : full l = some (ms, some r)) : chkS ms = 0 ∧ chkR r = 0 ∧ l = tSs ms ++ tR r := by
  obtain ⟨h1, h2, _⟩ := full_inv _ l ms (some r) (Nat.le_refl _) h
  exact ⟨h1, (h2 r rfl).1, (h2 r rfl).2⟩
/-- Whether what was read last is a path, and whether the whole is none. -/
def Jo (l : List UInt8) (R : ByteArray) (O : Bool) (ty : ByteArray) : Prop :=
  (O = false → isRes (full l) = false) ∧ (O = true → R.data.toList = [] → isRes (full l) = !ty.toList.isEmpty) ∧ (O = true → R.data.toList ≠ [] → isRes (full l) = isRes (full R.data.toList))
theorem isRes_map (o : Option (List St × Option Rs)) (f : List St → List St) : isRes (o.map fun y => (f y.1, y.2)) = isRes o := by
  cases o with
  | none => rfl
  | some y =>
    obtain ⟨a, b⟩ := y
    cases b <;> rfl
theorem getD_type {l : List UInt8} {ms : List St} {x : Option Rs} (h : full l = some (ms, x)) : isRes (full l) = !(x.getD Rs.zero).type.toList.isEmpty := by
  rw [h]
  cases x with
  | none =>
    show false = !(Rs.zero).type.toList.isEmpty
    have : (Rs.zero).type.toList = [] := by rw [Lib.toList_data]; rfl
    rw [this]
    rfl
  | some r =>
    show true = !r.type.toList.isEmpty
    rw [res_type (full_res_ok h).2.1]
    rfl
/-- One more chunk. -/
theorem Jo.next {l : List UInt8} {R R' : ByteArray} {O' : Bool} {B : Nat} {v : Value} {r : Rs} {w : World} (h : isRes (full l) = isRes (full R.data.toList)) (hp : PlaceEnds B [] (chunk 16 R.data.toList) v r R' O' w) :
    Jo l R' O' r.type ∧ (O' = true → R'.data.toList ≠ [] → R'.size < R.size) := by
  have hs := chunk_says 16 R.data.toList
  rw [Lib.size_eq, Lib.size_eq]
  unfold Jo
  rw [h]
  cases hc : chunk 16 R.data.toList with
  | none =>
    rw [hc] at hs hp
    have e : full R.data.toList = none := hs
    have : O' = false := hp
    subst this
    rw [e]
    exact ⟨⟨fun _ => rfl, (fun h => by cases h), (fun h => by cases h)⟩, (fun h => by cases h)⟩
  | some z =>
    obtain ⟨ms, x, rs⟩ := z
    rw [hc] at hs hp
    obtain ⟨rfl, _, rfl, rfl⟩ := hp
    refine ⟨⟨(fun h => by cases h), fun _ hn => ?_, fun _ hn => ?_⟩, fun _ hn => ?_⟩
    · exact getD_type (hs.1 hn).1
    · obtain ⟨_, _, _, g, _⟩ := hs.2 hn
      rw [g, isRes_map]
    · obtain ⟨_, _, _, _, g⟩ := hs.2 hn
      omega
/-- What the first chunk says. -/
theorem first_says {l : List UInt8} {R : ByteArray} {O : Bool} {B : Nat} {v : Value} {r : Rs} {w : World} (hp : PlaceEnds B [] (chunk 16 l) v r R O w) :
    (O = false → pErr l = 2 ∧ pMods l = [] ∧ pRes l = Rs.zero) ∧
    (O = true → R.data.toList = [] → (r.type.toList.isEmpty = true ∧ pErr l = 2 ∧ pMods l = [] ∧ pRes l = Rs.zero) ∨ (r.type.toList.isEmpty = false ∧ pErr l = 0 ∧ pRes l = r ∧ Sr B v (pMods l) w)) ∧
    (O = true → R.data.toList ≠ [] → isRes (full l) = isRes (full R.data.toList) ∧ pErr l = (if isRes (full l) then 4 else 2) ∧ pMods l = [] ∧ pRes l = Rs.zero) := by
  have hs := chunk_says 16 l
  cases hc : chunk 16 l with
  | none =>
    rw [hc] at hs hp
    have e : full l = none := hs
    have : O = false := hp
    subst this
    unfold pErr pMods pRes
    rw [e]
    exact ⟨fun _ => ⟨rfl, rfl, rfl⟩, (fun h => by cases h), (fun h => by cases h)⟩
  | some z =>
    obtain ⟨ms, x, rs⟩ := z
    rw [hc] at hs hp
    obtain ⟨rfl, hv, rfl, rfl⟩ := hp
    refine ⟨(fun h => by cases h), fun _ hn => ?_, fun _ hn => ?_⟩
    · obtain ⟨g1, g2⟩ := hs.1 hn
      have ht := getD_type g1
      unfold pErr pMods pRes
      rw [g1] at ht ⊢
      cases x with
      | none =>
        left
        refine ⟨?_, rfl, rfl, rfl⟩
        cases hx : (Option.getD (none : Option Rs) Rs.zero).type.toList.isEmpty with
        | true => rfl
        | false => rw [hx] at ht; cases ht
      | some r =>
        right
        simp only
        rw [if_neg (by omega), if_neg (by omega), if_neg (by omega)]
        exact ⟨res_type (full_res_ok g1).2.1, rfl, rfl, hv⟩
    · obtain ⟨_, g2, g3, g4, _⟩ := hs.2 hn
      have e : isRes (full l) = isRes (full R.data.toList) := by rw [g4, isRes_map]
      refine ⟨e, ?_⟩
      unfold pErr pMods pRes
      rw [g4]
      cases hf : full R.data.toList with
      | none => exact ⟨rfl, rfl, rfl⟩
      | some y =>
        obtain ⟨ms', x'⟩ := y
        have hne : ms' ≠ [] := by
          intro h0
          subst h0
          rw [full_eq, if_neg (by rw [g3]; decide)] at hf
          split at hf
          · cases hf
          · cases hf
          · split at hf
            · rename_i st c r hq hc2
              cases hr : full r with
              | none => rw [hr] at hf; cases hf
              | some q => rw [hr] at hf; cases hf
            · cases hf
        have hlen : 16 < (ms ++ ms').length := by
          have := List.length_pos_iff.2 hne
          rw [List.length_append]
          omega
        cases x' with
        | none => exact ⟨rfl, rfl, rfl⟩
        | some r =>
          simp only [Option.map_some]
          rw [if_pos hlen, if_pos hlen, if_pos hlen]
          exact ⟨rfl, rfl, rfl⟩

theorem isPath_any (A : Option Addr) (n c : Nat) (r : Rs) (w : World) :
    Calls Tryz.prog 40 #[.agg #[.slice A n c, .bool r.data, .string r.type, .string r.name, .int .i64 r.key.kind, .int .i64 r.key.num, .string r.key.str]] w fun e w' => e = .returned (.bool r.type.toList.isEmpty) ∧ Q w w' := by
  obtain ⟨d, ty, nm, kd, n', t⟩ := r
  go_enter Tryz.func40, Tryz.ntmps40
  go_wp2_with fail
  go_ret
  exact ⟨rfl, Q.alloc _ _⟩

theorem Bk.other7 {p q : Nat} {cs : Array Value} {t : TypeId} {w : World} (h : Bk p cs t w) (hq : p ≠ q) (x0 x1 x2 x3 x4 x5 x6 : Value) :
    Bk p cs t (((((((w.setCell ⟨q, 0, none⟩ (x0)).setCell ⟨q, 1, none⟩ (x1)).setCell ⟨q, 2, none⟩ (x2)).setCell ⟨q, 3, none⟩ (x3)).setCell ⟨q, 4, none⟩ (x4)).setCell ⟨q, 5, none⟩ (x5)).setCell ⟨q, 6, none⟩ (x6)) := ((((((h.other hq 0 x0).other hq 1 x1).other hq 2 x2).other hq 3 x3).other hq 4 x4).other hq 5 x5).other hq 6 x6
theorem Bk.kept {B p : Nat} {cs : Array Value} {t : TypeId} {w w' : World} (h : Bk p cs t w) (ht : t ≠ 44) (k : Kp B w w') : Bk p cs t w' := (k.other p _ _ _ ht h).trans h
theorem err_zero {l : List UInt8} (h : pErr l ≠ 0) : pMods l = [] ∧ pRes l = Rs.zero := by
  unfold pErr at h
  unfold pMods pRes
  split
  · rename_i ms r hf
    rw [hf] at h
    simp only at h
    split at h
    · rename_i hx
      rw [if_pos hx, if_pos hx]
      exact ⟨rfl, rfl⟩
    · exact absurd rfl h
  · exact ⟨rfl, rfl⟩
theorem first_size {l : List UInt8} {R : ByteArray} {O : Bool} {B : Nat} {v : Value} {r : Rs} {w : World} (hp : PlaceEnds B [] (chunk 16 l) v r R O w) (hl : l.length ≤ 1000000) : O = true → R.data.toList ≠ [] → R.size ≤ 1000000 := by
  intro h hn
  have hs := chunk_says 16 l
  cases hc : chunk 16 l with
  | none =>
    rw [hc] at hp
    rw [show O = false from hp] at h
    cases h
  | some z =>
    obtain ⟨ms, x, rs⟩ := z
    rw [hc] at hs hp
    obtain ⟨_, _, _, rfl⟩ := hp
    obtain ⟨_, _, _, _, g⟩ := hs.2 hn
    rw [Lib.size_eq]
    omega
/-- What is known at the head of Parse's loop. -/
def Fin (l : List UInt8) (td : Bool) (R : ByteArray) (O : Bool) (v : Value) (r : Rs) (B : Nat) (w : World) : Prop :=
  (O = false → pErr l = 2) ∧
  (O = true → R.data.toList = [] → r.type.toList.isEmpty = true → pErr l = 2) ∧
  (O = true → R.data.toList = [] → r.type.toList.isEmpty = false → td = true → pErr l = 4) ∧
  (O = true → R.data.toList = [] → r.type.toList.isEmpty = false → td = false → pErr l = 0 ∧ pRes l = r ∧ Sr B v (pMods l) w) ∧
  (O = true → R.data.toList ≠ [] → td = true ∧ isRes (full l) = isRes (full R.data.toList) ∧ pErr l = if isRes (full l) then 4 else 2)
theorem Fin.first {l : List UInt8} {R : ByteArray} {O : Bool} {B : Nat} {v : Value} {r : Rs} {w : World} (hp : PlaceEnds B [] (chunk 16 l) v r R O w) : Fin l (!R.toList.isEmpty) R O v r B w := by
  obtain ⟨h1, h2, h3⟩ := first_says hp
  refine ⟨fun h => (h1 h).1, fun h hn ht => ?_, fun h hn ht hd => ?_, fun h hn ht hd => ?_, fun h hn => ?_⟩
  · rcases h2 h hn with g | g
    · exact g.2.1
    · rw [g.1] at ht; cases ht
  · rw [(isEmpty_nil R).2 hn] at hd; cases hd
  · rcases h2 h hn with g | g
    · rw [g.1] at ht; cases ht
    · exact ⟨g.2.1, g.2.2.1, g.2.2.2⟩
  · obtain ⟨g1, g2, _⟩ := h3 h hn
    refine ⟨?_, g1, g2⟩
    cases hx : R.toList.isEmpty with
    | false => rfl
    | true => exact absurd ((isEmpty_nil R).1 hx) hn
theorem Fin.next {l : List UInt8} {R R' : ByteArray} {O' : Bool} {B B' : Nat} {v v' : Value} {r r' : Rs} {w w' : World} (h : Fin l true R true v r B w) (hn : R.data.toList ≠ []) (hp : PlaceEnds B' [] (chunk 16 R.data.toList) v' r' R' O' w') :
    Fin l true R' O' v' r' B w' ∧ (O' = true → R'.data.toList ≠ [] → R'.size < R.size) := by
  obtain ⟨_, g1, g2⟩ := h.2.2.2.2 rfl hn
  obtain ⟨⟨j1, j2, j3⟩, j4⟩ := Jo.next g1 hp
  refine ⟨⟨fun h => ?_, fun h hn ht => ?_, fun h hn ht _ => ?_, (fun _ _ _ hd => by cases hd), fun h hn => ⟨rfl, j3 h hn, g2⟩⟩, j4⟩
  · rw [g2, j1 h]; rfl
  · rw [g2, j2 h hn, ht]; rfl
  · rw [g2, j2 h hn, ht]; rfl
theorem Fin.stays {l : List UInt8} {td : Bool} {R : ByteArray} {O : Bool} {v : Value} {r : Rs} {B : Nat} {w w' : World} (h : Fin l td R O v r B w) (q : Q w w') : Fin l td R O v r B w' :=
  ⟨h.1, h.2.1, h.2.2.1, fun a b c d => by obtain ⟨x, y, z⟩ := h.2.2.2.1 a b c d; exact ⟨x, y, z.stays q⟩, h.2.2.2.2⟩

/-- How much there is to read. -/
def more (rest ok : Value) : Nat :=
  match rest, ok with
  | .string R, .bool true => if R.toList.isEmpty then 0 else R.size + 1
  | _, _ => 0
theorem more_yes (R : ByteArray) (h : R.toList.isEmpty = false) : more (.string R) (.bool true) = R.size + 1 := by
  show (if R.toList.isEmpty then 0 else R.size + 1) = _
  rw [h]
  rfl
theorem more_less (R : ByteArray) (O : Bool) (n : Nat) (h : O = true → R.data.toList ≠ [] → R.size < n) : more (.string R) (.bool O) < n + 1 := by
  cases O with
  | false => exact Nat.zero_lt_succ n
  | true =>
    show (if R.toList.isEmpty then 0 else R.size + 1) < n + 1
    cases hx : R.toList.isEmpty with
    | true => exact Nat.zero_lt_succ n
    | false =>
      have := h rfl (fun e => by rw [(isEmpty_nil R).2 e] at hx; cases hx)
      show R.size + 1 < n + 1
      omega
set_option maxHeartbeats 16000000 in
theorem parse_any (s : ByteArray) (w : World) (f : Fa w) (hs : s.size ≤ 1000000) :
    Calls Tryz.prog 15 #[.string s] w fun e w' => ∃ A n c, e = .returned (.tuple #[rv (.slice A n c) (pRes s.data.toList), .int .i64 (pErr s.data.toList)]) ∧ Sr w.heap.size (.slice A n c) (pMods s.data.toList) w' ∧ Q w w' := by
  have cX : Hid (∀ (s' : ByteArray) (w' : World), Q w w' → s'.size ≤ 1000000 → Calls Tryz.prog 39 #[.slice none 0 0, .string s'] w' fun e w'' => ∃ A n c r rest ok, e = .returned (.tuple #[rv (.slice A n c) r, .string rest, .bool ok]) ∧ PlaceEnds w.heap.size [] (chunk 16 s'.data.toList) (.slice A n c) r rest ok w'' ∧ Kp w.heap.size w' w'') := fun s' w' q hs' => readPlace_any w f 16 [] (.slice none 0 0) s' w' rfl (Sr.nil _ _) q hs'
  clear f
  generalize hl : s.data.toList = l at *
  go_enter Tryz.func15, Tryz.ntmps15
  go_wp2_with fail
  refine (cX.out s _ (Q.alloc _ _) hs).mono ?_; rintro e w2 ⟨A, n, c, ⟨d, ty, nm, kd, m, t⟩, R, O, rfl, hpe, hk⟩
  rw [hl] at hpe
  have FF := Lib.hid ((Fin.first hpe).stays (Q.alloc w2 (.cells #[.slice A n c, .bool d, .string ty, .string nm, .int .i64 kd, .int .i64 m, .string t] 27)))
  have ZB : Hid (Zb w.heap.size (w2.alloc (.cells #[.slice A n c, .bool d, .string ty, .string nm, .int .i64 kd, .int .i64 m, .string t] 27))) := Lib.hid ((Zb.kept (Bk.new _ _ w) hk).stays (Q.alloc _ _))
  have B4 : Hid (Bk w2.heap.size #[.slice A n c, .bool d, .string ty, .string nm, .int .i64 kd, .int .i64 m, .string t] 27 (w2.alloc (.cells #[.slice A n c, .bool d, .string ty, .string nm, .int .i64 kd, .int .i64 m, .string t] 27))) := Lib.hid (Bk.new _ _ w2)
  have QQ : Hid (Q w (w2.alloc (.cells #[.slice A n c, .bool d, .string ty, .string nm, .int .i64 kd, .int .i64 m, .string t] 27))) := Lib.hid ((Below.trans (Q.alloc w _) hk.below).trans (Below.mono (Q.alloc w2 (.cells #[.slice A n c, .bool d, .string ty, .string nm, .int .i64 kd, .int .i64 m, .string t] 27)) (Nat.le_trans (Q.alloc w (.cells #[.slice none 0 0, .bool false, .string ⟨#[]⟩, .string ⟨#[]⟩, .int .i64 0, .int .i64 0, .string ⟨#[]⟩] 27)).size hk.size)))
  have hp : Hid (w.heap.size ≠ w2.heap.size ∧ w.heap.size ≤ w2.heap.size) := Lib.hid (by have := hk.size; simp at this; omega)
  have RS : Hid (O = true → R.data.toList ≠ [] → R.size ≤ 1000000) := Lib.hid (first_size hpe (by rw [← hl, ← Lib.size_eq]; exact hs))
  clear hpe hk
  unfold rv
  simp only
  go_wp2_with fail
  replace hp := hp
  generalize hT : (!R.toList.isEmpty) = td at *
  clear hT
  generalize hW3 : w2.alloc (.cells #[.slice A n c, .bool d, .string ty, .string nm, .int .i64 kd, .int .i64 m, .string t] 27) = w3 at *
  generalize hP4 : w2.heap.size = p4 at *
  clear hW3 hP4
  go_loopw [5, 6] (fun rest okv wr => ∃ (R : ByteArray) (O : Bool) (A : Option Addr) (n c : Nat) (d : Bool) (ty nm : ByteArray) (kd m : Int) (t : ByteArray), rest = .string R ∧ okv = .bool O ∧
    Hid (Bk p4 #[.slice A n c, .bool d, .string ty, .string nm, .int .i64 kd, .int .i64 m, .string t] 27 wr) ∧ Hid (Zb w.heap.size wr) ∧ Hid (Q w wr) ∧ Hid (Fin l td R O (.slice A n c) ⟨d, ty, nm, ⟨kd, m, t⟩⟩ w.heap.size wr) ∧ Hid (O = true → R.data.toList ≠ [] → R.size ≤ 1000000)) (fun rest okv _ => more rest okv)
  case atStart => exact ⟨R, O, A, n, c, d, ty, nm, kd, m, t, rfl, rfl, B4, ZB, QQ, FF, RS⟩
  case round =>
    clear B4 ZB QQ FF RS
    obtain ⟨R, O, A, n, c, d, ty, nm, kd, m, t, rfl, rfl, B4, ZB, QQ, FF, RS⟩ := hrel
    cases O with
    | false =>
      have he := FF.out.1 rfl
      clear FF cX B4
      obtain ⟨a0, a1, a2, a3, a4, a5, a6, z0, z1, z2, z3, z4, z5, z6⟩ := ZB.out.out
      have bp := Lib.hid (Bk.put7 ZB.out (.slice none 0 0) (.bool false) (.string ⟨#[]⟩) (.string ⟨#[]⟩) (.int .i64 0) (.int .i64 0) (.string ⟨#[]⟩))
      have KP := Lib.hid (QQ.out.put7 (Nat.le_refl _) (.slice none 0 0) (.bool false) (.string ⟨#[]⟩) (.string ⟨#[]⟩) (.int .i64 0) (.int .i64 0) (.string ⟨#[]⟩))
      go_wp2_with fail
      have y0 := bp.out.at 0 (.slice none 0 0) rfl
      have y1 := bp.out.at 1 (.bool false) rfl
      have y2 := bp.out.at 2 (.string ⟨#[]⟩) rfl
      have y3 := bp.out.at 3 (.string ⟨#[]⟩) rfl
      have y4 := bp.out.at 4 (.int .i64 0) rfl
      have y5 := bp.out.at 5 (.int .i64 0) rfl
      have y6 := bp.out.at 6 (.string ⟨#[]⟩) rfl
      refine bodyPost_ret (by simp [results, Tryz.results15, go_sem, y0, y1, y2, y3, y4, y5, y6]; try rfl) rfl ?_
      have hz := err_zero (l := l) (by rw [he]; decide)
      refine ⟨none, 0, 0, ?_, ?_, KP.out⟩
      · rw [he, hz.2]; rfl
      · rw [hz.1]; exact Sr.nil _ _
    | true =>
      cases hR : R.toList.isEmpty with
      | true =>
        have hn := (isEmpty_nil R).1 hR
        have l0 := B4.out.at 0 (.slice A n c) rfl
        have l1 := B4.out.at 1 (.bool d) rfl
        have l2 := B4.out.at 2 (.string ty) rfl
        have l3 := B4.out.at 3 (.string nm) rfl
        have l4 := B4.out.at 4 (.int .i64 kd) rfl
        have l5 := B4.out.at 5 (.int .i64 m) rfl
        have l6 := B4.out.at 6 (.string t) rfl
        have cI := Lib.hid (isPath_any A n c ⟨d, ty, nm, ⟨kd, m, t⟩⟩ wr)
        simp only at cI
        cases hty : ty.toList.isEmpty with
        | true =>
          have he := FF.out.2.1 rfl hn hty
          rw [hty] at cI
          clear FF cX hn hty B4
          go_wp2_with fail
          refine cI.out.mono ?_; rintro e w4 ⟨rfl, q4⟩
          replace ZB := Lib.hid (ZB.out.stays q4)
          replace QQ := Lib.hid (QQ.out.trans q4)
          clear q4 cI
          obtain ⟨a0, a1, a2, a3, a4, a5, a6, z0, z1, z2, z3, z4, z5, z6⟩ := ZB.out.out
          have bp := Lib.hid (Bk.put7 ZB.out (.slice none 0 0) (.bool false) (.string ⟨#[]⟩) (.string ⟨#[]⟩) (.int .i64 0) (.int .i64 0) (.string ⟨#[]⟩))
          have KP := Lib.hid (QQ.out.put7 (Nat.le_refl _) (.slice none 0 0) (.bool false) (.string ⟨#[]⟩) (.string ⟨#[]⟩) (.int .i64 0) (.int .i64 0) (.string ⟨#[]⟩))
          go_wp2_with fail
          have y0 := bp.out.at 0 (.slice none 0 0) rfl
          have y1 := bp.out.at 1 (.bool false) rfl
          have y2 := bp.out.at 2 (.string ⟨#[]⟩) rfl
          have y3 := bp.out.at 3 (.string ⟨#[]⟩) rfl
          have y4 := bp.out.at 4 (.int .i64 0) rfl
          have y5 := bp.out.at 5 (.int .i64 0) rfl
          have y6 := bp.out.at 6 (.string ⟨#[]⟩) rfl
          refine bodyPost_ret (by simp [results, Tryz.results15, go_sem, y0, y1, y2, y3, y4, y5, y6]; try rfl) rfl ?_
          have hz := err_zero (l := l) (by rw [he]; decide)
          refine ⟨none, 0, 0, ?_, ?_, KP.out⟩
          · rw [he, hz.2]; rfl
          · rw [hz.1]; exact Sr.nil _ _
        | false =>
          rw [hty] at cI
          cases td with
          | true =>
            have he := FF.out.2.2.1 rfl hn hty rfl
            clear FF cX hn hty B4
            go_wp2_with fail
            refine cI.out.mono ?_; rintro e w4 ⟨rfl, q4⟩
            replace ZB := Lib.hid (ZB.out.stays q4)
            replace QQ := Lib.hid (QQ.out.trans q4)
            clear q4 cI
            obtain ⟨a0, a1, a2, a3, a4, a5, a6, z0, z1, z2, z3, z4, z5, z6⟩ := ZB.out.out
            have bp := Lib.hid (Bk.put7 ZB.out (.slice none 0 0) (.bool false) (.string ⟨#[]⟩) (.string ⟨#[]⟩) (.int .i64 0) (.int .i64 0) (.string ⟨#[]⟩))
            have KP := Lib.hid (QQ.out.put7 (Nat.le_refl _) (.slice none 0 0) (.bool false) (.string ⟨#[]⟩) (.string ⟨#[]⟩) (.int .i64 0) (.int .i64 0) (.string ⟨#[]⟩))
            go_wp2_with fail
            have y0 := bp.out.at 0 (.slice none 0 0) rfl
            have y1 := bp.out.at 1 (.bool false) rfl
            have y2 := bp.out.at 2 (.string ⟨#[]⟩) rfl
            have y3 := bp.out.at 3 (.string ⟨#[]⟩) rfl
            have y4 := bp.out.at 4 (.int .i64 0) rfl
            have y5 := bp.out.at 5 (.int .i64 0) rfl
            have y6 := bp.out.at 6 (.string ⟨#[]⟩) rfl
            refine bodyPost_ret (by simp [results, Tryz.results15, go_sem, y0, y1, y2, y3, y4, y5, y6]; try rfl) rfl ?_
            have hz := err_zero (l := l) (by rw [he]; decide)
            refine ⟨none, 0, 0, ?_, ?_, KP.out⟩
            · rw [he, hz.2]; rfl
            · rw [hz.1]; exact Sr.nil _ _
          | false =>
            obtain ⟨he, hr, hv⟩ := FF.out.2.2.2.1 rfl hn hty rfl
            have HV := Lib.hid hv
            have HR := Lib.hid hr
            clear FF cX hn hty hv hr
            go_wp2_with fail
            refine cI.out.mono ?_; rintro e w4 ⟨rfl, q4⟩
            replace ZB := Lib.hid (ZB.out.stays q4)
            replace QQ := Lib.hid (QQ.out.trans q4)
            replace HV := Lib.hid (HV.out.stays q4)
            replace B4 := Lib.hid (B4.out.stays q4)
            clear q4 cI l0 l1 l2 l3 l4 l5 l6
            have l0 := B4.out.at 0 (.slice A n c) rfl
            have l1 := B4.out.at 1 (.bool d) rfl
            have l2 := B4.out.at 2 (.string ty) rfl
            have l3 := B4.out.at 3 (.string nm) rfl
            have l4 := B4.out.at 4 (.int .i64 kd) rfl
            have l5 := B4.out.at 5 (.int .i64 m) rfl
            have l6 := B4.out.at 6 (.string t) rfl
            have VP := Lib.hid (HV.out.put7 ZB.out (.slice A n c) (.bool d) (.string ty) (.string nm) (.int .i64 kd) (.int .i64 m) (.string t))
            obtain ⟨a0, a1, a2, a3, a4, a5, a6, z0, z1, z2, z3, z4, z5, z6⟩ := ZB.out.out
            have bp := Lib.hid (Bk.put7 ZB.out (.slice A n c) (.bool d) (.string ty) (.string nm) (.int .i64 kd) (.int .i64 m) (.string t))
            have KP := Lib.hid (QQ.out.put7 (Nat.le_refl _) (.slice A n c) (.bool d) (.string ty) (.string nm) (.int .i64 kd) (.int .i64 m) (.string t))
            go_wp2_with fail
            have y0 := bp.out.at 0 (.slice A n c) rfl
            have y1 := bp.out.at 1 (.bool d) rfl
            have y2 := bp.out.at 2 (.string ty) rfl
            have y3 := bp.out.at 3 (.string nm) rfl
            have y4 := bp.out.at 4 (.int .i64 kd) rfl
            have y5 := bp.out.at 5 (.int .i64 m) rfl
            have y6 := bp.out.at 6 (.string t) rfl
            refine bodyPost_ret (by simp [results, Tryz.results15, go_sem, y0, y1, y2, y3, y4, y5, y6]; try rfl) rfl ?_
            refine ⟨A, n, c, ?_, VP.out, KP.out⟩
            rw [he, HR.out]
            rfl
      | false =>
        have hn : R.data.toList ≠ [] := fun h => by rw [(isEmpty_nil R).2 h] at hR; cases hR
        have htd := (FF.out.2.2.2.2 rfl hn).1
        subst htd
        have hRs := RS.out rfl hn
        go_wp2_with fail
        refine (cX.out R wr QQ.out hRs).mono ?_; rintro e w4 ⟨A2, n2, c2, ⟨d2, ty2, nm2, kd2, m2, t2⟩, R2, O2, rfl, hpe, hk⟩
        obtain ⟨fn, hms⟩ := FF.out.next hn hpe
        have FN := Lib.hid fn
        have HMS := Lib.hid hms
        replace B4 := Lib.hid (B4.out.kept (by decide) hk)
        replace ZB := Lib.hid (ZB.out.kept hk)
        replace QQ : Hid (Q w w4) := Lib.hid (Below.trans QQ.out hk.below)
        clear hpe hk fn hms FF hn
        unfold rv
        simp only
        have l0 := B4.out.at 0 (.slice A n c) rfl
        have l1 := B4.out.at 1 (.bool d) rfl
        have l2 := B4.out.at 2 (.string ty) rfl
        have l3 := B4.out.at 3 (.string nm) rfl
        have l4 := B4.out.at 4 (.int .i64 kd) rfl
        have l5 := B4.out.at 5 (.int .i64 m) rfl
        have l6 := B4.out.at 6 (.string t) rfl
        have k0 := B4.out.frozen 0
        have k1 := B4.out.frozen 1
        have k2 := B4.out.frozen 2
        have k3 := B4.out.frozen 3
        have k4 := B4.out.frozen 4
        have k5 := B4.out.frozen 5
        have k6 := B4.out.frozen 6
        have RP : Hid (Bk p4 #[.slice A2 n2 c2, .bool d2, .string ty2, .string nm2, .int .i64 kd2, .int .i64 m2, .string t2] 27 _) := Lib.hid (B4.out.put7 (.slice A2 n2 c2) (.bool d2) (.string ty2) (.string nm2) (.int .i64 kd2) (.int .i64 m2) (.string t2))
        have ZP := Lib.hid (Bk.other7 ZB.out hp.out.1 (.slice A2 n2 c2) (.bool d2) (.string ty2) (.string nm2) (.int .i64 kd2) (.int .i64 m2) (.string t2))
        have QP := Lib.hid (QQ.out.put7 hp.out.2 (.slice A2 n2 c2) (.bool d2) (.string ty2) (.string nm2) (.int .i64 kd2) (.int .i64 m2) (.string t2))
        clear B4 ZB QQ
        go_wp2_with fail
        go_roundw
        case rel =>
          refine ⟨R2, O2, A2, n2, c2, d2, ty2, nm2, kd2, m2, t2, rfl, rfl, RP, ZP, QP, ?_, Lib.hid fun h1 h2 => ?_⟩
          · obtain ⟨f1, f2, f3, f4, f5⟩ := FN.out
            exact Lib.hid ⟨f1, f2, f3, (fun _ _ _ hd => by cases hd), f5⟩
          · have := HMS.out h1 h2
            omega
        case measure =>
          rw [more_yes R hR]
          exact more_less R2 O2 _ (fun h1 h2 => HMS.out h1 h2)

end Go.Proofs.YthekabflbpfjoaaGreatDoor.adr
