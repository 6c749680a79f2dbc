/- What is read of a text: a name with its key, a resource; rows of module steps. -/
import Derived.Test.YthekabflbpfjoaaGreatDoorAwwm
namespace Go.Proofs.YthekabflbpfjoaaGreatDoor.adr
open Go.RowKit
open Go.Proofs.YthekabflbpfjoaaGreatDoor

/-- What a reader of a name with its key hands back. -/
def NmEnds (o : Option (St × List UInt8)) (s : St) (r : ByteArray) (ok : Bool) : Prop :=
  match o with
  | none => ok = false
  | some (s', r') => ok = true ∧ s = s' ∧ r.data.toList = r'
def sv (s : St) : Value := .agg #[.string s.name, .int .i64 s.key.kind, .int .i64 s.key.num, .string s.key.str]
theorem Bk.put4 {p : Nat} {a b c d : Value} {t : TypeId} {w : World} (h : Bk p #[a, b, c, d] t w) (x y z u : Value) :
    Bk p #[x, y, z, u] t ((((w.setCell ⟨p, 0, none⟩ x).setCell ⟨p, 1, none⟩ y).setCell ⟨p, 2, none⟩ z).setCell ⟨p, 3, none⟩ u) := (((h.set 0 x).set 1 y).set 2 z).set 3 u
theorem Q.put4 {a b : World} (h : Q a b) {p : Nat} (hp : a.heap.size ≤ p) (x y z u : Value) :
    Q a ((((b.setCell ⟨p, 0, none⟩ x).setCell ⟨p, 1, none⟩ y).setCell ⟨p, 2, none⟩ z).setCell ⟨p, 3, none⟩ u) := (((h.put hp 0 x).put hp 1 y).put hp 2 z).put hp 3 u
theorem Bk.other3 {p q : Nat} {cs : Array Value} {t : TypeId} {w : World} (h : Bk p cs t w) (hq : p ≠ q) (x y z : Value) :
    Bk p cs t (((w.setCell ⟨q, 0, none⟩ x).setCell ⟨q, 1, none⟩ y).setCell ⟨q, 2, none⟩ z) := ((h.other hq 0 x).other hq 1 y).other hq 2 z

def Sees (p p7 : Nat) (v0 v1 v2 v3 a b c : Value) (t t7 : TypeId) (w w' : World) : Prop := Bk p #[v0, v1, v2, v3] t w' ∧ Bk p7 #[a, b, c] t7 w' ∧ Q w w'
theorem Sees.out {p p7 : Nat} {v0 v1 v2 v3 a b c : Value} {t t7 : TypeId} {w w' : World} (h : Sees p p7 v0 v1 v2 v3 a b c t t7 w w') :
    w'.cell? ⟨p7, 0, none⟩ = some a ∧ w'.cell? ⟨p7, 1, none⟩ = some b ∧ w'.cell? ⟨p7, 2, none⟩ = some c ∧
    w'.cell? ⟨p, 0, none⟩ = some v0 ∧ w'.cell? ⟨p, 1, none⟩ = some v1 ∧ w'.cell? ⟨p, 2, none⟩ = some v2 ∧ w'.cell? ⟨p, 3, none⟩ = some v3 ∧
    w'.frozen? ⟨p, 0, none⟩ = false ∧ w'.frozen? ⟨p, 1, none⟩ = false ∧ w'.frozen? ⟨p, 2, none⟩ = false ∧ w'.frozen? ⟨p, 3, none⟩ = false ∧
    Hid (Sees p p7 v0 v1 v2 v3 a b c t t7 w w') :=
  ⟨h.2.1.at 0 _ rfl, h.2.1.at 1 _ rfl, h.2.1.at 2 _ rfl, h.1.at 0 _ rfl, h.1.at 1 _ rfl, h.1.at 2 _ rfl, h.1.at 3 _ rfl, h.1.frozen 0, h.1.frozen 1, h.1.frozen 2, h.1.frozen 3, h⟩
theorem Sees.stays {p p7 : Nat} {v0 v1 v2 v3 a b c : Value} {t t7 : TypeId} {w w' w2 : World} (h : Sees p p7 v0 v1 v2 v3 a b c t t7 w w') (q : Q w' w2) : Sees p p7 v0 v1 v2 v3 a b c t t7 w w2 :=
  ⟨h.1.stays q, h.2.1.stays q, h.2.2.trans q⟩

set_option maxHeartbeats 2000000 in
theorem readNamed_no (s NM : ByteArray) (m : Nat) (w : World) (_hs : s.size ≤ 1000000) (hm : m ≤ s.size) (e1 : s.extract 0 m = NM)
  (cL : Hid (∀ w', Calls Tryz.prog 56 #[.string s] w' fun e w'' => e = .returned (.int .i64 m) ∧ w' = w''))
  (cI : Hid (∀ w', Calls Tryz.prog 25 #[.string NM] w' fun e w'' => e = .returned (.bool false) ∧ w' = w'')) :
    Calls Tryz.prog 67 #[.string s] w fun e w' => e = .returned (.tuple #[sv ⟨⟨#[]⟩, K.zero⟩, .string ⟨#[]⟩, .bool false]) ∧ Q w w' := by
  go_enter Tryz.func67, Tryz.ntmps67
  go_wp2_with fail
  refine (cL.out _).mono ?_; rintro e w2 ⟨rfl, rfl⟩
  go_wp2_with fail
  refine (cI.out _).mono ?_; rintro e w2 ⟨rfl, rfl⟩
  have b1 := Lib.hid (Bk.new #[.string ⟨#[]⟩, .int .i64 0, .int .i64 0, .string ⟨#[]⟩] 44 w)
  have Q1 := Lib.hid (Q.alloc w (.cells #[.string ⟨#[]⟩, .int .i64 0, .int .i64 0, .string ⟨#[]⟩] 44))
  generalize w.alloc (.cells #[.string ⟨#[]⟩, .int .i64 0, .int .i64 0, .string ⟨#[]⟩] 44) = w1 at *
  have z0 := b1.out.frozen 0
  have z1 := b1.out.frozen 1
  have z2 := b1.out.frozen 2
  have z3 := b1.out.frozen 3
  have x0 := b1.out.at 0 _ rfl
  have x1 := b1.out.at 1 _ rfl
  have x2 := b1.out.at 2 _ rfl
  have x3 := b1.out.at 3 _ rfl
  have bp := b1.out.put4 (.string ⟨#[]⟩) (.int .i64 0) (.int .i64 0) (.string ⟨#[]⟩)
  have y0 := bp.at 0 _ rfl
  have y1 := bp.at 1 _ rfl
  have y2 := bp.at 2 _ rfl
  have y3 := bp.at 3 _ rfl
  have QP := Lib.hid (Q1.out.put4 (Nat.le_refl _) (.string ⟨#[]⟩) (.int .i64 0) (.int .i64 0) (.string ⟨#[]⟩))
  clear bp b1 Q1
  go_wp2_with fail
  refine bodyPost_ret (by simp [results, Tryz.results67, go_sem, y0, y1, y2, y3]; try rfl) rfl ?_
  exact ⟨rfl, QP.out⟩

set_option maxHeartbeats 4000000 in
theorem readNamed_ex (s NM KR : ByteArray) (KO : Option (K × List UInt8)) (m : Nat) (w : World) (_hs : s.size ≤ 1000000) (hm : m ≤ s.size) (e1 : s.extract 0 m = NM) (e2 : s.extract m s.size = KR)
  (cL : Hid (∀ w', Calls Tryz.prog 56 #[.string s] w' fun e w'' => e = .returned (.int .i64 m) ∧ w' = w''))
  (cI : Hid (∀ w', Calls Tryz.prog 25 #[.string NM] w' fun e w'' => e = .returned (.bool true) ∧ w' = w''))
  (cK : Hid (∀ w', Q w w' → Calls Tryz.prog 88 #[.string KR] w' fun e w'' => ∃ k r ok, e = .returned (.tuple #[kv k, .string r, .bool ok]) ∧ KeyEnds KO k r ok ∧ Q w' w''))
  (cC : Hid (∀ w', Calls Tryz.prog 87 #[.string NM] w' fun e w'' => e = .returned (.string NM) ∧ Q w' w''))
  {NO : Option (St × List UInt8)} (hmain : Hid (∀ k r ok, KeyEnds KO k r ok → NmEnds NO ⟨NM, k⟩ r ok)) :
    Calls Tryz.prog 67 #[.string s] w fun e w' => ∃ st r ok, e = .returned (.tuple #[sv st, .string r, .bool ok]) ∧ NmEnds NO st r ok ∧ Q w w' := by
  go_enter Tryz.func67, Tryz.ntmps67
  go_wp2_with fail
  refine (cL.out _).mono ?_; rintro e w2 ⟨rfl, rfl⟩
  go_wp2_with fail
  refine (cI.out _).mono ?_; rintro e w2 ⟨rfl, rfl⟩
  go_wp2_with fail
  refine (cK.out _ (Q.alloc _ _)).mono ?_; rintro e w1 ⟨⟨kd, n, t⟩, r, ok, rfl, hke, q1⟩
  have HK := Lib.hid (hmain.out _ _ _ hke)
  clear hke hmain cK
  unfold kv
  simp only
  have b1 := Lib.hid ((Bk.new _ _ w).stays q1)
  have Q1 := Lib.hid ((Q.alloc w _).trans q1)
  clear q1
  go_wp2_with fail
  have hS : Hid (Sees w.heap.size w1.heap.size (.string ⟨#[]⟩) (.int .i64 0) (.int .i64 0) (.string ⟨#[]⟩) (.int .i64 kd) (.int .i64 n) (.string t) 44 25 w (w1.alloc (.cells #[.int .i64 kd, .int .i64 n, .string t] 25)).drew) := Lib.hid (Sees.stays ⟨b1.out.stays (Q.alloc _ _), Bk.new _ _ _, Q1.out.trans (Q.alloc _ _)⟩ (Q.drewN _ 1))
  have hlt : w.heap.size ≠ w1.heap.size := by have := b1.out.lt; omega
  have Hlt := Lib.hid hlt
  clear b1 Q1 hlt
  generalize w1.alloc (.cells #[.int .i64 kd, .int .i64 n, .string t] 25) = w0 at *
  generalize w1.heap.size = p7 at *
  obtain ⟨c0, c1, c2, x0, x1, x2, x3, z0, z1, z2, z3, hS2⟩ := hS.out.out
  have cC' : Hid (∀ w', Sees w.heap.size p7 (.string ⟨#[]⟩) (.int .i64 0) (.int .i64 0) (.string ⟨#[]⟩) (.int .i64 kd) (.int .i64 n) (.string t) 44 25 w w' → Calls Tryz.prog 87 #[.string NM] w' fun e w'' => e = .returned (.string NM) ∧ Sees w.heap.size p7 (.string ⟨#[]⟩) (.int .i64 0) (.int .i64 0) (.string ⟨#[]⟩) (.int .i64 kd) (.int .i64 n) (.string t) 44 25 w w'') := fun w' h => (cC.out w').mono fun _ _ ⟨he, hq⟩ => ⟨he, h.stays hq⟩
  go_region_with ((go_at_call 87; refine (cC'.out _ hS.out).mono ?_; rintro e w3 ⟨rfl, h3⟩; obtain ⟨c0', c1', c2', x0', x1', x2', x3', z0', z1', z2', z3', hS3⟩ := h3.out))
  all_goals
    have bp := hS3.out.1.put4 (.string NM) (.int .i64 kd) (.int .i64 n) (.string t)
    have y0 := bp.at 0 _ rfl
    have y1 := bp.at 1 _ rfl
    have y2 := bp.at 2 _ rfl
    have y3 := bp.at 3 _ rfl
    have QP := Lib.hid (hS3.out.2.2.put4 (Nat.le_refl _) (.string NM) (.int .i64 kd) (.int .i64 n) (.string t))
    clear bp
    go_wp2_with fail
    refine bodyPost_ret (by simp [results, Tryz.results67, go_sem, y0, y1, y2, y3]; try rfl) rfl ?_
    exact ⟨⟨NM, ⟨kd, n, t⟩⟩, r, ok, rfl, HK.out, QP.out⟩


theorem readNamed_any (s : ByteArray) (w : World) (f : Fa w) (hs : s.size ≤ 1000000) :
    Calls Tryz.prog 67 #[.string s] w fun e w' => ∃ st r ok, e = .returned (.tuple #[sv st, .string r, .bool ok]) ∧ NmEnds (rdNm s.data.toList) st r ok ∧ Q w w' := by
  have hlen : s.data.toList.length = s.size := by simp
  have hle : (word s.data.toList).length ≤ s.size := by
    have := congrArg List.length (takeWhile_split (p := idc) s.data.toList)
    rw [List.length_append] at this
    have h2 : (s.data.toList.takeWhile idc).length = (word s.data.toList).length := rfl
    omega
  have hw : (s.extract 0 (word s.data.toList).length).data.toList = word s.data.toList := by
    rw [ext_of]
    have := takeWhile_split (p := idc) s.data.toList
    have h2 : s.data.toList.takeWhile idc = word s.data.toList := rfl
    rw [h2] at this
    generalize word s.data.toList = x at *
    rw [this, List.take_left]
  have cI := fun w' => identifier_any (s.extract 0 (word s.data.toList).length) w' (by rw [Lib.size_eq, hw]; omega)
  rw [hw] at cI
  have e0 : (⟨(word s.data.toList).toArray⟩ : ByteArray) = s.extract 0 (word s.data.toList).length := ba_ext (by rw [ba_list, hw])
  cases hi : isId (word s.data.toList) with
  | false =>
    rw [hi] at cI
    refine (readNamed_no s _ _ w hs hle rfl (fun w' => nameLength_any s w' hs) cI).mono ?_
    rintro e w' ⟨rfl, q⟩
    refine ⟨_, _, _, rfl, ?_, q⟩
    unfold rdNm
    rw [if_neg (by rw [hi]; decide)]
    rfl
  | true =>
    rw [hi] at cI
    have hsz : (s.extract 0 (word s.data.toList).length).size ≤ 1000000 := by rw [Lib.size_eq, hw]; omega
    have hk : (s.extract (word s.data.toList).length s.size).data.toList = s.data.toList.drop (word s.data.toList).length := ext_to _ _
    have hsk : (s.extract (word s.data.toList).length s.size).size ≤ 1000000 := by rw [Lib.size_eq, hk, List.length_drop]; omega
    have main : ∀ k r ok, KeyEnds (rdK (s.data.toList.drop (word s.data.toList).length)) k r ok → NmEnds (rdNm s.data.toList) ⟨s.extract 0 (word s.data.toList).length, k⟩ r ok := by
      intro k r ok h
      unfold rdNm
      rw [if_pos hi, e0]
      cases hx : rdK (s.data.toList.drop (word s.data.toList).length) with
      | none => rw [hx] at h; exact h
      | some y =>
        obtain ⟨k', r'⟩ := y
        rw [hx] at h
        obtain ⟨h1, h2, h3⟩ := h
        exact ⟨h1, by rw [h2], h3⟩
    exact readNamed_ex s _ _ _ _ w hs hle rfl rfl (fun w' => nameLength_any s w' hs) cI (fun w' q => by
      have := readKey_any (s.extract (word s.data.toList).length s.size) w' (q.fa f) hsk
      rwa [hk] at this) (fun w' => clone_any _ w' hsz) (Lib.hid main)

/-! ### a resource -/
def Rs.zero : Rs := ⟨false, ⟨#[]⟩, ⟨#[]⟩, K.zero⟩
def rv (v : Value) (r : Rs) : Value := .agg #[v, .bool r.data, .string r.type, .string r.name, .int .i64 r.key.kind, .int .i64 r.key.num, .string r.key.str]
def RsEnds (o : Option Rs) (r : Rs) (ok : Bool) : Prop :=
  match o with
  | none => ok = false ∧ r = Rs.zero
  | some r' => ok = true ∧ r = r'
theorem Bk.put7 {p : Nat} {a b c d e f g : Value} {t : TypeId} {w : World} (h : Bk p #[a, b, c, d, e, f, g] t w) (x0 x1 x2 x3 x4 x5 x6 : Value) :
    Bk p #[x0, x1, x2, x3, x4, x5, x6] t (((((((w.setCell ⟨p, 0, none⟩ x0).setCell ⟨p, 1, none⟩ x1).setCell ⟨p, 2, none⟩ x2).setCell ⟨p, 3, none⟩ x3).setCell ⟨p, 4, none⟩ x4).setCell ⟨p, 5, none⟩ x5).setCell ⟨p, 6, none⟩ x6) := by
  have h0 : Bk p #[x0, b, c, d, e, f, g] t (w.setCell ⟨p, 0, none⟩ x0) := h.set 0 x0
  have h1 : Bk p #[x0, x1, c, d, e, f, g] t ((w.setCell ⟨p, 0, none⟩ x0).setCell ⟨p, 1, none⟩ x1) := h0.set 1 x1
  have h2 : Bk p #[x0, x1, x2, d, e, f, g] t (((w.setCell ⟨p, 0, none⟩ x0).setCell ⟨p, 1, none⟩ x1).setCell ⟨p, 2, none⟩ x2) := h1.set 2 x2
  have h3 : Bk p #[x0, x1, x2, x3, e, f, g] t ((((w.setCell ⟨p, 0, none⟩ x0).setCell ⟨p, 1, none⟩ x1).setCell ⟨p, 2, none⟩ x2).setCell ⟨p, 3, none⟩ x3) := h2.set 3 x3
  have h4 : Bk p #[x0, x1, x2, x3, x4, f, g] t (((((w.setCell ⟨p, 0, none⟩ x0).setCell ⟨p, 1, none⟩ x1).setCell ⟨p, 2, none⟩ x2).setCell ⟨p, 3, none⟩ x3).setCell ⟨p, 4, none⟩ x4) := h3.set 4 x4
  have h5 : Bk p #[x0, x1, x2, x3, x4, x5, g] t ((((((w.setCell ⟨p, 0, none⟩ x0).setCell ⟨p, 1, none⟩ x1).setCell ⟨p, 2, none⟩ x2).setCell ⟨p, 3, none⟩ x3).setCell ⟨p, 4, none⟩ x4).setCell ⟨p, 5, none⟩ x5) := h4.set 5 x5
  have h6 : Bk p #[x0, x1, x2, x3, x4, x5, x6] t (((((((w.setCell ⟨p, 0, none⟩ x0).setCell ⟨p, 1, none⟩ x1).setCell ⟨p, 2, none⟩ x2).setCell ⟨p, 3, none⟩ x3).setCell ⟨p, 4, none⟩ x4).setCell ⟨p, 5, none⟩ x5).setCell ⟨p, 6, none⟩ x6) := h5.set 6 x6
  exact h6
theorem Q.put7 {a w : World} (h : Q a w) {p : Nat} (hp : a.heap.size ≤ p) (x0 x1 x2 x3 x4 x5 x6 : Value) :
    Q a (((((((w.setCell ⟨p, 0, none⟩ x0).setCell ⟨p, 1, none⟩ x1).setCell ⟨p, 2, none⟩ x2).setCell ⟨p, 3, none⟩ x3).setCell ⟨p, 4, none⟩ x4).setCell ⟨p, 5, none⟩ x5).setCell ⟨p, 6, none⟩ x6) := ((((((h.put hp 0 x0).put hp 1 x1).put hp 2 x2).put hp 3 x3).put hp 4 x4).put hp 5 x5).put hp 6 x6
/-- A block of an address with nothing in it that may be written. -/
def Zb (p : Nat) (w : World) : Prop := Bk p #[.slice none 0 0, .bool false, .string ⟨#[]⟩, .string ⟨#[]⟩, .int .i64 0, .int .i64 0, .string ⟨#[]⟩] 27 w
theorem Zb.stays {p : Nat} {w w' : World} (h : Zb p w) (q : Q w w') : Zb p w' := Bk.stays h q
theorem Zb.out {p : Nat} {w : World} (h : Zb p w) : w.cell? ⟨p, 0, none⟩ = some (.slice none 0 0) ∧ w.cell? ⟨p, 1, none⟩ = some (.bool false) ∧ w.cell? ⟨p, 2, none⟩ = some (.string ⟨#[]⟩) ∧ w.cell? ⟨p, 3, none⟩ = some (.string ⟨#[]⟩) ∧ w.cell? ⟨p, 4, none⟩ = some (.int .i64 0) ∧ w.cell? ⟨p, 5, none⟩ = some (.int .i64 0) ∧ w.cell? ⟨p, 6, none⟩ = some (.string ⟨#[]⟩) ∧ w.frozen? ⟨p, 0, none⟩ = false ∧ w.frozen? ⟨p, 1, none⟩ = false ∧ w.frozen? ⟨p, 2, none⟩ = false ∧ w.frozen? ⟨p, 3, none⟩ = false ∧ w.frozen? ⟨p, 4, none⟩ = false ∧ w.frozen? ⟨p, 5, none⟩ = false ∧ w.frozen? ⟨p, 6, none⟩ = false :=
  ⟨Bk.at h 0 _ rfl, Bk.at h 1 _ rfl, Bk.at h 2 _ rfl, Bk.at h 3 _ rfl, Bk.at h 4 _ rfl, Bk.at h 5 _ rfl, Bk.at h 6 _ rfl, Bk.frozen h 0, Bk.frozen h 1, Bk.frozen h 2, Bk.frozen h 3, Bk.frozen h 4, Bk.frozen h 5, Bk.frozen h 6⟩

/-- The block of the result and that of what was read, side by side. -/
def Two (p p7 : Nat) (nm : ByteArray) (kd n : Int) (t : ByteArray) (w w' : World) : Prop := Zb p w' ∧ Bk p7 #[.string nm, .int .i64 kd, .int .i64 n, .string t] 44 w' ∧ Q w w'
theorem Two.stays {p p7 : Nat} {nm : ByteArray} {kd n : Int} {t : ByteArray} {w w' w2 : World} (h : Two p p7 nm kd n t w w') (q : Q w' w2) : Two p p7 nm kd n t w w2 := ⟨h.1.stays q, h.2.1.stays q, h.2.2.trans q⟩
theorem Two.out {p p7 : Nat} {nm : ByteArray} {kd n : Int} {t : ByteArray} {w w' : World} (h : Two p p7 nm kd n t w w') :
    w'.cell? ⟨p7, 0, none⟩ = some (.string nm) ∧ w'.cell? ⟨p7, 1, none⟩ = some (.int .i64 kd) ∧ w'.cell? ⟨p7, 2, none⟩ = some (.int .i64 n) ∧ w'.cell? ⟨p7, 3, none⟩ = some (.string t) :=
  ⟨h.2.1.at 0 _ rfl, h.2.1.at 1 _ rfl, h.2.1.at 2 _ rfl, h.2.1.at 3 _ rfl⟩
theorem Two.kept {p p7 : Nat} {nm : ByteArray} {kd n : Int} {t : ByteArray} {w w' W : World} {x0 x1 x2 x3 x4 x5 x6 : Value} (h : Two p p7 nm kd n t w w') (hp : p7 ≠ p) (hW : W = (((((((w'.setCell ⟨p, 0, none⟩ x0).setCell ⟨p, 1, none⟩ x1).setCell ⟨p, 2, none⟩ x2).setCell ⟨p, 3, none⟩ x3).setCell ⟨p, 4, none⟩ x4).setCell ⟨p, 5, none⟩ x5).setCell ⟨p, 6, none⟩ x6)) :
    W.cell? ⟨p7, 0, none⟩ = some (.string nm) ∧ W.cell? ⟨p7, 1, none⟩ = some (.int .i64 kd) ∧ W.cell? ⟨p7, 2, none⟩ = some (.int .i64 n) ∧ W.cell? ⟨p7, 3, none⟩ = some (.string t) := by
  subst hW
  have b := ((((((h.2.1.other hp 0 x0).other hp 1 x1).other hp 2 x2).other hp 3 x3).other hp 4 x4).other hp 5 x5).other hp 6 x6
  exact ⟨b.at 0 _ rfl, b.at 1 _ rfl, b.at 2 _ rfl, b.at 3 _ rfl⟩
theorem isEmpty_nil (r : ByteArray) : r.toList.isEmpty = true ↔ r.data.toList = [] := by rw [Lib.toList_data, List.isEmpty_iff]
def rsOf (NO : Option (St × List UInt8)) (d ty : Bool) (KD : ByteArray) : Option Rs :=
  match NO with
  | some (st, []) => if ty = true then some ⟨d, KD, st.name, st.key⟩ else none
  | _ => none
theorem rdR'_eq (d : Bool) (l : List UInt8) : rdR' d l = rsOf (rdNm (l.drop ((cutD 46 l).length + 1))) d (isTy (cutD 46 l)) ⟨(cutD 46 l).toArray⟩ := by
  unfold rdR' rsOf
  rfl
set_option maxHeartbeats 16000000 in
theorem readResource_ex (s S1 S2 KD : ByteArray) (d fd ty : Bool) (NO : Option (St × List UInt8)) (w : World)
  (cP : Hid (∀ w', Calls Tryz.prog 65 #[.string s, .string ⟨#[100, 97, 116, 97, 46]⟩] w' fun e w'' => e = .returned (.tuple #[.string S1, .bool d]) ∧ w' = w''))
  (cC : Hid (∀ w', Q w w' → Calls Tryz.prog 86 #[.string S1, .string ⟨#[46]⟩] w' fun e w'' => e = .returned (.tuple #[.string KD, .string S2, .bool fd]) ∧ Q w' w''))
  (cN : Hid (∀ w', Q w w' → Calls Tryz.prog 67 #[.string S2] w' fun e w'' => ∃ st r ok, e = .returned (.tuple #[sv st, .string r, .bool ok]) ∧ NmEnds NO st r ok ∧ Q w' w''))
  (cT : Hid (∀ w', Calls Tryz.prog 27 #[.string KD] w' fun e w'' => e = .returned (.bool ty) ∧ w' = w''))
  (cL : Hid (∀ w', Calls Tryz.prog 87 #[.string KD] w' fun e w'' => e = .returned (.string KD) ∧ Q w' w'')) :
    Calls Tryz.prog 66 #[.string s] w fun e w' => ∃ r ok, e = .returned (.tuple #[rv (.slice none 0 0) r, .bool ok]) ∧ RsEnds (rsOf NO d ty KD) r ok ∧ Q w w' := by
    go_enter Tryz.func66, Tryz.ntmps66
    go_wp2_with fail
    refine (cP.out _).mono ?_; rintro e w2 ⟨rfl, rfl⟩
    go_wp2_with fail
    refine (cC.out _ (Q.alloc _ _)).mono ?_; rintro e w1 ⟨rfl, q1⟩
    have b1 : Hid (Zb w.heap.size w1) := Lib.hid ((Bk.new _ _ w).stays q1)
    have Q1 := Lib.hid ((Q.alloc w _).trans q1)
    clear q1
    go_wp2_with fail
    refine (cN.out _ Q1.out).mono ?_; rintro e w2 ⟨⟨nm, kd, n, t⟩, r, ok, rfl, hne, q2⟩
    replace b1 := Lib.hid (b1.out.stays q2)
    replace Q1 := Lib.hid (Q1.out.trans q2)
    clear q2
    unfold sv
    simp only
    have hcase : (((ty = false ∨ (ty = true ∧ ok = false) ∨ (ty = true ∧ ok = true ∧ r.toList.isEmpty = false)) ∧ rsOf NO d ty KD = none) ∨
        (ty = true ∧ ok = true ∧ r.toList.isEmpty = true ∧ rsOf NO d ty KD = some ⟨d, KD, nm, ⟨kd, n, t⟩⟩)) := by
      cases NO with
      | none =>
        have : ok = false := hne
        subst this
        left
        cases ty with
        | false => exact ⟨.inl rfl, rfl⟩
        | true => exact ⟨.inr (.inl ⟨rfl, rfl⟩), rfl⟩
      | some y =>
        obtain ⟨st, rr⟩ := y
        obtain ⟨h1, h2, h3⟩ := hne
        subst h1 h2 h3
        cases ty with
        | false =>
          left
          refine ⟨.inl rfl, ?_⟩
          unfold rsOf
          cases r.data.toList <;> rfl
        | true =>
          cases hx : r.toList.isEmpty with
          | true =>
            right
            refine ⟨rfl, rfl, rfl, ?_⟩
            rw [isEmpty_nil] at hx
            unfold rsOf
            rw [hx]
            rfl
          | false =>
            left
            refine ⟨.inr (.inr ⟨rfl, rfl, rfl⟩), ?_⟩
            cases hy : r.data.toList with
            | nil => rw [(isEmpty_nil r).2 hy] at hx; cases hx
            | cons a b => unfold rsOf; rfl
    clear hne cN
    rcases hcase with ⟨hno, hro⟩ | ⟨rfl, rfl, hr, hro⟩
    · rcases hno with rfl | ⟨rfl, rfl⟩ | ⟨rfl, rfl, hr⟩
      all_goals
        replace hro := Lib.hid hro
        go_wp2_with fail
        refine (cT.out _).mono ?_; rintro e w3 ⟨rfl, rfl⟩
        replace b1 := Lib.hid (b1.out.stays (Q.alloc w2 (.cells #[.string nm, .int .i64 kd, .int .i64 n, .string t] 44)))
        replace Q1 := Lib.hid (Q1.out.trans (Q.alloc w2 (.cells #[.string nm, .int .i64 kd, .int .i64 n, .string t] 44)))
        generalize w2.alloc (.cells #[.string nm, .int .i64 kd, .int .i64 n, .string t] 44) = w4 at *
        obtain ⟨a0, a1, a2, a3, a4, a5, a6, z0, z1, z2, z3, z4, z5, z6⟩ := b1.out.out
        have bp := Bk.put7 b1.out (.slice none 0 0) (.bool false) (.string ⟨#[]⟩) (.string ⟨#[]⟩) (.int .i64 0) (.int .i64 0) (.string ⟨#[]⟩)
        have y0 := bp.at 0 _ rfl
        have y1 := bp.at 1 _ rfl
        have y2 := bp.at 2 _ rfl
        have y3 := bp.at 3 _ rfl
        have y4 := bp.at 4 _ rfl
        have y5 := bp.at 5 _ rfl
        have y6 := bp.at 6 _ rfl
        have QP := Lib.hid (Q1.out.put7 (Nat.le_refl _) (.slice none 0 0) (.bool false) (.string ⟨#[]⟩) (.string ⟨#[]⟩) (.int .i64 0) (.int .i64 0) (.string ⟨#[]⟩))
        clear bp b1 Q1
        go_wp2_with fail
        refine bodyPost_ret (by simp [results, Tryz.results66, go_sem, y0, y1, y2, y3, y4, y5, y6]; try rfl) rfl ?_
        exact ⟨Rs.zero, false, rfl, by rw [hro.out]; exact ⟨rfl, rfl⟩, QP.out⟩

    · replace hro := Lib.hid hro
      go_wp2_with fail
      refine (cT.out _).mono ?_; rintro e w3 ⟨rfl, rfl⟩
      have hS : Hid (Two w.heap.size w2.heap.size nm kd n t w (w2.alloc (.cells #[.string nm, .int .i64 kd, .int .i64 n, .string t] 44))) := Lib.hid ⟨b1.out.stays (Q.alloc _ _), Bk.new _ _ _, Q1.out.trans (Q.alloc _ _)⟩
      have hlt : Hid (w2.heap.size ≠ w.heap.size) := Lib.hid (by have := b1.out; have := Bk.lt this; omega)
      clear b1 Q1
      generalize w2.alloc (.cells #[.string nm, .int .i64 kd, .int .i64 n, .string t] 44) = w0 at *
      generalize w2.heap.size = p7 at *
      go_wp2_with fail
      replace hS : Hid (Two w.heap.size p7 nm kd n t w w0.drew) := Lib.hid (hS.out.stays (Q.drewN _ 1))
      have cC' : Hid (∀ w', Two w.heap.size p7 nm kd n t w w' → Calls Tryz.prog 87 #[.string KD] w' fun e w'' => e = .returned (.string KD) ∧ Two w.heap.size p7 nm kd n t w w'') := fun w' h => (cL.out w').mono fun _ _ ⟨he, hq⟩ => ⟨he, h.stays hq⟩
      clear cP cC cT cL
      go_region_held3 (fun w' => w'.cell? ⟨p7, 0, none⟩ = some (.string nm) ∧ w'.cell? ⟨p7, 1, none⟩ = some (.int .i64 kd) ∧ w'.cell? ⟨p7, 2, none⟩ = some (.int .i64 n) ∧ w'.cell? ⟨p7, 3, none⟩ = some (.string t))
        (first | (with_reducible exact hS.out.out) | (with_reducible exact h3.out) | (exact Two.kept h3 hlt.out rfl))
        ((go_at_call 87; refine (cC'.out _ hS.out).mono ?_; rintro e w3 ⟨rfl, h3⟩; obtain ⟨a0', a1', a2', a3', a4', a5', a6', z0', z1', z2', z3', z4', z5', z6'⟩ := h3.1.out))
      have bp := Bk.put7 h3.1 (.slice none 0 0) (.bool d) (.string KD) (.string nm) (.int .i64 kd) (.int .i64 n) (.string t)
      have y0 := bp.at 0 _ rfl
      have y1 := bp.at 1 _ rfl
      have y2 := bp.at 2 _ rfl
      have y3 := bp.at 3 _ rfl
      have y4 := bp.at 4 _ rfl
      have y5 := bp.at 5 _ rfl
      have y6 := bp.at 6 _ rfl
      have QP := Lib.hid (h3.2.2.put7 (Nat.le_refl _) (.slice none 0 0) (.bool d) (.string KD) (.string nm) (.int .i64 kd) (.int .i64 n) (.string t))
      clear bp h3
      go_wp2_with fail
      refine bodyPost_ret (by simp [results, Tryz.results66, go_sem, y0, y1, y2, y3, y4, y5, y6]; try rfl) rfl ?_
      exact ⟨⟨d, KD, nm, ⟨kd, n, t⟩⟩, true, rfl, by rw [hro.out]; exact ⟨rfl, rfl⟩, QP.out⟩
theorem readResource_any (s : ByteArray) (w : World) (f : Fa w) (hs : s.size ≤ 1000000) :
    Calls Tryz.prog 66 #[.string s] w fun e w' => ∃ r ok, e = .returned (.tuple #[rv (.slice none 0 0) r, .bool ok]) ∧ RsEnds (rdR s.data.toList) r ok ∧ Q w w' := by
  have hlen : s.data.toList.length = s.size := by simp
  have e5 : (⟨#[100, 97, 116, 97, 46]⟩ : ByteArray).data.toList = dataB := rfl
  have cP := fun w' => cutPrefix_any s ⟨#[100, 97, 116, 97, 46]⟩ w'
  rw [e5] at cP
  have htl : (Lib.trimPrefix s.data.toList dataB).length ≤ 1000000 := by
    have := num.trim_le s.data.toList dataB
    omega
  unfold rdR
  generalize Lib.trimPrefix s.data.toList dataB = l at *
  generalize Lib.hasPrefix s.data.toList dataB = d at *
  have cC : ∀ w', Q w w' → Calls Tryz.prog 86 #[.string ⟨l.toArray⟩, .string ⟨#[46]⟩] w' fun e w'' => e = .returned (.tuple #[.string ⟨(cutD 46 l).toArray⟩, .string ⟨(l.drop ((cutD 46 l).length + 1)).toArray⟩, .bool (decide ((cutD 46 l).length < l.length))]) ∧ Q w' w'' := fun w' q => by
    have h := cut_any ⟨l.toArray⟩ 46 w' (q.fa f) (by rw [ba_size]; exact htl)
    rw [ba_list, cut_one] at h
    by_cases hlt : (cutD 46 l).length < l.length
    · rw [if_pos hlt] at h
      rw [decide_eq_true hlt]
      exact h.mono fun _ _ ⟨e, n, hw⟩ => ⟨e, hw ▸ Q.drewN _ n⟩
    · rw [if_neg hlt] at h
      rw [decide_eq_false hlt, cutD_none 46 l hlt, List.drop_of_length_le (by omega)]
      exact h.mono fun _ _ ⟨e, n, hw⟩ => ⟨e, hw ▸ Q.drewN _ n⟩
  have hS2 : (⟨(l.drop ((cutD 46 l).length + 1)).toArray⟩ : ByteArray).size ≤ 1000000 := by rw [ba_size, List.length_drop]; omega
  have hKD : (⟨(cutD 46 l).toArray⟩ : ByteArray).size ≤ 1000000 := by
    have := congrArg List.length (takeWhile_split (p := fun x => x != 46) l)
    rw [List.length_append] at this
    have h2 : (l.takeWhile fun x => x != 46).length = (cutD 46 l).length := rfl
    rw [ba_size]
    omega
  have cT := fun w' => type_any ⟨(cutD 46 l).toArray⟩ w' hKD
  rw [ba_list] at cT
  have cN := fun w' (q : Q w w') => readNamed_any ⟨(l.drop ((cutD 46 l).length + 1)).toArray⟩ w' (q.fa f) hS2
  rw [ba_list] at cN
  have cL := fun w' => clone_any ⟨(cutD 46 l).toArray⟩ w' hKD
  rw [rdR'_eq]
  generalize isTy (cutD 46 l) = ty at *
  generalize rdNm (l.drop ((cutD 46 l).length + 1)) = NO at *
  generalize (⟨(l.drop ((cutD 46 l).length + 1)).toArray⟩ : ByteArray) = S2 at *
  generalize (⟨(cutD 46 l).toArray⟩ : ByteArray) = KD at *
  generalize decide ((cutD 46 l).length < l.length) = fd at *
  exact readResource_ex s _ S2 KD d fd ty NO w cP cC cN cT cL

end Go.Proofs.YthekabflbpfjoaaGreatDoor.adr
