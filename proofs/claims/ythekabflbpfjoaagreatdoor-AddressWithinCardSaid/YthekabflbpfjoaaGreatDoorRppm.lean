/- The reference's places: a resource, plain; blocks of eight cells. -/
import Derived.Test.YthekabflbpfjoaaGreatDoorRstm
import Derived.Test.YthekabflbpfjoaaGreatDoorAwym
import Derived.Test.YthekabflbpfjoaaGreatDoorRwom
import Derived.Test.YthekabflbpfjoaaGreatDoorRresm
import Derived.Test.YthekabflbpfjoaaGreatDoorAvem
namespace Go.Proofs.YthekabflbpfjoaaGreatDoor.adr
open Go.RowKit
open Go.Proofs.YthekabflbpfjoaaGreatDoor

theorem word_all (l : List UInt8) : (word l).all idc = true := takeWhile_all l
theorem word_split (l : List UInt8) : l = word l ++ l.drop (word l).length := takeWhile_split l
theorem rdR'_ref (d : Bool) (t : List UInt8) : rdR' d t = if isTy (word t) = true ∧ (t.drop (word t).length).head? = some 46 then (match rdNm (t.drop ((word t).length + 1)) with | some (st, []) => some ⟨d, ⟨(word t).toArray⟩, st.name, st.key⟩ | _ => none) else none := by
  by_cases hh : (t.drop (word t).length).head? = some 46
  · have h2 : t = word t ++ 46 :: (t.drop (word t).length).drop 1 := by
      have h3 := word_split t
      rw [← head_at hh]
      exact h3
    have hne : (word t).all (fun x => x != 46) = true := by
      have := word_all t
      rw [List.all_eq_true] at this ⊢
      intro x hx
      have h4 := this x hx
      rw [bne_iff_ne]
      rintro rfl
      rw [idc_dot] at h4
      cases h4
    have hc : cutD 46 t = word t := by
      have h5 := cutD_app (b := (t.drop (word t).length).drop 1) hne
      rw [← h2] at h5
      exact h5
    unfold rdR'
    rw [hc]
    cases ht : isTy (word t) with
    | true => rw [if_pos ⟨rfl, hh⟩]; rfl
    | false =>
      rw [if_neg (fun x => by cases x.1)]
      split
      · rfl
      · rfl
  · rw [if_neg (fun x => hh x.2)]
    cases hx : rdR' d t with
    | none => rfl
    | some r =>
      exfalso
      obtain ⟨h1, _, h3⟩ := rdR'_inv d t r hx
      have hty := (chkR_ok h3).1
      have hw : word t = r.type.data.toList := by
        rw [h1]
        exact takeWhile_app (isId_all (isTy_id hty)) (fun c hc => by
          simp only [List.head?_cons, Option.some.injEq] at hc
          rw [← hc]
          exact idc_dot)
      apply hh
      rw [hw, h1, List.drop_left]
      rfl

/-- A block of a place. -/
def Pl (p : Nat) (a b c d e f g h : Value) (w : World) : Prop := Bk p #[a, b, c, d, e, f, g, h] 63 w
section
variable {p : Nat} {a b c d e f g h : Value} {w w' : World}
theorem Pl.stays (k : Pl p a b c d e f g h w) (q : Q w w') : Pl p a b c d e f g h w' := Bk.stays k q
theorem Pl.kept {B : Nat} (k : Pl p a b c d e f g h w) (q : Kp B w w') : Pl p a b c d e f g h w' := (q.other p _ _ _ (by decide) k).trans k
theorem Pl.lt (k : Pl p a b c d e f g h w) : p < w.heap.size := Bk.lt k
theorem Pl.other (k : Pl p a b c d e f g h w) {q : Nat} (hq : p ≠ q) (j : Nat) (u : Value) : Pl p a b c d e f g h (w.setCell ⟨q, j, none⟩ u) := Bk.other k hq j u
theorem Pl.cells (k : Pl p a b c d e f g h w) : w.cell? ⟨p, 0, none⟩ = some a ∧ w.cell? ⟨p, 1, none⟩ = some b ∧ w.cell? ⟨p, 2, none⟩ = some c ∧ w.cell? ⟨p, 3, none⟩ = some d ∧ w.cell? ⟨p, 4, none⟩ = some e ∧ w.cell? ⟨p, 5, none⟩ = some f ∧ w.cell? ⟨p, 6, none⟩ = some g ∧ w.cell? ⟨p, 7, none⟩ = some h :=
  ⟨Bk.at k 0 _ rfl, Bk.at k 1 _ rfl, Bk.at k 2 _ rfl, Bk.at k 3 _ rfl, Bk.at k 4 _ rfl, Bk.at k 5 _ rfl, Bk.at k 6 _ rfl, Bk.at k 7 _ rfl⟩
theorem Pl.marks (k : Pl p a b c d e f g h w) : w.frozen? ⟨p, 0, none⟩ = false ∧ w.frozen? ⟨p, 1, none⟩ = false ∧ w.frozen? ⟨p, 2, none⟩ = false ∧ w.frozen? ⟨p, 3, none⟩ = false ∧ w.frozen? ⟨p, 4, none⟩ = false ∧ w.frozen? ⟨p, 5, none⟩ = false ∧ w.frozen? ⟨p, 6, none⟩ = false ∧ w.frozen? ⟨p, 7, none⟩ = false :=
  ⟨Bk.frozen k 0, Bk.frozen k 1, Bk.frozen k 2, Bk.frozen k 3, Bk.frozen k 4, Bk.frozen k 5, Bk.frozen k 6, Bk.frozen k 7⟩
theorem Pl.set0 (k : Pl p a b c d e f g h w) (u : Value) : Pl p u b c d e f g h (w.setCell ⟨p, 0, none⟩ u) := Bk.set k 0 u
theorem Pl.set1 (k : Pl p a b c d e f g h w) (u : Value) : Pl p a u c d e f g h (w.setCell ⟨p, 1, none⟩ u) := Bk.set k 1 u
theorem Pl.set2 (k : Pl p a b c d e f g h w) (u : Value) : Pl p a b u d e f g h (w.setCell ⟨p, 2, none⟩ u) := Bk.set k 2 u
theorem Pl.set3 (k : Pl p a b c d e f g h w) (u : Value) : Pl p a b c u e f g h (w.setCell ⟨p, 3, none⟩ u) := Bk.set k 3 u
theorem Pl.set4 (k : Pl p a b c d e f g h w) (u : Value) : Pl p a b c d u f g h (w.setCell ⟨p, 4, none⟩ u) := Bk.set k 4 u
theorem Pl.set5 (k : Pl p a b c d e f g h w) (u : Value) : Pl p a b c d e u g h (w.setCell ⟨p, 5, none⟩ u) := Bk.set k 5 u
theorem Pl.set6 (k : Pl p a b c d e f g h w) (u : Value) : Pl p a b c d e f u h (w.setCell ⟨p, 6, none⟩ u) := Bk.set k 6 u
theorem Pl.set7 (k : Pl p a b c d e f g h w) (u : Value) : Pl p a b c d e f g u (w.setCell ⟨p, 7, none⟩ u) := Bk.set k 7 u
end
theorem Pl.put8 {p : Nat} {a b c d e f g h : Value} {w : World} (k : Pl p a b c d e f g h w) (x0 x1 x2 x3 x4 x5 x6 x7 : Value) : Pl p x0 x1 x2 x3 x4 x5 x6 x7 ((((((((w.setCell ⟨p, 0, none⟩ x0).setCell ⟨p, 1, none⟩ x1).setCell ⟨p, 2, none⟩ x2).setCell ⟨p, 3, none⟩ x3).setCell ⟨p, 4, none⟩ x4).setCell ⟨p, 5, none⟩ x5).setCell ⟨p, 6, none⟩ x6).setCell ⟨p, 7, none⟩ x7) := by
  have k0 := k.set0 x0
  have k1 := k0.set1 x1
  have k2 := k1.set2 x2
  have k3 := k2.set3 x3
  have k4 := k3.set4 x4
  have k5 := k4.set5 x5
  have k6 := k5.set6 x6
  exact k6.set7 x7
theorem Q.put8 {b w : World} (k : Q b w) {p : Nat} (hp : b.heap.size ≤ p) (x0 x1 x2 x3 x4 x5 x6 x7 : Value) : Q b ((((((((w.setCell ⟨p, 0, none⟩ x0).setCell ⟨p, 1, none⟩ x1).setCell ⟨p, 2, none⟩ x2).setCell ⟨p, 3, none⟩ x3).setCell ⟨p, 4, none⟩ x4).setCell ⟨p, 5, none⟩ x5).setCell ⟨p, 6, none⟩ x6).setCell ⟨p, 7, none⟩ x7) :=
  (((((((k.put hp 0 x0).put hp 1 x1).put hp 2 x2).put hp 3 x3).put hp 4 x4).put hp 5 x5).put hp 6 x6).put hp 7 x7
theorem Sr.put8 {B : Nat} {v : Value} {l : List St} {p : Nat} {a b c d e f g h : Value} {w : World} (k : Sr B v l w) (hb : Pl p a b c d e f g h w) (x0 x1 x2 x3 x4 x5 x6 x7 : Value) : Sr B v l ((((((((w.setCell ⟨p, 0, none⟩ x0).setCell ⟨p, 1, none⟩ x1).setCell ⟨p, 2, none⟩ x2).setCell ⟨p, 3, none⟩ x3).setCell ⟨p, 4, none⟩ x4).setCell ⟨p, 5, none⟩ x5).setCell ⟨p, 6, none⟩ x6).setCell ⟨p, 7, none⟩ x7) := by
  have g0 := k.put hb (by decide) 0 x0
  have b0 := hb.set0 x0
  have g1 := g0.put b0 (by decide) 1 x1
  have b1 := b0.set1 x1
  have g2 := g1.put b1 (by decide) 2 x2
  have b2 := b1.set2 x2
  have g3 := g2.put b2 (by decide) 3 x3
  have b3 := b2.set3 x3
  have g4 := g3.put b3 (by decide) 4 x4
  have b4 := b3.set4 x4
  have g5 := g4.put b4 (by decide) 5 x5
  have b5 := b4.set5 x5
  have g6 := g5.put b5 (by decide) 6 x6
  have b6 := b5.set6 x6
  exact g6.put b6 (by decide) 7 x7

/-- What place hands back. -/
def PlE (l : List UInt8) (w : World) (e : Ending) (w' : World) : Prop := ∃ (A : Option Addr) (n c : Nat) (r : Rs) (wh ok : Bool), e = .returned (.tuple #[.agg #[.slice A n c, .bool r.data, .string r.type, .string r.name, .int .i64 r.key.kind, .int .i64 r.key.num, .string r.key.str, .bool wh], .bool ok]) ∧
  (match full l with | none => ok = false ∧ r = Rs.zero ∧ n = 0 | some (ms, x) => ok = true ∧ Sr w.heap.size (.slice A n c) ms w' ∧ r = x.getD Rs.zero ∧ wh = x.isSome) ∧ Q w w'
theorem PlE.no {l : List UInt8} {w w' : World} (h : full l = none) (q : Q w w') : PlE l w (.returned (.tuple #[.agg #[.slice none 0 0, .bool false, .string ⟨#[]⟩, .string ⟨#[]⟩, .int .i64 0, .int .i64 0, .string ⟨#[]⟩, .bool false], .bool false])) w' :=
  ⟨none, 0, 0, Rs.zero, false, false, rfl, by rw [h]; exact ⟨rfl, rfl, rfl⟩, q⟩
theorem PlE.path {l : List UInt8} {w w' : World} {A : Option Addr} {n c : Nat} {ms : List St} (h : full l = some (ms, none)) (hv : Sr w.heap.size (.slice A n c) ms w') (q : Q w w') : PlE l w (.returned (.tuple #[.agg #[.slice A n c, .bool false, .string ⟨#[]⟩, .string ⟨#[]⟩, .int .i64 0, .int .i64 0, .string ⟨#[]⟩, .bool false], .bool true])) w' :=
  ⟨A, n, c, Rs.zero, false, true, rfl, by rw [h]; exact ⟨rfl, hv, rfl, rfl⟩, q⟩
theorem PlE.whole {l : List UInt8} {w w' : World} {A : Option Addr} {n c : Nat} {ms : List St} {d : Bool} {ty nm : ByteArray} {kd m : Int} {t : ByteArray} (h : full l = some (ms, some ⟨d, ty, nm, ⟨kd, m, t⟩⟩)) (hv : Sr w.heap.size (.slice A n c) ms w') (q : Q w w') : PlE l w (.returned (.tuple #[.agg #[.slice A n c, .bool d, .string ty, .string nm, .int .i64 kd, .int .i64 m, .string t, .bool true], .bool true])) w' :=
  ⟨A, n, c, ⟨d, ty, nm, ⟨kd, m, t⟩⟩, true, true, rfl, by rw [h]; exact ⟨rfl, hv, rfl, rfl⟩, q⟩
def strLen : Value → Nat
  | .string s => s.size
  | _ => 0

end Go.Proofs.YthekabflbpfjoaaGreatDoor.adr
