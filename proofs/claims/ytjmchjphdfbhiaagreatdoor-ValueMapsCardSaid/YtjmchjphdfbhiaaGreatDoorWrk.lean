/- The reference's functions, plain: keys (as the machine adds), Small, Equal and Refines as one; The reference's keys, left and Small. -/
import Derived.Test.YtjmchjphdfbhiaaGreatDoorVvi
import Derived.Test.YtjmchjphdfbhiaaGreatDoorVst
import Derived.WalkKit
import Derived.Test.YtjmchjphdfbhiaaGreatDoorWag
import Derived.Test.YtjmchjphdfbhiaaGreatDoorVcq
import Derived.Deep.LoopGhost
namespace Go.Proofs.YtjmchjphdfbhiaaGreatDoor.val
open Go.RowKit
/-! ### keys -/
mutual
def keyW : V → Int
  | ⟨_, _, _, l, ks⟩ => keyWL l ks.length
def keyWL : List V → Int → Int
  | [], n => n
  | v :: t, n => keyWL t (IntKind.i64.wrap (n + keyW v))
end
theorem keyW_eq (k n : Int) (s : ByteArray) (l : List V) (ks : List ByteArray) : keyW ⟨k, n, s, l, ks⟩ = keyWL l ks.length := by rw [keyW]
theorem keyWL_nil (n : Int) : keyWL [] n = n := by rw [keyWL]
theorem keyWL_cons (v : V) (t : List V) (n : Int) : keyWL (v :: t) n = keyWL t (IntKind.i64.wrap (n + keyW v)) := by rw [keyWL]
/-- What Small returns. -/
def smallB (v : V) (nd : Int) : Bool := decide (0 ≤ leftV v nd 40) && decide (keyW v ≤ 2 * nd)
theorem smallB_nodes {v : V} {nd : Int} (h : smallB v nd = true) : (nodes v : Int) ≤ nd := by
  unfold smallB at h
  rw [Bool.and_eq_true] at h
  have h1 := of_decide_eq_true h.1
  have := (left_says.1 v nd 40 h1).1
  omega
theorem leftV_le : (∀ (v : V) (nd lv : Int), -1 ≤ leftV v nd lv ∧ (0 ≤ nd → leftV v nd lv ≤ nd)) ∧ (∀ (l : List V) (n lv : Int), (-1 ≤ n → -1 ≤ leftL l n lv) ∧ leftL l n lv ≤ n) := by
  refine V.both (P := fun v => ∀ (nd lv : Int), -1 ≤ leftV v nd lv ∧ (0 ≤ nd → leftV v nd lv ≤ nd)) (Q := fun l => ∀ (n lv : Int), (-1 ≤ n → -1 ≤ leftL l n lv) ∧ leftL l n lv ≤ n) ?_ ?_ ?_
  · intro k n s l ks ih nd lv
    rw [leftV_eq]
    split
    · exact ⟨by omega, fun _ => by omega⟩
    · obtain ⟨h1, h2⟩ := ih (nd - 1) (lv - 1)
      exact ⟨h1 (by omega), fun _ => by omega⟩
  · intro n lv
    rw [leftL_nil]
    exact ⟨fun h => h, by omega⟩
  · intro v t h1 h2 n lv
    rw [leftL_cons]
    split
    · rename_i hn
      obtain ⟨g1, g2⟩ := h1 n lv
      obtain ⟨k1, k2⟩ := h2 (leftV v n lv) lv
      have := g2 hn
      exact ⟨fun _ => k1 g1, by omega⟩
    · exact ⟨fun h => h, by omega⟩
/-! ### Equal and Refines -/
mutual
def sameB (u : Bool) : V → V → Bool
  | ⟨k, n, s, l, ks⟩, ⟨k', n', s', l', ks'⟩ => (u && decide (k' = 6)) || (decide (k = k') && decide (n = n') && decide (s.data.toList = s'.data.toList) && decide (ks.map (fun x => x.data.toList) = ks'.map (fun x => x.data.toList)) && sameL u l l')
def sameL (u : Bool) : List V → List V → Bool
  | [], [] => true
  | a :: s, b :: t => sameB u a b && sameL u s t
  | _, _ => false
end
theorem sameL_cons (u : Bool) (a b : V) (s t : List V) : sameL u (a :: s) (b :: t) = (sameB u a b && sameL u s t) := by rw [sameL]
theorem sameL_nil (u : Bool) : sameL u [] [] = true := by rw [sameL]
theorem sameL_len (u : Bool) : ∀ (a b : List V), sameL u a b = true → a.length = b.length
  | [], [], _ => rfl
  | [], _ :: _, h => by simp [sameL] at h
  | _ :: _, [], h => by simp [sameL] at h
  | a :: s, b :: t, h => by
    rw [sameL_cons, Bool.and_eq_true] at h
    rw [List.length_cons, List.length_cons, sameL_len u s t h.2]
theorem same_iff (u : Bool) (k n : Int) (s : ByteArray) (l : List V) (ks : List ByteArray) (k' n' : Int) (s' : ByteArray) (l' : List V) (ks' : List ByteArray) :
    sameB u ⟨k, n, s, l, ks⟩ ⟨k', n', s', l', ks'⟩ = true ↔ (u = true ∧ k' = 6) ∨ (k = k' ∧ n = n' ∧ s = s' ∧ ks = ks' ∧ sameL u l l' = true) := by
  rw [sameB]
  simp only [Bool.or_eq_true, Bool.and_eq_true, decide_eq_true_eq]
  constructor
  · rintro (h | ⟨⟨⟨⟨h1, h2⟩, h3⟩, h4⟩, h5⟩)
    · exact .inl h
    · exact .inr ⟨h1, h2, bax h3, keys_eq h4, h5⟩
  · rintro (h | ⟨h1, h2, h3, h4, h5⟩)
    · exact .inl h
    · exact .inr ⟨⟨⟨⟨h1, h2⟩, by rw [h3]⟩, by rw [h4]⟩, h5⟩
theorem same_eq : (∀ a b : V, sameB false a b = true ↔ a = b) ∧ (∀ a b : List V, sameL false a b = true ↔ a = b) := by
  refine V.both (P := fun a => ∀ b : V, sameB false a b = true ↔ a = b) (Q := fun a => ∀ b : List V, sameL false a b = true ↔ a = b) ?_ ?_ ?_
  · rintro k n s l ks ih ⟨k', n', s', l', ks'⟩
    rw [same_iff, ih l']
    simp only [Bool.false_eq_true, false_and, false_or, V.mk.injEq]
    constructor
    · rintro ⟨h1, h2, h3, h4, h5⟩; exact ⟨h1, h2, h3, h5, h4⟩
    · rintro ⟨h1, h2, h3, h4, h5⟩; exact ⟨h1, h2, h3, h5, h4⟩
  · intro b
    cases b with
    | nil => simp [sameL]
    | cons => simp [sameL]
  · intro v t h1 h2 b
    cases b with
    | nil => simp [sameL]
    | cons x y => rw [sameL_cons, Bool.and_eq_true, h1, h2, List.cons.injEq]
theorem same_ref : (∀ a b : V, sameB true a b = refB a b) ∧ (∀ a b : List V, sameL true a b = refL a b) := by
  refine V.both (P := fun a => ∀ b : V, sameB true a b = refB a b) (Q := fun a => ∀ b : List V, sameL true a b = refL a b) ?_ ?_ ?_
  · rintro k n s l ks ih ⟨k', n', s', l', ks'⟩
    rw [Bool.eq_iff_iff, same_iff, ref_iff, ih l']
    simp
  · intro b
    cases b with
    | nil => simp [sameL, refL]
    | cons => simp [sameL, refL]
  · intro v t h1 h2 b
    cases b with
    | nil => simp [sameL, refL]
    | cons x y => rw [sameL_cons, refL, h1, h2]

end Go.Proofs.YtjmchjphdfbhiaaGreatDoor.val

namespace Go.Proofs.YtjmchjphdfbhiaaGreatDoor.val
open Go.RowKit
open Go.Proofs.YtjmchjphdfbhiaaGreatDoor
/-- Induction over a value's items. -/
theorem V.ind {P : V → Prop} (h : ∀ v : V, (∀ x ∈ v.items, P x) → P v) : ∀ v, P v := by
  refine (V.both (P := P) (Q := fun l => ∀ x ∈ l, P x) (fun k n s l ks ih => h ⟨k, n, s, l, ks⟩ ih) (fun x hx => by cases hx) (fun v t h1 h2 x hx => ?_)).1
  rcases List.mem_cons.1 hx with rfl | hx
  · exact h1
  · exact h2 x hx
/-- An item of a row, as a call has it. -/
structure It (x : V) (b o : Nat) (A3 : Option Addr) (k3 : Nat) (A4 : Option Addr) (k4 : Nat) (w : World) : Prop where
  k : w.cell? ⟨b, o, none⟩ = some (.int .i64 x.kind)
  n : w.cell? ⟨b, o + 1, none⟩ = some (.int .i64 x.num)
  s : w.cell? ⟨b, o + 2, none⟩ = some (.string x.str)
  l : w.cell? ⟨b, o + 3, none⟩ = some (.slice A3 x.items.length k3)
  ks : w.cell? ⟨b, o + 4, none⟩ = some (.slice A4 x.keys.length k4)
  va : Va x A3 k3 A4 k4 w
theorem Va.stays {v : V} {A3 A4 : Option Addr} {k3 k4 : Nat} {w w' : World} (h : Va v A3 k3 A4 k4 w) (q : Q w w') : Va v A3 k3 A4 k4 w' := ⟨h.1.stays q, h.2.1.stays q, h.2.2⟩
theorem It.stays {x : V} {b o : Nat} {A3 A4 : Option Addr} {k3 k4 : Nat} {w w' : World} (h : It x b o A3 k3 A4 k4 w) (q : Q w w') : It x b o A3 k3 A4 k4 w' :=
  ⟨cell_stays q h.k, cell_stays q h.n, cell_stays q h.s, cell_stays q h.l, cell_stays q h.ks, h.va.stays q⟩
theorem Is.item {A : Option Addr} {n c : Nat} {l : List V} {w : World} (h : Is (.slice A n c) l w) (hw : WfL l) (hn : 0 < n) : ∃ b o, A = some ⟨b, o, none⟩ ∧ ∀ (i : Nat) (hi : i < l.length), ∃ A3 k3 A4 k4, It l[i] b (o + i * 5) A3 k3 A4 k4 w := by
  obtain ⟨A', c', e, hc, g⟩ := h
  simp only [Value.slice.injEq] at e
  obtain ⟨rfl, rfl, rfl⟩ := e
  obtain ⟨b, o, e, hV⟩ := g (List.length_pos_iff.1 hn)
  refine ⟨b, o, e, fun i hi => ?_⟩
  obtain ⟨s3, s4, hd⟩ := VL.at _ _ _ _ hV i hi
  obtain ⟨A3, k3, rfl, -⟩ := hd.is.shape
  obtain ⟨A4, k4, rfl, -⟩ := hd.kk.shape
  exact ⟨A3, k3, A4, k4, hd.k, hd.n, hd.s, hd.l, hd.ks, hd.is, hd.kk, (WfL_mem _).1 hw _ (List.getElem_mem hi)⟩
/-- What the reference's keys returns. -/
def RkC (v : V) : Prop := ∀ (A3 : Option Addr) (k3 : Nat) (A4 : Option Addr) (k4 : Nat) (w : World), Va v A3 k3 A4 k4 w → Calls Tryz.prog 44 #[vv v A3 k3 A4 k4] w fun e w' => e = .returned (.int .i64 (keyW v)) ∧ Q w w'
set_option maxRecDepth 100000 in
set_option maxHeartbeats 4000000 in
theorem rkeys_any : ∀ v : V, RkC v := by
  refine V.ind (fun v ih => ?_)
  obtain ⟨vk, vn, vs, l, ks⟩ := v
  intro A3 k3 A4 k4 w hV
  have IH : Hid (∀ x ∈ l, RkC x) := Lib.hid ih
  obtain ⟨hi, hk, hw⟩ := hV
  have hi : Is (.slice A3 l.length k3) l w := hi
  have hwl : WfL l := hw.items
  have hlm : l.length ≤ maxLen := ((Wf_iff _).1 hw).2.2.2.1
  rw [keyW_eq]
  show Calls Tryz.prog 44 #[.agg #[.int .i64 vk, .int .i64 vn, .string vs, .slice A3 l.length k3, .slice A4 ks.length k4]] w _
  obtain ⟨ANS, hANS⟩ : ∃ a, keyWL l (ks.length : Nat) = a := ⟨_, rfl⟩
  rw [hANS]
  obtain ⟨n4, hn4⟩ : ∃ n, ks.length = n := ⟨_, rfl⟩
  obtain ⟨n3, hn3⟩ : ∃ n, l.length = n := ⟨_, rfl⟩
  rw [hn4] at hANS
  rw [hn3] at hi hlm
  rw [hn3, hn4]
  have H0 : Hid (keyWL (l.drop 0) (n4 : Nat) = ANS) := Lib.hid (by rw [List.drop_zero]; exact hANS)
  obtain ⟨B, hB⟩ : ∃ B, w.heap.size = B := ⟨_, rfl⟩
  obtain ⟨wb, hwb⟩ : ∃ wb, w.alloc (.cells #[.int .i64 vk, .int .i64 vn, .string vs, .slice A3 n3 k3, .slice A4 n4 k4] 26) = wb := ⟨_, rfl⟩
  have q0 : Q w wb := by rw [← hwb]; exact Q.box _ _
  have bB : Bk B #[.int .i64 vk, .int .i64 vn, .string vs, .slice A3 n3 k3, .slice A4 n4 k4] 26 wb := by rw [← hwb, ← hB]; exact Bk.new _ _ _
  have x4 := bB.at 4 _ rfl
  have HI := Lib.hid hi
  have HW := Lib.hid hwl
  have HN := Lib.hid hn3
  have Q0 := Lib.hid q0
  have BB := Lib.hid bB
  have hn3b : (n3 : Int) ≤ 9223372036854775807 := by unfold maxLen at hlm; omega
  clear hi hk hw hwl hlm hANS hn4 hn3 q0 bB ih
  go_enter Tryz.func44, Tryz.ntmps44
  go_wp2_with fail
  clear x4
  go_loopw [3, 4] (fun n i wr => ∃ (k : Nat) (z : Int), k ≤ n3 ∧ n = .int .i64 z ∧ i = .int .i64 k ∧ Hid (Q wb wr) ∧ Hid (keyWL (l.drop k) z = ANS)) (fun _ i _ => n3 - (intOf i).toNat)
  case atStart => exact ⟨0, _, Nat.zero_le _, rfl, rfl, Lib.hid (Q.refl _), H0⟩
  case round =>
    obtain ⟨k, z, hk, rfl, rfl, hq, hv⟩ := hrel
    have b1 := BB.out.stays hq.out
    have x3 := b1.at 3 _ rfl
    by_cases hlt : k < n3
    · have hltl : k < l.length := by have := HN.out; omega
      obtain ⟨b, o, rfl, hit⟩ := Is.item HI.out HW.out (by omega)
      obtain ⟨B3, d3, B4, d4, it⟩ := hit k hltl
      have it1 := it.stays (Q0.out.trans hq.out)
      have hkz : (k : Int) < (n3 : Int) := by omega
      have hv2 := hv.out
      rw [List.drop_eq_getElem_cons hltl, keyWL_cons] at hv2
      have cX := Lib.hid (IH.out l[k] (List.getElem_mem hltl) B3 d3 B4 d4 wr it1.va)
      obtain ⟨x, hx⟩ : ∃ x, l[k] = x := ⟨_, rfl⟩
      rw [hx] at it1 hv2 cX
      obtain ⟨xk, xn, xs, xl, xks⟩ := x
      have i0 : wr.cell? ⟨b, o + k * 5, none⟩ = some (.int .i64 xk) := it1.k
      have i1 : wr.cell? ⟨b, o + k * 5 + 1, none⟩ = some (.int .i64 xn) := it1.n
      have i2 : wr.cell? ⟨b, o + k * 5 + 2, none⟩ = some (.string xs) := it1.s
      have i3 : wr.cell? ⟨b, o + k * 5 + 3, none⟩ = some (.slice B3 xl.length d3) := it1.l
      have i4 : wr.cell? ⟨b, o + k * 5 + 4, none⟩ = some (.slice B4 xks.length d4) := it1.ks
      have cX : Hid (Calls Tryz.prog 44 #[.agg #[.int .i64 xk, .int .i64 xn, .string xs, .slice B3 xl.length d3, .slice B4 xks.length d4]] wr fun e w' => e = .returned (.int .i64 (keyW ⟨xk, xn, xs, xl, xks⟩)) ∧ Q wr w') := cX
      have HV := Lib.hid hv2
      have hlt' := Lib.hid hlt
      clear hv2 hv it1 it hit hx b1 hlt hltl hk
      obtain ⟨kx, hkx⟩ : ∃ a, keyW ⟨xk, xn, xs, xl, xks⟩ = a := ⟨_, rfl⟩
      rw [hkx] at HV cX
      clear hkx
      go_wp2_with fail
      refine cX.out.mono ?_
      rintro e w1 ⟨rfl, q1⟩
      have Q1 := Lib.hid (hq.out.trans q1)
      clear x3 i0 i1 i2 i3 i4 q1 cX
      go_wp2_with fail
      go_round
      case rel => exact ⟨k + 1, IntKind.i64.wrap (z + kx), hlt'.out, by rw [IntWalk.i64_left], by go_num, Q1, HV⟩
      case measure => have := hlt'.out; simp [intOf]; omega
    · obtain rfl : n3 = k := by omega
      have hz : z = ANS := by
        have h := hv.out
        rw [List.drop_of_length_le (by have := HN.out; omega), keyWL_nil] at h
        exact h
      subst hz
      clear hv hlt hk
      go_wp2_with fail
      go_ret
      exact ⟨rfl, Q0.out.trans hq.out⟩
/-- What the reference's left returns. -/
def LfC (v : V) : Prop := ∀ (A3 : Option Addr) (k3 : Nat) (A4 : Option Addr) (k4 : Nat) (nd lv : Int) (w : World), Va v A3 k3 A4 k4 w → -1 ≤ nd → nd ≤ 1000000 → -1 ≤ lv → lv ≤ 1000000 →
  Calls Tryz.prog 43 #[vv v A3 k3 A4 k4, .int .i64 nd, .int .i64 lv] w fun e w' => e = .returned (.int .i64 (leftV v nd lv)) ∧ Q w w'
set_option maxRecDepth 100000 in
set_option maxHeartbeats 4000000 in
theorem left_any : ∀ v : V, LfC v := by
  refine V.ind (fun v ih => ?_)
  obtain ⟨vk, vn, vs, l, ks⟩ := v
  intro A3 k3 A4 k4 nd lv w hV hn1 hn2 hl1 hl2
  have IH : Hid (∀ x ∈ l, LfC x) := Lib.hid ih
  obtain ⟨hi, hk, hw⟩ := hV
  have hi : Is (.slice A3 l.length k3) l w := hi
  have hwl : WfL l := hw.items
  have hlm : l.length ≤ maxLen := ((Wf_iff _).1 hw).2.2.2.1
  rw [leftV_eq]
  show Calls Tryz.prog 43 #[.agg #[.int .i64 vk, .int .i64 vn, .string vs, .slice A3 l.length k3, .slice A4 ks.length k4], .int .i64 nd, .int .i64 lv] w _
  obtain ⟨n4, hn4⟩ : ∃ n, ks.length = n := ⟨_, rfl⟩
  obtain ⟨n3, hn3⟩ : ∃ n, l.length = n := ⟨_, rfl⟩
  rw [hn3] at hi hlm
  rw [hn3, hn4]
  obtain ⟨B, hB⟩ : ∃ B, w.heap.size = B := ⟨_, rfl⟩
  obtain ⟨wb, hwb⟩ : ∃ wb, w.alloc (.cells #[.int .i64 vk, .int .i64 vn, .string vs, .slice A3 n3 k3, .slice A4 n4 k4] 26) = wb := ⟨_, rfl⟩
  have q0 : Q w wb := by rw [← hwb]; exact Q.box _ _
  have bB : Bk B #[.int .i64 vk, .int .i64 vn, .string vs, .slice A3 n3 k3, .slice A4 n4 k4] 26 wb := by rw [← hwb, ← hB]; exact Bk.new _ _ _
  have HI := Lib.hid hi
  have HW := Lib.hid hwl
  have HN := Lib.hid hn3
  have Q0 := Lib.hid q0
  have BB := Lib.hid bB
  have hn3b : (n3 : Int) ≤ 9223372036854775807 := by unfold maxLen at hlm; omega
  clear hi hk hw hwl hlm hn4 hn3 q0 bB ih
  by_cases h1 : nd < 1
  · rw [if_pos (.inl h1)]
    have h1' : decide (nd < 1) = true := decide_eq_true h1
    clear h1
    go_enter Tryz.func43, Tryz.ntmps43
    go_wp2_with fail
    go_ret
    exact ⟨rfl, Q0.out⟩
  by_cases h2 : lv < 1
  · rw [if_pos (.inr h2)]
    have h1' : decide (nd < 1) = false := decide_eq_false h1
    have h2' : decide (lv < 1) = true := decide_eq_true h2
    clear h1 h2
    go_enter Tryz.func43, Tryz.ntmps43
    go_wp2_with fail
    go_ret
    exact ⟨rfl, Q0.out⟩
  rw [if_neg (by omega)]
  have h1' : decide (nd < 1) = false := decide_eq_false h1
  have h2' : decide (lv < 1) = false := decide_eq_false h2
  obtain ⟨ANS, hANS⟩ : ∃ a, leftL l (nd - 1) (lv - 1) = a := ⟨_, rfl⟩
  rw [hANS]
  have H0 : Hid (leftL (l.drop 0) (nd - 1) (lv - 1) = ANS) := Lib.hid (by rw [List.drop_zero]; exact hANS)
  have HB := Lib.hid (show -1 ≤ nd - 1 ∧ nd - 1 ≤ 1000000 ∧ -1 ≤ lv - 1 ∧ lv - 1 ≤ 1000000 by omega)
  clear h1 h2 hANS
  go_enter Tryz.func43, Tryz.ntmps43
  go_wp2_with fail
  go_loopw [7, 8] (fun n i wr => ∃ (k : Nat) (z : Int), k ≤ n3 ∧ n = .int .i64 z ∧ i = .int .i64 k ∧ Hid (Q wb wr) ∧ Hid (leftL (l.drop k) z (lv - 1) = ANS ∧ -1 ≤ z ∧ z ≤ 1000000)) (fun _ i _ => n3 - (intOf i).toNat)
  case atStart => exact ⟨0, _, Nat.zero_le _, rfl, rfl, Lib.hid (Q.refl _), Lib.hid ⟨H0.out, HB.out.1, HB.out.2.1⟩⟩
  case round =>
    obtain ⟨k, z, hk, rfl, rfl, hq, hv⟩ := hrel
    have b1 := BB.out.stays hq.out
    have x3 := b1.at 3 _ rfl
    by_cases hlt : k < n3
    · have hkz : (k : Int) < (n3 : Int) := by omega
      by_cases hz : 0 ≤ z
      · have hzb : decide (0 ≤ z) = true := decide_eq_true hz
        have hltl : k < l.length := by have := HN.out; omega
        obtain ⟨b, o, rfl, hit⟩ := Is.item HI.out HW.out (by omega)
        obtain ⟨B3, d3, B4, d4, it⟩ := hit k hltl
        have it1 := it.stays (Q0.out.trans hq.out)
        have hv2 := hv.out.1
        rw [List.drop_eq_getElem_cons hltl, leftL_cons, if_pos hz] at hv2
        have cX := Lib.hid (IH.out l[k] (List.getElem_mem hltl) B3 d3 B4 d4 z (lv - 1) wr it1.va hv.out.2.1 hv.out.2.2 HB.out.2.2.1 HB.out.2.2.2)
        have hle := leftV_le.1 l[k] z (lv - 1)
        obtain ⟨x, hx⟩ : ∃ x, l[k] = x := ⟨_, rfl⟩
        rw [hx] at it1 hv2 cX hle
        obtain ⟨xk, xn, xs, xl, xks⟩ := x
        have i0 : wr.cell? ⟨b, o + k * 5, none⟩ = some (.int .i64 xk) := it1.k
        have i1 : wr.cell? ⟨b, o + k * 5 + 1, none⟩ = some (.int .i64 xn) := it1.n
        have i2 : wr.cell? ⟨b, o + k * 5 + 2, none⟩ = some (.string xs) := it1.s
        have i3 : wr.cell? ⟨b, o + k * 5 + 3, none⟩ = some (.slice B3 xl.length d3) := it1.l
        have i4 : wr.cell? ⟨b, o + k * 5 + 4, none⟩ = some (.slice B4 xks.length d4) := it1.ks
        have cX : Hid (Calls Tryz.prog 43 #[.agg #[.int .i64 xk, .int .i64 xn, .string xs, .slice B3 xl.length d3, .slice B4 xks.length d4], .int .i64 z, .int .i64 (lv - 1)] wr fun e w' => e = .returned (.int .i64 (leftV ⟨xk, xn, xs, xl, xks⟩ z (lv - 1))) ∧ Q wr w') := cX
        obtain ⟨kx, hkx⟩ : ∃ a, leftV ⟨xk, xn, xs, xl, xks⟩ z (lv - 1) = a := ⟨_, rfl⟩
        rw [hkx] at hv2 cX hle
        have HV := Lib.hid (show leftL (l.drop (k + 1)) kx (lv - 1) = ANS ∧ -1 ≤ kx ∧ kx ≤ 1000000 from ⟨hv2, hle.1, by have := hle.2 hz; have := hv.out; omega⟩)
        have hlt' := Lib.hid hlt
        clear hv2 hv it1 it hit hx b1 hlt hltl hk hkx hle hz
        go_wp2_with fail
        refine cX.out.mono ?_
        rintro e w1 ⟨rfl, q1⟩
        have Q1 := Lib.hid (hq.out.trans q1)
        clear x3 i0 i1 i2 i3 i4 q1 cX
        go_wp2_with fail
        go_round
        case rel => exact ⟨k + 1, kx, hlt'.out, rfl, by go_num, Q1, HV⟩
        case measure => have := hlt'.out; simp [intOf]; omega
      · have hzb : decide (0 ≤ z) = false := decide_eq_false hz
        have hz : z = ANS := by
          have h := hv.out.1
          rw [leftL_neg _ _ _ (by omega)] at h
          exact h
        subst hz
        clear hv hlt hk
        go_wp2_with fail
        go_ret
        exact ⟨rfl, Q0.out.trans hq.out⟩
    · obtain rfl : n3 = k := by omega
      have hz : z = ANS := by
        have h := hv.out.1
        rw [List.drop_of_length_le (by have := HN.out; omega), leftL_nil] at h
        exact h
      subst hz
      clear hv hlt hk
      go_wp2_with fail
      go_ret
      exact ⟨rfl, Q0.out.trans hq.out⟩
set_option maxRecDepth 100000 in
/-- The reference's Small. -/
theorem small_any (v : V) (A3 : Option Addr) (k3 : Nat) (A4 : Option Addr) (k4 : Nat) (w : World) (h : Va v A3 k3 A4 k4 w) :
    Calls Tryz.prog 10 #[vv v A3 k3 A4 k4, .int .i64 400] w fun e w' => e = .returned (.bool (smallB v 400)) ∧ Q w w' := by
  have cL := Lib.hid (fun w' (q : Q w w') => left_any v A3 k3 A4 k4 400 40 w' (h.stays q) (by decide) (by decide) (by decide) (by decide))
  have cK := Lib.hid (fun w' (q : Q w w') => rkeys_any v A3 k3 A4 k4 w' (h.stays q))
  unfold vv at *
  unfold smallB
  obtain ⟨lf, hlf⟩ : ∃ a, leftV v 400 40 = a := ⟨_, rfl⟩
  obtain ⟨ky, hky⟩ : ∃ a, keyW v = a := ⟨_, rfl⟩
  rw [hlf] at cL ⊢
  rw [hky] at cK ⊢
  obtain ⟨n4, hn4⟩ : ∃ n, v.keys.length = n := ⟨_, rfl⟩
  obtain ⟨n3, hn3⟩ : ∃ n, v.items.length = n := ⟨_, rfl⟩
  obtain ⟨vk, hvk⟩ : ∃ n, v.kind = n := ⟨_, rfl⟩
  obtain ⟨vn, hvn⟩ : ∃ n, v.num = n := ⟨_, rfl⟩
  obtain ⟨vs, hvs⟩ : ∃ n, v.str = n := ⟨_, rfl⟩
  rw [hn3, hn4, hvk, hvn, hvs] at cL cK ⊢
  clear hn3 hn4 hvk hvn hvs hlf hky h
  obtain ⟨B, hB⟩ : ∃ B, w.heap.size = B := ⟨_, rfl⟩
  obtain ⟨wb, hwb⟩ : ∃ wb, w.alloc (.cells #[.int .i64 vk, .int .i64 vn, .string vs, .slice A3 n3 k3, .slice A4 n4 k4] 26) = wb := ⟨_, rfl⟩
  have q0 : Q w wb := by rw [← hwb]; exact Q.box _ _
  have bB : Bk B #[.int .i64 vk, .int .i64 vn, .string vs, .slice A3 n3 k3, .slice A4 n4 k4] 26 wb := by rw [← hwb, ← hB]; exact Bk.new _ _ _
  have Q0 := Lib.hid q0
  have BB := Lib.hid bB
  have x0 := bB.at 0 _ rfl
  have x1 := bB.at 1 _ rfl
  have x2 := bB.at 2 _ rfl
  have x3 := bB.at 3 _ rfl
  have x4 := bB.at 4 _ rfl
  clear q0 bB
  obtain ⟨R, hR⟩ : ∃ R, decide (0 ≤ lf) = R := ⟨_, rfl⟩
  rw [hR]
  cases R with
  | false =>
    go_enter Tryz.func10, Tryz.ntmps10
    go_wp2_with fail
    refine (cL.out _ Q0.out).mono ?_
    rintro e w1 ⟨rfl, q1⟩
    have Q1 := Lib.hid (Q0.out.trans q1)
    clear x0 x1 x2 x3 x4 q1
    go_wp2_with fail
    go_ret
    exact ⟨by simp, Q1.out⟩
  | true =>
    go_enter Tryz.func10, Tryz.ntmps10
    go_wp2_with fail
    refine (cL.out _ Q0.out).mono ?_
    rintro e w1 ⟨rfl, q1⟩
    have b1 := BB.out.stays q1
    have y0 := b1.at 0 _ rfl
    have y1 := b1.at 1 _ rfl
    have y2 := b1.at 2 _ rfl
    have y3 := b1.at 3 _ rfl
    have y4 := b1.at 4 _ rfl
    have Q1 := Lib.hid (Q0.out.trans q1)
    clear x0 x1 x2 x3 x4 q1 b1
    go_wp2_with fail
    refine (cK.out _ Q1.out).mono ?_
    rintro e w2 ⟨rfl, q2⟩
    have Q2 := Lib.hid (Q1.out.trans q2)
    clear y0 y1 y2 y3 y4 q2
    go_wp2_with fail
    go_ret
    exact ⟨by simp, Q2.out⟩

end Go.Proofs.YtjmchjphdfbhiaaGreatDoor.val
