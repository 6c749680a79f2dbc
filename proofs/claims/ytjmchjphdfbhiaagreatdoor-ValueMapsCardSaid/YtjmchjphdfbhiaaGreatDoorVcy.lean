/- copyOfNode. -/
import Derived.Test.YtjmchjphdfbhiaaGreatDoorVcq
import Derived.Test.YtjmchjphdfbhiaaGreatDoorVps
import Derived.Deep.Upon
import Derived.Deep.AppendLies
namespace Go.Proofs.YtjmchjphdfbhiaaGreatDoor.val
open Go.RowKit
open Go.Proofs.YtjmchjphdfbhiaaGreatDoor
/-- The cells at a place. -/
def cellsAt (w : World) (b o k : Nat) : List Value := (List.range k).map fun j => (w.cell? ⟨b, o + j, none⟩).getD .nilFunc
theorem cellsAt_len (w : World) (b o k : Nat) : (cellsAt w b o k).length = k := by simp [cellsAt]
theorem cellsAt_at (w : World) (b o k : Nat) (h : ∀ j, j < k → ∃ u, w.cell? ⟨b, o + j, none⟩ = some u ∧ u.oneCell' = true) : (∀ j u, (cellsAt w b o k)[j]? = some u → w.cell? ⟨b, o + j, none⟩ = some u) ∧ ∀ u ∈ cellsAt w b o k, u.oneCell' = true := by
  have key : ∀ j u, (cellsAt w b o k)[j]? = some u → w.cell? ⟨b, o + j, none⟩ = some u ∧ u.oneCell' = true := by
    intro j u hj
    have hlt : j < k := by
      have := (List.getElem?_eq_some_iff.1 hj).1
      rw [cellsAt_len] at this
      exact this
    obtain ⟨u', h1, h2⟩ := h j hlt
    have e : (cellsAt w b o k)[j]? = some u' := by
      unfold cellsAt
      rw [List.getElem?_map, List.getElem?_range hlt]
      simp [h1]
    have := hj.symm.trans e
    simp only [Option.some.injEq] at this
    subst this
    exact ⟨h1, h2⟩
  refine ⟨fun j u hj => (key j u hj).1, fun u hu => ?_⟩
  obtain ⟨j, hj⟩ := List.getElem?_of_mem hu
  exact (key j u hj).2
/-- What append leaves that copies a slice of n elements of some cells each. -/
structure Copied (T : TypeId) (size : Nat) (A : Option Addr) (n : Nat) (w : World) (A' : Option Addr) (c' : Nat) (w' : World) : Prop where
  q : Q w w'
  le : n ≤ c'
  row : 0 < n → ∃ F b o, A' = some ⟨F, 0, none⟩ ∧ A = some ⟨b, o, none⟩ ∧ w.heap.size ≤ F ∧ F < w'.heap.size ∧ w'.ownsRow w.heap.size T size (.slice (some ⟨F, 0, none⟩) n c') n (cellsAt w b o (n * size)) ∧ ∀ j u, j < n * size → w.cell? ⟨b, o + j, none⟩ = some u → w'.cell? ⟨F, j, none⟩ = some u
theorem add_plain (b o j : Nat) : (⟨b, o, none⟩ : Addr).add j = ⟨b, o + j, none⟩ := by
  unfold Addr.add
  split
  · rename_i h
    subst h
    rfl
  · rfl
theorem heap_other_own {B : Nat} {T : TypeId} {size : Nat} {F n cap : Nat} {xs : List Value} {w w' : World} (h : w.ownsRow B T size (.slice (some ⟨F, 0, none⟩) n cap) n xs) (e : w'.heap[F]? = w.heap[F]?) : w'.ownsRow B T size (.slice (some ⟨F, 0, none⟩) n cap) n xs := by
  rcases h with ⟨h0, ⟨h, _⟩ | ⟨g', cap', cur, hv, h1, h2, h3⟩⟩
  · cases h
  · simp only [Value.slice.injEq, Option.some.injEq, Addr.mk.injEq] at hv
    obtain ⟨⟨rfl, _⟩, _, rfl⟩ := hv
    exact ⟨h0, .inr ⟨F, cap, cur, rfl, h1, e.trans h2, h3⟩⟩
theorem grown_q {w w' : World} (h : w.grownBy w' none) : Q w w' := ⟨h.os, h.tape, h.output, h.size, fun k hk => h.block k hk (by simp)⟩
theorem wpList_copy {P : Program} {w : World} {ops : Array Oper} {rest : List Oper} {o : Oper} {a : Act} {Q' : Exit → Act → World → Prop} (hgd : o.guard = none) (s x : Operand) (t : TypeId)
    (ho : o.op = .call { callee := .builtin .append, args := #[s, x], argTypes := #[t, t] }) (T : TypeId) (i : TypeInfo) (z : Value) (size bytes : Nat) (ht : P.underlying t = some (.slice T)) (hi : P.info? T = some i) (hz : i.zero = some z)
    (hsize : i.size = size) (hby : i.bytes = bytes) (hzs : z.cells.size = size) (hsz : 0 < size) (A : Option Addr) (n c : Nat) (hs : a.eval s = .slice none 0 0) (hx : a.eval x = .slice A n c)
    (hA : 0 < n → ∃ b o, A = some ⟨b, o, none⟩ ∧ ∀ j, j < n * size → ∃ u, w.cell? ⟨b, o + j, none⟩ = some u ∧ u.oneCell' = true) (h63 : n ≤ maxLen) (hbytes : n * bytes ≤ 140737488355328)
    (h : ∀ A' c' w', Copied T size A n w A' c' w' → wpList P ops Q' rest (a.put o.dst (.slice A' n c')) w') : wpList P ops Q' (o :: rest) a w := by
  rcases Nat.eq_zero_or_pos n with h0 | h0
  · subst h0
    refine wpList_plain hgd fun K hK => ?_
    have hsrc : Src P i.size t (.slice A 0 c) 0 [] w := by
      cases A with
      | none => exact Src.ofNil w ht c
      | some ad => exact Src.ofSlice w ht ad 0 c [] (by simp) (fun j u hj => by simp at hj) (fun u hu => by simp at hu)
    have hr := run_append_nothing w t t o.type T i ht hi none 0 0 (Nat.le_refl _) (.slice A 0 c) hsrc
    unfold Oper.wp execOp
    simp only [ho, resolve, invoke, builtin, Sem.run_bind, Sem.run_pure, Result.andThen_ok, List.map_toArray, List.map_cons, List.map_nil, hs, hx, hr]
    exact hK _ _ (h none 0 w ⟨Q.refl _, Nat.le_refl _, fun h => absurd h (by decide)⟩)
  · obtain ⟨b, of, rfl, hc⟩ := hA h0
    obtain ⟨k1, k2⟩ := cellsAt_at w b of (n * size) hc
    refine wpList_append_lies w hgd s x t ho w.heap.size T i z size bytes ht hi hz hsize hby hzs hsz _ 0 [] hs (World.ownsRow_nil _ _ _ _) ⟨b, of, none⟩ n c (cellsAt w b of (n * size)) hx (cellsAt_len _ _ _ _) (fun j u hj => by
      rw [add_plain]
      exact k1 j u hj) k2 h0 (by omega) (by rw [Nat.zero_add]; exact hbytes) (Nat.le_refl _) w.heap.size rfl ?_
    intro g cap w' h2 h3 h4 h5
    rw [Nat.zero_add] at h2 ⊢
    rw [List.nil_append] at h2
    have h3' : w.grownBy w' none := h3
    have hcap : n ≤ cap := by
      rcases h2.2 with ⟨h, _⟩ | ⟨g', cap', cur, hv, _, _, h1, _, _⟩
      · cases h
      · simp only [Value.slice.injEq] at hv
        obtain ⟨_, _, rfl⟩ := hv
        exact h1
    refine h (some ⟨g, 0, none⟩) cap w' ⟨grown_q h3', hcap, fun _ => ⟨g, b, of, rfl, rfl, (World.ownsRow.lt h2 g rfl).1, h5, h2, fun j u hj hu => ?_⟩⟩
    rw [World.ownsRow.cellAt h2 j hj]
    unfold cellsAt
    rw [List.getElem?_map, List.getElem?_range hj]
    simp [hu]
theorem info_val : (Tryz.prog.info? 26).map (fun i => (i.zero, i.size, i.bytes)) = some (some (.agg #[.int .i64 0, .int .i64 0, .string ⟨#[]⟩, .slice none 0 0, .slice none 0 0]), 5, 80) := by kernel_rfl
theorem info_str : (Tryz.prog.info? 9).map (fun i => (i.zero, i.size, i.bytes)) = some (some (.string ⟨#[]⟩), 1, 16) := by kernel_rfl
theorem VL.cells {l : List V} {b o : Nat} {w : World} (h : VL l b o w) : ∀ j, j < l.length * 5 → ∃ u, w.cell? ⟨b, o + j, none⟩ = some u ∧ u.oneCell' = true := by
  intro j hj
  obtain ⟨s3, s4, hd⟩ := VL.at l b o w h (j / 5) (by omega)
  obtain ⟨A3, c3, rfl, _⟩ := hd.is.shape
  obtain ⟨A4, c4, rfl, _⟩ := hd.kk.shape
  have hm : j % 5 = 0 ∨ j % 5 = 1 ∨ j % 5 = 2 ∨ j % 5 = 3 ∨ j % 5 = 4 := by omega
  rcases hm with hm | hm | hm | hm | hm
  · exact ⟨_, by rw [show o + j = o + j / 5 * 5 by omega]; exact hd.k, rfl⟩
  · exact ⟨_, by rw [show o + j = o + j / 5 * 5 + 1 by omega]; exact hd.n, rfl⟩
  · exact ⟨_, by rw [show o + j = o + j / 5 * 5 + 2 by omega]; exact hd.s, rfl⟩
  · exact ⟨_, by rw [show o + j = o + j / 5 * 5 + 3 by omega]; exact hd.l, rfl⟩
  · exact ⟨_, by rw [show o + j = o + j / 5 * 5 + 4 by omega]; exact hd.ks, rfl⟩
theorem KL.cells {l : List ByteArray} {b o : Nat} {w : World} (h : KL l b o w) : ∀ j, j < l.length * 1 → ∃ u, w.cell? ⟨b, o + j, none⟩ = some u ∧ u.oneCell' = true := by
  intro j hj
  exact ⟨_, KL.at l b o w h j (by omega), rfl⟩
theorem clone_any (s : ByteArray) (w : World) (hs : s.size ≤ 281474976710656) :
    Calls Tryz.prog 49 #[.string s] w fun e w' => e = .returned (.string s) ∧ Q w w' := by
  have c := Lib.hid (fun w' => Tryz.stringslite_Clone s w' hs)
  clear hs
  go_enter Tryz.func49, Tryz.ntmps49
  go_wp2_with fail
  refine (c.out _).mono ?_
  rintro e w1 ⟨rfl, q1⟩
  go_wp2_with fail
  go_ret
  exact ⟨rfl, q1⟩
/-- What copyOfNode hands back. -/
structure Noded (v : V) (A3 A4 : Option Addr) (w : World) (B3 : Option Addr) (d3 : Nat) (s4 : Value) (w' : World) : Prop where
  q : Q w w'
  le : v.items.length ≤ d3
  row : 0 < v.items.length → ∃ F b o, B3 = some ⟨F, 0, none⟩ ∧ A3 = some ⟨b, o, none⟩ ∧ w.heap.size ≤ F ∧ (∃ cur, w'.heap[F]? = some (.cells cur 26 (0, 0))) ∧ ∀ j u, j < v.items.length * 5 → w.cell? ⟨b, o + j, none⟩ = some u → w'.cell? ⟨F, j, none⟩ = some u
  keys : ∃ A c, s4 = .slice A v.keys.length c ∧ v.keys.length ≤ c ∧ (v.keys ≠ [] → ∃ F, A = some ⟨F, 0, none⟩ ∧ w.heap.size ≤ F ∧ KL v.keys F 0 w')
set_option maxRecDepth 100000 in
set_option maxHeartbeats 16000000 in
theorem copyOfNode_any (v : V) (A3 A4 : Option Addr) (k3 k4 : Nat) (w : World) (h3 : Is (.slice A3 v.items.length k3) v.items w) (h4 : Ks (.slice A4 v.keys.length k4) v.keys w) (hs : v.str.size ≤ 281474976710656) (hks : ∀ k ∈ v.keys, k.size ≤ 281474976710656) (hn : v.items.length ≤ 1000000) (hk : v.keys.length ≤ 1000000) :
    Calls Tryz.prog 74 #[.agg #[.int .i64 v.kind, .int .i64 v.num, .string v.str, .slice A3 v.items.length k3, .slice A4 v.keys.length k4]] w fun e w' => ∃ B3 d3 s4, e = .returned (.agg #[.int .i64 v.kind, .int .i64 v.num, .string v.str, .slice B3 v.items.length d3, s4]) ∧ Noded v A3 A4 w B3 d3 s4 w' := by
  have cS := Lib.hid (fun w' => clone_any v.str w' hs)
  have cK := Lib.hid (fun k w' (h : k ∈ v.keys) => clone_any k w' (hks k h))
  obtain ⟨i3, hi3, hz3, hs3, hb3⟩ := info_parts info_val
  obtain ⟨i4, hi4, hz4, hs4, hb4⟩ := info_parts info_str
  have H3 := Lib.hid h3
  have H4 := Lib.hid h4
  have HN := Lib.hid hn
  have HK := Lib.hid hk
  clear h3 h4 hs hks hn hk
  obtain ⟨Vn, hVn⟩ : ∃ z, v.items.length = z := ⟨_, rfl⟩
  obtain ⟨Vk, hVk⟩ : ∃ z, v.keys.length = z := ⟨_, rfl⟩
  rw [hVn] at H3 HN ⊢
  rw [hVk] at H4 HK ⊢
  have E3 := Lib.hid hVn
  have E4 := Lib.hid hVk
  clear hVn hVk
  obtain ⟨P, hP⟩ : ∃ P, w.heap.size = P := ⟨_, rfl⟩
  obtain ⟨w1, hw1⟩ : ∃ w1, (w.alloc (.cells #[.int .i64 v.kind, .int .i64 v.num, .string v.str, .slice A3 Vn k3, .slice A4 Vk k4] 26)).alloc (.cells #[.int .i64 0, .int .i64 0, .string ⟨#[]⟩, .slice none 0 0, .slice none 0 0] 26) = w1 := ⟨_, rfl⟩
  have q1 : Q w w1 := by rw [← hw1]; exact two_box _ _ _
  have bp : Bk P #[.int .i64 v.kind, .int .i64 v.num, .string v.str, .slice A3 Vn k3, .slice A4 Vk k4] 26 w1 := by rw [← hw1, ← hP]; exact (Bk.new _ _ _).stays (Q.box _ _)
  have bz : Bk (P + 1) #[.int .i64 0, .int .i64 0, .string ⟨#[]⟩, .slice none 0 0, .slice none 0 0] 26 w1 := by rw [← hw1, ← hP, ← size_alloc w (.cells #[.int .i64 v.kind, .int .i64 v.num, .string v.str, .slice A3 Vn k3, .slice A4 Vk k4] 26)]; exact Bk.new _ _ _
  have x2 := bp.at 2 _ rfl
  have BP1 := Lib.hid bp
  have BZ1 := Lib.hid bz
  have Q1 := Lib.hid q1
  clear bp bz q1
  go_enter Tryz.func74, Tryz.ntmps74
  go_wp2_with fail
  refine (cS.out _).mono ?_
  rintro e w2 ⟨rfl, q2⟩
  clear hw1 x2
  have bp := BP1.out.stays q2
  have bz := BZ1.out.stays q2
  have y2 := bp.at 2 _ rfl
  have f2 := bp.frozen 2
  obtain ⟨w3, hw3⟩ : ∃ w3, w2.setCell ⟨P, 2, none⟩ (.string v.str) = w3 := ⟨_, rfl⟩
  have bp3 := bp.set 2 (.string v.str)
  rw [hw3] at bp3
  have bz3 := bz.other (show P + 1 ≠ P by omega) 2 (.string v.str)
  rw [hw3] at bz3
  have q3 : Q w w3 := by
    rw [← hw3]
    exact Below.setCell (Q1.out.trans q2) (p := ⟨P, 2, none⟩) (by rw [← hP]; exact Nat.le_refl _) _
  have x3 := bp3.at 3 _ rfl
  have BP3 := Lib.hid bp3
  have BZ3 := Lib.hid bz3
  have Q3 := Lib.hid q3
  have c3 : Hid (0 < Vn → ∃ b o, A3 = some ⟨b, o, none⟩ ∧ ∀ j, j < Vn * 5 → ∃ u, w3.cell? ⟨b, o + j, none⟩ = some u ∧ u.oneCell' = true) := fun h => by
    obtain ⟨A, c, e, _, g⟩ := H3.out
    simp only [Value.slice.injEq] at e
    obtain ⟨rfl, e, rfl⟩ := e
    obtain ⟨b, o, e', vl⟩ := g (by intro h'; rw [h'] at e; simp at e; omega)
    refine ⟨b, o, e', fun j hj => ?_⟩
    exact (vl.stays q3).cells j (by rw [← e]; exact hj)
  have l3 : Hid (Vn ≤ maxLen ∧ Vn * 80 ≤ 140737488355328) := by
    have := HN.out
    exact ⟨by unfold maxLen; omega, by omega⟩
  clear q2 bp bz bp3 bz3 q3
  go_wp2_with (at_builtin; refine wpList_copy rfl _ _ 23 rfl 26 i3 _ 5 80 Tryz.underlying23 hi3 hz3 hs3 hb3 rfl (by decide) A3 Vn k3 rfl rfl c3.out l3.out.1 l3.out.2 ?_)
  intro B3 d3 w4 C4
  have bp4 := BP3.out.stays C4.q
  have bz4 := BZ3.out.stays C4.q
  have y3 := bp4.at 3 _ rfl
  have f3 := bp4.frozen 3
  obtain ⟨w5, hw5⟩ : ∃ w5, w4.setCell ⟨P, 3, none⟩ (.slice B3 Vn d3) = w5 := ⟨_, rfl⟩
  have bp5 := bp4.set 3 (.slice B3 Vn d3)
  rw [hw5] at bp5
  have m5 := (Mv.of (g := P) (Q.refl w4)).set (p := P) (.inl rfl) 3 (.slice B3 Vn d3)
  rw [hw5] at m5
  have x4 := bp5.at 4 _ rfl
  have BP5 := Lib.hid bp5
  have BZ4 := Lib.hid bz4
  have M5 := Lib.hid m5
  have CC := Lib.hid C4
  have Q5 : Hid (Q w w5) := by
    have q4 := Q3.out.trans C4.q
    refine ⟨m5.os.trans q4.os, m5.tape.trans q4.tape, m5.output.trans q4.output, Nat.le_trans q4.size m5.size, fun j hj => (m5.block j (by omega) (Nat.lt_of_lt_of_le hj q4.size)).trans (q4.block j hj)⟩
  have c4 : Hid (0 < Vk → ∃ b o, A4 = some ⟨b, o, none⟩ ∧ ∀ j, j < Vk * 1 → ∃ u, w5.cell? ⟨b, o + j, none⟩ = some u ∧ u.oneCell' = true) := fun h => by
    obtain ⟨A, c, e, _, g⟩ := H4.out
    simp only [Value.slice.injEq] at e
    obtain ⟨rfl, e, rfl⟩ := e
    obtain ⟨b, o, e', kl⟩ := g (by intro h'; rw [h'] at e; simp at e; omega)
    refine ⟨b, o, e', fun j hj => ?_⟩
    exact KL.cells (KL.stays Q5.out v.keys b o kl) j (by rw [← e]; exact hj)
  have l4 : Hid (Vk ≤ maxLen ∧ Vk * 16 ≤ 140737488355328) := by
    have := HK.out
    exact ⟨by unfold maxLen; omega, by omega⟩
  clear bp4 bz4 bp5 m5 C4 x3 hw3 y2 f2
  go_wp2_with (at_builtin; refine wpList_copy rfl _ _ 24 rfl 9 i4 _ 1 16 Tryz.underlying24 hi4 hz4 hs4 hb4 rfl (by decide) A4 Vk k4 rfl rfl c4.out l4.out.1 l4.out.2 ?_)
  intro B4 d4 w6 C6
  have bp6 := BP5.out.stays C6.q
  have y4 := bp6.at 4 _ rfl
  have f4 := bp6.frozen 4
  obtain ⟨w7, hw7⟩ : ∃ w7, w6.setCell ⟨P, 4, none⟩ (.slice B4 Vk d4) = w7 := ⟨_, rfl⟩
  have bp7 := bp6.set 4 (.slice B4 Vk d4)
  rw [hw7] at bp7
  have m7 := (M5.out.q C6.q).set (p := P) (.inl rfl) 4 (.slice B4 Vk d4)
  rw [hw7] at m7
  have x4 := bp7.at 4 _ rfl
  have BP7 := Lib.hid bp7
  have M7 := Lib.hid m7
  have CK := Lib.hid C6
  have hFacts : Hid (∀ F, B4 = some ⟨F, 0, none⟩ → 0 < Vk → F ≠ P ∧ F ≠ P + 1 ∧ w4.heap.size ≤ F ∧ ∃ xs, w7.ownsRow w5.heap.size 9 1 (.slice (some ⟨F, 0, none⟩) Vk d4) Vk xs ∧ ∀ (j : Nat) (h : j < v.keys.length), xs[j]? = some (.string v.keys[j])) := fun F hF h0 => by
    obtain ⟨F', b, o, e1, e2, h1, h2, h3, h4⟩ := C6.row h0
    rw [hF] at e1
    simp only [Option.some.injEq, Addr.mk.injEq] at e1
    obtain ⟨rfl, _⟩ := e1
    have hsz5 := M5.out.size
    have hPlt := (BZ4.out.stays (Q.refl _)).lt
    have hne : F ≠ P := by omega
    refine ⟨hne, by omega, by omega, cellsAt w5 b o (Vk * 1), ?_, fun j hj => ?_⟩
    · have := heap_other_own h3 (w' := w7) (by rw [← hw7]; exact Below.heap_setCell _ _ _ _ hne)
      exact this
    · obtain ⟨A, c, e, _, g⟩ := H4.out
      simp only [Value.slice.injEq] at e
      obtain ⟨rfl, e, rfl⟩ := e
      obtain ⟨b', o', e', kl⟩ := g (by intro h'; rw [h'] at hj; simp at hj)
      rw [e2] at e'
      simp only [Option.some.injEq, Addr.mk.injEq] at e'
      obtain ⟨rfl, rfl, _⟩ := e'
      have hk := KL.at _ _ _ _ (KL.stays Q5.out v.keys b o kl) j hj
      unfold cellsAt
      rw [List.getElem?_map, List.getElem?_range (by omega)]
      simp [hk]
  clear bp6 bp7 m7 C6 hw5 y3 f3
  go_wp2_with fail
  go_loopw [20] (fun i wr => ∃ k : Nat, k ≤ Vk ∧ i = .int .i64 k ∧ Hid (Bk P #[.int .i64 v.kind, .int .i64 v.num, .string v.str, .slice B3 Vn d3, .slice B4 Vk d4] 26 wr ∧ Mv P w4 wr ∧ (∀ F, B4 = some ⟨F, 0, none⟩ → 0 < Vk → F ≠ P ∧ F ≠ P + 1 ∧ w4.heap.size ≤ F ∧ ∃ xs, wr.ownsRow w5.heap.size 9 1 (.slice (some ⟨F, 0, none⟩) Vk d4) Vk xs ∧ ∀ (j : Nat) (h : j < v.keys.length), xs[j]? = some (.string v.keys[j])))) (fun i _ => Vk - (intOf i).toNat)
  case atStart => exact ⟨0, Nat.zero_le _, rfl, Lib.hid ⟨BP7.out, M7.out, hFacts.out⟩⟩
  case round =>
    obtain ⟨k, hk, rfl, HI⟩ := hrel
    by_cases hlt : k < Vk
    · have hpos : 0 < Vk := by omega
      obtain ⟨F, b, o, rfl, e2, -⟩ := CK.out.row hpos
      obtain ⟨bp, mv, hown⟩ := HI.out
      obtain ⟨n1, n2, n3, xs, own, hx⟩ := hown F rfl hpos
      have hkl : k < v.keys.length := by have := E4.out; show k < v.keys.length; omega
      have hmem : Hid (v.keys[k] ∈ v.keys) := List.getElem_mem hkl
      have hxk := hx k hkl
      have ck : wr.cell? ⟨F, k, none⟩ = some (.string v.keys[k]) := by rw [World.ownsRow.cellAt own k (by omega)]; exact hxk
      have hFlt := cell_lt ck
      have HX : Hid (∀ v1, Q wr v1 → Bk P #[.int .i64 v.kind, .int .i64 v.num, .string v.str, .slice B3 Vn d3, .slice (some ⟨F, 0, none⟩) Vk d4] 26 (v1.setCell ⟨F, k, none⟩ (.string v.keys[k])) ∧ Mv P w4 (v1.setCell ⟨F, k, none⟩ (.string v.keys[k])) ∧ (∀ F', some (⟨F, 0, none⟩ : Addr) = some ⟨F', 0, none⟩ → 0 < Vk → F' ≠ P ∧ F' ≠ P + 1 ∧ w4.heap.size ≤ F' ∧ ∃ xs, (v1.setCell ⟨F, k, none⟩ (.string v.keys[k])).ownsRow w5.heap.size 9 1 (.slice (some ⟨F', 0, none⟩) Vk d4) Vk xs ∧ ∀ (j : Nat) (h : j < v.keys.length), xs[j]? = some (.string v.keys[j]))) := fun v1 q => by
        refine ⟨(bp.stays q).other (Ne.symm n1) _ _, (mv.q q).set (.inr n3) _ _, fun F' hF' _ => ?_⟩
        simp only [Option.some.injEq, Addr.mk.injEq] at hF'
        obtain ⟨rfl, _⟩ := hF'
        refine ⟨n1, n2, n3, xs.set k (.string v.keys[k]), (World.ownsRow.stored (heap_other_own own (q.block F hFlt)) k _).1, fun j hj => ?_⟩
        by_cases e : k = j
        · subst e
          rw [List.getElem?_set_self (List.getElem?_eq_some_iff.1 hxk).1]
        · rw [List.getElem?_set_ne e]
          exact hx j hj
      have OW : Hid (∀ v1, Hid (Q wr v1) → v1.cell? ⟨F, k, none⟩ = some (.string v.keys[k]) ∧ v1.frozen? ⟨F, k, none⟩ = false) := fun v1 q => ⟨cell_stays q.out ck, World.ownsRow.frozenAt (heap_other_own own (q.out.block F hFlt)) k⟩
      have sees : Hid (∀ v1, Hid (Q wr v1) → v1.cell? ⟨P, 4, none⟩ = some (.slice (some ⟨F, 0, none⟩) Vk d4)) := fun v1 q => (bp.stays q.out).at 4 _ rfl
      have sees2 : Hid (∀ v1, Hid (Q wr v1) → (v1.setCell ⟨F, k, none⟩ (.string v.keys[k])).cell? ⟨P, 4, none⟩ = some (.slice (some ⟨F, 0, none⟩) Vk d4)) := fun v1 q => ((bp.stays q.out).other (Ne.symm n1) _ _).at 4 _ rfl
      have q0 : Hid (Q wr wr.drew) := Lib.hid ((Below.refl _ _).drew)
      have hkb : (k : Int) < (Vk : Int) := by omega
      have hkm : (k : Int) < 1000000 := by have := HK.out; omega
      have hlt' := Lib.hid hlt
      clear HI bp mv hown n1 n2 n3 own hx hxk hk hlt hpos hFlt e2
      generalize v.keys[k] = key at *
      clear hkl
      go_wp2_with fail
      refine Go.wp_region_held_drew (S := fun w' => w'.cell? ⟨P, 4, none⟩ = some (.slice (some ⟨F, 0, none⟩) Vk d4)) (by kernel_rfl) (sees.out _ q0) (fun hHeld => ?_)
      refine Go.wpAnyH_take (i := 0) (oi := _) (v := ?_) rfl (by kernel_rfl) (by kernel_rfl) (by kernel_rfl) (fun _ _ _ h => h) (Or.inl ⟨by rfl, ?_⟩) (by assumption) ?_
      rotate_left 1
      · intro wx hSw
        go_simp <;> with_reducible rfl
      simp only [Act.put, List.getElem_toArray, List.getElem_cons_zero, List.setIfInBounds_toArray, List.set_cons_zero, List.set_cons_succ]
      refine Go.wpAnyH_take (i := 1) (oi := _) (v := ?_) rfl (by kernel_rfl) (by kernel_rfl) (by kernel_rfl) (fun _ _ _ h => h) (Or.inl ⟨by rfl, ?_⟩) (by assumption) ?_
      rotate_left 1
      · intro wx hSw
        go_simp <;> with_reducible rfl
      simp only [Act.put, List.getElem_toArray, List.getElem_cons_zero, List.getElem_cons_succ, List.setIfInBounds_toArray, List.set_cons_zero, List.set_cons_succ]
      refine Go.wpAnyH_take (i := 2) (oi := _) (v := ?_) rfl (by kernel_rfl) (by kernel_rfl) (by kernel_rfl) (fun _ _ _ h => h) (Or.inl ⟨by rfl, ?_⟩) (by assumption) ?_
      rotate_left 1
      · intro wx hSw
        go_simp <;> with_reducible rfl
      simp only [Act.put, List.getElem_toArray, List.getElem_cons_zero, List.getElem_cons_succ, List.setIfInBounds_toArray, List.set_cons_zero, List.set_cons_succ]
      refine Go.wpAnyH_take (i := 3) (oi := _) (v := ?_) rfl (by kernel_rfl) (by kernel_rfl) (by kernel_rfl) (fun _ _ _ h => h) (Or.inl ⟨by rfl, ?_⟩) (by assumption) ?_
      rotate_left 1
      · intro wx hSw
        go_simp <;> with_reducible rfl
      simp only [Act.put, List.getElem_toArray, List.getElem_cons_zero, List.getElem_cons_succ, List.setIfInBounds_toArray, List.set_cons_zero, List.set_cons_succ]
      refine Go.wpAnyH_ready (rs := [4]) (by kernel_rfl) (by simp) ?_
      refine Go.AllReadyH.cons rfl (fun K hK => ?_) Go.AllReadyH.nil
      rw [if_pos (by rfl)]
      go_simp
      refine (cK.out key _ hmem.out).mono ?_; rintro e v1 ⟨rfl, h1⟩
      have Q1' : Hid (Q wr v1) := Lib.hid (q0.out.trans h1)
      have z1 := (OW.out _ Q1').1
      have z2 := (OW.out _ Q1').2
      clear h1
      refine hK.out _ _ (sees.out _ Q1') (fun hHeld => ?_)
      clear hK K
      refine Go.wpAnyH_take (i := 5) (oi := _) (v := ?_) rfl (by kernel_rfl) (by kernel_rfl) (by kernel_rfl) (fun _ _ _ h => h) (Or.inl ⟨by rfl, ?_⟩) (by assumption) ?_
      rotate_left 1
      · intro wx hSw
        go_simp <;> with_reducible rfl
      simp only [Act.put, List.getElem_toArray, List.getElem_cons_zero, List.getElem_cons_succ, List.setIfInBounds_toArray, List.set_cons_zero, List.set_cons_succ]
      refine Go.wpAnyH_ready (rs := [6]) (by kernel_rfl) (by simp) ?_
      refine Go.AllReadyH.cons rfl (fun K hK => ?_) Go.AllReadyH.nil
      rw [if_pos (by rfl)]
      go_simp
      refine hK.out _ _ (sees2.out _ Q1') (fun hHeld => ?_)
      clear hK K
      refine Go.wpAnyH_done (by kernel_rfl) ?_ _
      have NX := Lib.hid (HX.out v1 Q1'.out)
      clear z1 z2 ck
      go_wp2_with fail
      go_roundw
      case rel => exact ⟨k + 1, hlt'.out, by go_num, NX⟩
      case measure => have := hlt'.out; simp [intOf]; omega
    · obtain rfl : Vk = k := by omega
      obtain ⟨bp, mv, hown⟩ := HI.out
      have bz : Bk (P + 1) #[.int .i64 0, .int .i64 0, .string ⟨#[]⟩, .slice none 0 0, .slice none 0 0] 26 wr := (mv.block (P + 1) (by omega) BZ4.out.lt).trans BZ4.out
      have y0 := bp.at 0 _ rfl
      have y1 := bp.at 1 _ rfl
      have y2 := bp.at 2 _ rfl
      have y3 := bp.at 3 _ rfl
      have y4 := bp.at 4 _ rfl
      have z0 := bz.at 0 _ rfl
      have z1 := bz.at 1 _ rfl
      have z2 := bz.at 2 _ rfl
      have z3 := bz.at 3 _ rfl
      have z4 := bz.at 4 _ rfl
      have f0 := bz.frozen 0
      have f1 := bz.frozen 1
      have f2 := bz.frozen 2
      have f3 := bz.frozen 3
      have f4 := bz.frozen 4
      obtain ⟨wf, hwf⟩ : ∃ wf, (((((wr.setCell ⟨P + 1, 0, none⟩ (.int .i64 v.kind)).setCell ⟨P + 1, 1, none⟩ (.int .i64 v.num)).setCell ⟨P + 1, 2, none⟩ (.string v.str)).setCell ⟨P + 1, 3, none⟩ (.slice B3 Vn d3)).setCell ⟨P + 1, 4, none⟩ (.slice B4 Vk d4)) = wf := ⟨_, rfl⟩
      have bf : Bk (P + 1) #[.int .i64 v.kind, .int .i64 v.num, .string v.str, .slice B3 Vn d3, .slice B4 Vk d4] 26 wf := by
        rw [← hwf]
        exact ((((bz.set 0 (.int .i64 v.kind)).set 1 (.int .i64 v.num)).set 2 (.string v.str)).set 3 (.slice B3 Vn d3)).set 4 (.slice B4 Vk d4)
      have hbl : ∀ j, j ≠ P + 1 → wf.heap[j]? = wr.heap[j]? := fun j hj => by
        rw [← hwf]
        exact (Below.heap_setCell _ ⟨P + 1, 4, none⟩ _ j hj).trans ((Below.heap_setCell _ ⟨P + 1, 3, none⟩ _ j hj).trans ((Below.heap_setCell _ ⟨P + 1, 2, none⟩ _ j hj).trans ((Below.heap_setCell _ ⟨P + 1, 1, none⟩ _ j hj).trans (Below.heap_setCell _ ⟨P + 1, 0, none⟩ _ j hj))))
      have ho : wf.os = wr.os ∧ wf.tape = wr.tape ∧ wf.output = wr.output ∧ wf.heap.size = wr.heap.size := by
        rw [← hwf]
        simp [World.setCell]
      have q4 := Q3.out.trans CC.out.q
      have FIN : Hid (Noded v A3 A4 w B3 d3 (.slice B4 Vk d4) wf) := by
        refine ⟨⟨ho.1.trans (mv.os.trans q4.os), ho.2.1.trans (mv.tape.trans q4.tape), ho.2.2.1.trans (mv.output.trans q4.output), by have := q4.size; have := mv.size; omega, fun j hj => ?_⟩, by rw [E3.out]; exact CC.out.le, fun h0 => ?_, ?_⟩
        · exact (hbl j (by omega)).trans ((mv.block j (by omega) (Nat.lt_of_lt_of_le hj q4.size)).trans (q4.block j hj))
        · obtain ⟨F, b, o, e1, e2, g1, g2, g3, g4⟩ := CC.out.row (by rw [← E3.out]; exact h0)
          have hF1 : F ≠ P ∧ F ≠ P + 1 := by have := BZ3.out.lt; omega
          have hsame : wf.heap[F]? = w4.heap[F]? := (hbl F hF1.2).trans (mv.block F hF1.1 g2)
          refine ⟨F, b, o, e1, e2, by have := Q3.out.size; omega, ?_, fun j u hj hu => ?_⟩
          · rcases g3.2 with ⟨h, _⟩ | ⟨g', cap', cur, hv, _, hg, _⟩
            · cases h
            · simp only [Value.slice.injEq, Option.some.injEq, Addr.mk.injEq] at hv
              obtain ⟨⟨rfl, _⟩, _, _⟩ := hv
              exact ⟨cur, hsame.trans hg⟩
          · rw [E3.out] at hj
            exact (cell_block (a := ⟨F, j, none⟩) hsame).trans (g4 j u hj (cell_stays Q3.out hu))
        · rcases Nat.eq_zero_or_pos Vk with h0 | h0
          · have : v.keys = [] := List.eq_nil_of_length_eq_zero (by rw [E4.out]; exact h0)
            rw [this, h0]
            exact ⟨B4, d4, rfl, Nat.zero_le _, fun h => absurd rfl h⟩
          · obtain ⟨F, b, o, e1, -, -, -, -, -⟩ := CK.out.row h0
            obtain ⟨n1, n2, n3, xs, own, hx⟩ := hown F e1 h0
            refine ⟨B4, d4, by rw [E4.out], by rw [E4.out]; exact CK.out.le, fun _ => ⟨F, e1, by have := q4.size; omega, KL.of_at _ _ _ _ fun j hj => ?_⟩⟩
            rw [Nat.zero_add, cell_block (a := ⟨F, j, none⟩) (hbl F n2), World.ownsRow.cellAt own j (by have := E4.out; omega)]
            exact hx j hj
      have r0 := bf.at 0 _ rfl
      have r1 := bf.at 1 _ rfl
      have r2 := bf.at 2 _ rfl
      have r3 := bf.at 3 _ rfl
      have r4 := bf.at 4 _ rfl
      clear hk hlt bp mv bz hown hbl ho q4 bf
      go_wp2_with fail
      refine bodyPost_ret (by simp [results, Tryz.results74, go_sem, r0, r1, r2, r3, r4]; try rfl) rfl ?_
      exact ⟨_, _, _, rfl, FIN.out⟩

end Go.Proofs.YtjmchjphdfbhiaaGreatDoor.val
