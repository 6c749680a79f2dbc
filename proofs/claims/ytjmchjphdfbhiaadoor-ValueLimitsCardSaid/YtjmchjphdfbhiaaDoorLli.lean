/- The law ValueLimits. -/
import Derived.Test.YtjmchjphdfbhiaaDoorVal
import Derived.Test.YtjmchjphdfbhiaaDoorNmk
import Derived.Test.YtjmchjphdfbhiaaDoorWfx
namespace Go.Proofs.YtjmchjphdfbhiaaDoor.val
open Go.RowKit
open Go.Proofs.YtjmchjphdfbhiaaDoor
open Go.Proofs.YtjmchjphdfbhiaaDoor.lit (Fx)
open Go.Proofs.YtjmchjphdfbhiaaDoor.val.cp (Fit FitL Fit_iff FitL_cons FitL_nil set5 set5_block set5_world set5_at)
/-- What the loop knows. -/
structure Nst (w : World) (p m : Nat) (A : Option Addr) (c : Nat) (B : Option Addr) (d : Nat) (w' : World) : Prop where
  q : Q w w'
  ge : w.heap.size ≤ p
  bk : Bk p #[.int .i64 (nest m).kind, .int .i64 0, .string ⟨#[]⟩, .slice A (nest m).items.length c, .slice B 0 d] 28 w'
  is : Is (.slice A (nest m).items.length c) (nest m).items (er p w')
theorem Nst.stays {w : World} {p m : Nat} {A : Option Addr} {c : Nat} {B : Option Addr} {d : Nat} {w' w2 : World} (h : Nst w p m A c B d w') (q : Q w' w2) : Nst w p m A c B d w2 :=
  ⟨h.q.trans q, h.ge, h.bk.stays q, h.is.stays (q.er h.bk.lt)⟩
theorem Nst.next {w : World} {p m : Nat} {A : Option Addr} {c : Nat} {B : Option Addr} {d : Nat} {w' : World} (h : Nst w p m A c B d w') {A' B' : Option Addr} {c' d' : Nat} (hi : Is (.slice A' 1 c') [nest m] (er p w')) :
    Nst w p (m + 1) A' c' B' d' (set5 w' p 0 (.int .i64 4) (.int .i64 0) (.string ⟨#[]⟩) (.slice A' 1 c') (.slice B' 0 d')) := by
  have hw := set5_world w' p 0 (.int .i64 4) (.int .i64 0) (.string ⟨#[]⟩) (.slice A' 1 c') (.slice B' 0 d')
  have hb := set5_block w' p 0 (.int .i64 4) (.int .i64 0) (.string ⟨#[]⟩) (.slice A' 1 c') (.slice B' 0 d')
  refine ⟨⟨hw.1.trans h.q.os, hw.2.1.trans h.q.tape, hw.2.2.1.trans h.q.output, by have := h.q.size; omega, fun j hj => (hb j (by have := h.ge; omega)).trans (h.q.block j hj)⟩, h.ge, ((((h.bk.set 0 _).set 1 _).set 2 _).set 3 _).set 4 _, ?_⟩
  have hi : Is (.slice A' 1 c') [nest m] (er p w') := hi
  exact hi.stays (er_q h.bk.lt (by omega) ⟨hw.1, hw.2.1, hw.2.2.1⟩ (fun j _ hj => hb j hj))
theorem map_one (s : ByteArray) (hs : s.size ≤ 100000) (A3 A4 : Option Addr) (c3 c4 : Nat) (w : World) (hI : Is (.slice A3 1 c3) [vN] w) (hK : Ks (.slice A4 1 c4) [s] w) :
    Calls Tryd.prog 8 #[.slice A4 1 c4, .slice A3 1 c3] w fun e w' => ∃ A c A' c', e = .returned (.tuple #[.agg #[.int .i64 5, .int .i64 0, .string ⟨#[]⟩, .slice A 1 c, .slice A' 1 c'], .int .i64 0]) ∧ Is (.slice A 1 c) [vN] w' ∧ Ks (.slice A' 1 c') [s] w' ∧ Q w w' := by
  refine (map_eq [s] [vN] A4 A3 c4 c3 w rfl hK hI ((FitL_cons _ _).2 ⟨fit_leaf 0 0, FitL_nil⟩) (fun k hk => by rw [List.mem_singleton.1 hk]; omega) (by decide) (show 1 ≤ 100000 by decide)).mono ?_
  rintro e w' ⟨q, h⟩
  rw [if_pos (show [s].length = [vN].length from rfl)] at h
  obtain ⟨s3, s4, rfl, h3, h4⟩ := h
  have h3 : Is s3 [vN] w' := h3
  have h4 : Ks s4 [s] w' := h4
  obtain ⟨A, c, rfl, -⟩ := h3.shape
  obtain ⟨B, d, rfl, -⟩ := h4.shape
  exact ⟨A, c, B, d, rfl, h3, h4, q⟩
set_option maxRecDepth 100000 in
set_option maxHeartbeats 40000000 in
theorem limitsLaw_any (a b c : Int) (w : World) (ba : 0 ≤ a ∧ a ≤ 65535) (bb : 0 ≤ b ∧ b ≤ 65535) (bc : 0 ≤ c ∧ c ≤ 65535) (f : Fx w) :
    Calls Tryd.prog 3 #[.int .u16 a, .int .u16 b, .int .u16 c] w fun e w' => e = .returned (.bool true) ∧ Q w w' := by
  have cA := Lib.hid (fun w' (q : Q w w') => awake_any w' (q.fx f))
  obtain ⟨p, rfl⟩ : ∃ p : Nat, a = (p : Int) := ⟨a.toNat, by omega⟩
  obtain ⟨q, rfl⟩ : ∃ p : Nat, b = (p : Int) := ⟨b.toNat, by omega⟩
  obtain ⟨r, rfl⟩ : ∃ p : Nat, c = (p : Int) := ⟨c.toNat, by omega⟩
  clear ba bb bc
  by_cases hp : 60 < p
  · have f1 : decide ((60 : Int) < (p : Int)) = true := decide_eq_true (by omega)
    clear hp f
    go_enter Tryd.func3, Tryd.ntmps3
    go_wp2_with fail
    refine (cA.out _ (Q.refl _)).mono ?_
    rintro e wz ⟨rfl, qz⟩
    go_wp2_with fail
    go_ret
    exact ⟨rfl, qz⟩
  by_cases hq : 4200 < q
  · have f1 : decide ((60 : Int) < (p : Int)) = false := decide_eq_false (by omega)
    have f2 : decide ((4200 : Int) < (q : Int)) = true := decide_eq_true (by omega)
    clear hp hq f
    go_enter Tryd.func3, Tryd.ntmps3
    go_wp2_with fail
    refine (cA.out _ (Q.refl _)).mono ?_
    rintro e wz ⟨rfl, qz⟩
    go_wp2_with fail
    go_ret
    exact ⟨rfl, qz⟩
  by_cases hr : 4200 < r
  · have f1 : decide ((60 : Int) < (p : Int)) = false := decide_eq_false (by omega)
    have f2 : decide ((4200 : Int) < (q : Int)) = false := decide_eq_false (by omega)
    have f3 : decide ((4200 : Int) < (r : Int)) = true := decide_eq_true (by omega)
    clear hp hq hr f
    go_enter Tryd.func3, Tryd.ntmps3
    go_wp2_with fail
    refine (cA.out _ (Q.refl _)).mono ?_
    rintro e wz ⟨rfl, qz⟩
    go_wp2_with fail
    go_ret
    exact ⟨rfl, qz⟩
  have f1 : decide ((60 : Int) < (p : Int)) = false := decide_eq_false (by omega)
  have f2 : decide ((4200 : Int) < (q : Int)) = false := decide_eq_false (by omega)
  have f3 : decide ((4200 : Int) < (r : Int)) = false := decide_eq_false (by omega)
  have hp60 : (p : Int) ≤ 60 := by omega
  have hq42 : (q : Int) ≤ 4200 := by omega
  have hr42 : (r : Int) ≤ 4200 := by omega
  have HB := Lib.hid (show p ≤ 60 ∧ q ≤ 4200 ∧ r ≤ 4200 by omega)
  have cNu : Hid (∀ w', Calls Tryd.prog 5 #[] w' fun e w'' => ∃ A c B d, e = .returned (.agg #[.int .i64 0, .int .i64 0, .string ⟨#[]⟩, .slice A 0 c, .slice B 0 d]) ∧ Q w' w'') := Lib.hid (fun w' => (null_any w').mono fun _ _ h => leaf_ex h)
  have FX := Lib.hid f
  clear hp hq hr f
  go_enter Tryd.func3, Tryd.ntmps3
  go_wp2_with fail
  refine (cNu.out _).mono ?_
  rintro e w1 ⟨A0, c0, B0, d0, rfl, q1⟩
  obtain ⟨P, hP⟩ : ∃ x, w1.heap.size = x := ⟨_, rfl⟩
  obtain ⟨w2, hw2⟩ : ∃ x, w1.alloc (.cells #[.int .i64 0, .int .i64 0, .string ⟨#[]⟩, .slice A0 0 c0, .slice B0 0 d0] 28) = x := ⟨_, rfl⟩
  have q2 : Q w1 w2 := by rw [← hw2]; exact Q.box _ _
  have bk : Bk P #[.int .i64 0, .int .i64 0, .string ⟨#[]⟩, .slice A0 0 c0, .slice B0 0 d0] 28 w2 := by rw [← hw2, ← hP]; exact Bk.new _ _ _
  have N0 : Hid (Nst w P 0 A0 c0 B0 d0 w2) := Lib.hid ⟨q1.trans q2, by have := q1.size; omega, bk, Is.nil _ _ _⟩
  clear q1 q2 bk
  go_wp2_with fail
  clear hw2 hP
  go_loopw [8] (fun i wr => ∃ (k m : Nat), k = m + 1 ∧ (k ≤ p ∨ m = 0) ∧ i = .int .i64 (k : Nat) ∧ ∃ A c B d, Hid (Nst w P m A c B d wr)) (fun i _ => p - (intOf i).toNat)
  case atStart => exact ⟨1, 0, rfl, .inr rfl, rfl, A0, c0, B0, d0, N0⟩
  case round =>
    obtain ⟨k, m, hkm, hk, rfl, A, c, B, d, hN⟩ := hrel
    by_cases hlt : k < p
    · have hkz : (k : Int) < (p : Int) := by omega
      have hkz' : decide ((k : Int) < (p : Int)) = true := decide_eq_true hkz
      obtain ⟨vk, hvk⟩ : ∃ x, (nest m).kind = x := ⟨_, rfl⟩
      obtain ⟨ln, hln⟩ : ∃ x, (nest m).items.length = x := ⟨_, rfl⟩
      have hb := hN.out.bk
      rw [hvk, hln] at hb
      have x0 := hb.at 0 _ rfl
      have x1 := hb.at 1 _ rfl
      have x2 := hb.at 2 _ rfl
      have x3 := hb.at 3 _ rfl
      have x4 := hb.at 4 _ rfl
      obtain ⟨D, hD⟩ : ∃ x, wr.heap.size = x := ⟨_, rfl⟩
      obtain ⟨wd, hwd⟩ : ∃ x, wr.alloc (.cells #[.int .i64 vk, .int .i64 0, .string ⟨#[]⟩, .slice A ln c, .slice B 0 d] 28) = x := ⟨_, rfl⟩
      have qd : Q wr wd := by rw [← hwd]; exact Q.box _ _
      have bd : Bk D #[.int .i64 (nest m).kind, .int .i64 0, .string ⟨#[]⟩, .slice A (nest m).items.length c, .slice B 0 d] 28 wd := by rw [hvk, hln, ← hwd, ← hD]; exact Bk.new _ _ _
      have hNd := hN.out.stays qd
      have hne : D ≠ P := by have := hN.out.bk.lt; omega
      have cL := Lib.hid (list_er P (some ⟨D, 0, none⟩) 1 1 [nest m] wd rfl hNd.bk.lt (nest_row bd hne hNd.is) ((Fit_iff _).2 ⟨Nat.zero_le _, (fun x hx => absurd hx (List.not_mem_nil)), (show 1 ≤ 1000000 from by decide), Nat.zero_le _, (FitL_cons _ _).2 ⟨nest_fit m, FitL_nil⟩⟩) (by rw [nodesL, nodesL, nest_nodes m]; have := HB.out; omega))
      have ND := Lib.hid hNd
      have hlt' := Lib.hid (show k < p ∧ k = m + 1 from ⟨hlt, hkm⟩)
      clear hb bd hNd hne hN hvk hln hlt hkm hk qd
      go_wp2_with fail
      refine (cL.out).mono ?_
      rintro e w3 ⟨A', c', B', d', rfl, hI, q3⟩
      have N3 := ND.out.stays q3
      have hNN := N3.next (B' := B') (d' := d') hI
      have bz := N3.bk
      have z0 := bz.at 0 _ rfl
      have z1 := bz.at 1 _ rfl
      have z2 := bz.at 2 _ rfl
      have z3 := bz.at 3 _ rfl
      have z4 := bz.at 4 _ rfl
      have g0 := bz.frozen 0
      have g1 := bz.frozen 1
      have g2 := bz.frozen 2
      have g3 := bz.frozen 3
      have g4 := bz.frozen 4
      obtain ⟨wf, hwf⟩ : ∃ wf, set5 w3 P 0 (.int .i64 4) (.int .i64 0) (.string ⟨#[]⟩) (.slice A' 1 c') (.slice B' 0 d') = wf := ⟨_, rfl⟩
      rw [hwf] at hNN
      unfold set5 at hwf
      simp only [Nat.zero_add] at hwf
      have NN := Lib.hid hNN
      clear bz hNN N3 hI q3 x0 x1 x2 x3 x4 hwd hD cL
      go_wp2_with fail
      go_round
      case rel => exact ⟨k + 1, m + 1, by have := hlt'.out; omega, .inl (by have := hlt'.out; omega), by go_num, A', c', B', d', NN⟩
      case measure => have := hlt'.out; simp [intOf]; omega
    · have hkz' : decide ((k : Int) < (p : Int)) = false := decide_eq_false (by omega)
      have hkz2 : decide (k < p) = false := decide_eq_false hlt
      have hk' : ¬ k < p := hlt
      have cC : Hid (∀ w', Q wr w' → Calls Tryd.prog 7 #[.agg #[.int .i64 (nest m).kind, .int .i64 0, .string ⟨#[]⟩, .slice A (nest m).items.length c, .slice B 0 d]] w' fun e w'' => e = .returned (.int .i64 (if 32 < p then 4 else 0)) ∧ Q w' w'') := Lib.hid (fun w' q' => by
        have h := check_any (nest m) (.slice A (nest m).items.length c) (.slice B 0 d) w' w' (Q.refl _) ((hN.out.q.trans q').fx FX.out) (hN.out.stays q').is.real (by rw [nest_keys]; exact Ks.nil _ _ _) (nest_wf m) (by rw [nest_nodes]; have := HB.out; omega)
        rw [nest_num, nest_str, chkE_nest m (by have := HB.out; omega)] at h
        have e : (if 32 < m + 1 then (4 : Int) else 0) = if 32 < p then 4 else 0 := by
          have hb := HB.out
          by_cases h1 : 32 < p
          · rw [if_pos h1, if_pos (by omega)]
          · rw [if_neg h1, if_neg (by omega)]
        rw [e] at h
        exact h)
      have QR := Lib.hid hN.out.q
      obtain ⟨vk, hvk⟩ : ∃ x, (nest m).kind = x := ⟨_, rfl⟩
      obtain ⟨ln, hln⟩ : ∃ x, (nest m).items.length = x := ⟨_, rfl⟩
      have hb := hN.out.bk
      rw [hvk, hln] at hb cC
      have x0 := hb.at 0 _ rfl
      have x1 := hb.at 1 _ rfl
      have x2 := hb.at 2 _ rfl
      have x3 := hb.at 3 _ rfl
      have x4 := hb.at 4 _ rfl
      have cQ : Hid (∀ w', Q w w' → ∀ D, Bk D (madeCells z5 (q * 5)) 28 w' → Calls Tryd.prog 6 #[.slice (some ⟨D, 0, none⟩) q q] w' fun e w'' => ∃ X3 x3 X4 x4, e = .returned (.agg #[.int .i64 4, .int .i64 0, .string ⟨#[]⟩, .slice X3 q x3, .slice X4 0 x4]) ∧ Is (.slice X3 q x3) (List.replicate q vN) w'' ∧ Q w' w'') := Lib.hid (fun w' _ D hD => by
        have hi := nulls_row q w' D _ hD
        have hl : (List.replicate q vN).length = q := List.length_replicate
        have h := list_any (some ⟨D, 0, none⟩) q (List.replicate q vN) w' (by rw [hl]; exact hi) (nulls_fit q (by have := HB.out; omega)) (by rw [nodes_nulls]; have := HB.out; omega)
        rw [hl] at h
        refine h.mono ?_
        rintro e w'' ⟨s3, s4, rfl, h3, h4, q'⟩
        have h3 : Is s3 (List.replicate q vN) w'' := h3
        have h4 : Ks s4 [] w'' := h4
        obtain ⟨X3, x3, rfl, -⟩ := h3.shape
        obtain ⟨X4, x4, rfl, -⟩ := h4.shape
        rw [hl] at h3
        refine ⟨X3, x3, X4, x4, ?_, h3, q'⟩
        rw [hl]
        rfl)
      have cD : Hid (∀ w', Q w w' → ∀ X3 x3 X4 x4, Is (.slice X3 q x3) (List.replicate q vN) w' → Calls Tryd.prog 7 #[.agg #[.int .i64 4, .int .i64 0, .string ⟨#[]⟩, .slice X3 q x3, .slice X4 0 x4]] w' fun e w'' => e = .returned (.int .i64 (if 4096 < q + 1 then 14 else 0)) ∧ Q w' w'') := Lib.hid (fun w' q' X3 x3 X4 x4 hi => by
        have hl : (List.replicate q vN).length = q := List.length_replicate
        have h := check_any ⟨4, 0, ⟨#[]⟩, List.replicate q vN, []⟩ (.slice X3 q x3) (.slice X4 0 x4) w' w' (Q.refl _) (q'.fx FX.out) hi (Ks.nil _ _ _) (nulls_wf q (by have := HB.out; omega)) (by rw [nodes, nodes_nulls]; have := HB.out; omega)
        rw [chkE_nulls] at h
        exact h)
      obtain ⟨S, hS⟩ : ∃ x, zS r = x := ⟨_, rfl⟩
      have hSz : S.size ≤ 100000 := by rw [← hS, zS_size]; have := HB.out; omega
      have hSt : textE S = if 4096 < r then 3 else 0 := by rw [← hS]; exact zS_text r
      have cB : Hid (∀ w' D, Bk D (madeCells #[.int .u8 0] r) 5 w' → (convert 33 9 (.slice (some ⟨D, 0, none⟩) r r)).run Tryd.prog w' = .ok (.string S) w') := Lib.hid (fun w' D hD => by rw [← hS]; exact bytes_text r w' D _ hD)
      have cM : Hid (∀ w' A3 c3 A4 c4, Is (.slice A3 1 c3) [vN] w' → Ks (.slice A4 1 c4) [S] w' → Calls Tryd.prog 8 #[.slice A4 1 c4, .slice A3 1 c3] w' fun e w'' => ∃ A c A' c', e = .returned (.tuple #[.agg #[.int .i64 5, .int .i64 0, .string ⟨#[]⟩, .slice A 1 c, .slice A' 1 c'], .int .i64 0]) ∧ Is (.slice A 1 c) [vN] w'' ∧ Ks (.slice A' 1 c') [S] w'' ∧ Q w' w'') := Lib.hid (fun w' A3 c3 A4 c4 h3 h4 => map_one S hSz A3 A4 c3 c4 w' h3 h4)
      have cS : Hid (∀ w', Calls Tryd.prog 9 #[.string S] w' fun e w'' => ∃ A c B d, e = .returned (.agg #[.int .i64 3, .int .i64 0, .string S, .slice A 0 c, .slice B 0 d]) ∧ Q w' w'') := Lib.hid (fun w' => (string_any S w' (by omega)).mono fun e w'' h => by
        obtain ⟨s3, s4, rfl, h3, h4, q'⟩ := h
        have h3 : Is s3 [] w'' := h3
        have h4 : Ks s4 [] w'' := h4
        obtain ⟨X3, x3, rfl, -⟩ := h3.shape
        obtain ⟨X4, x4, rfl, -⟩ := h4.shape
        exact ⟨X3, x3, X4, x4, rfl, q'⟩)
      have cT : Hid (∀ w', Q w w' → ∀ X3 x3 X4 x4, Calls Tryd.prog 7 #[.agg #[.int .i64 3, .int .i64 0, .string S, .slice X3 0 x3, .slice X4 0 x4]] w' fun e w'' => e = .returned (.int .i64 (if 4096 < r then 3 else 0)) ∧ Q w' w'') := Lib.hid (fun w' q' X3 x3 X4 x4 => by
        have h := check_any ⟨3, 0, S, [], []⟩ (.slice X3 0 x3) (.slice X4 0 x4) w' w' (Q.refl _) (q'.fx FX.out) (Is.nil _ _ _) (Ks.nil _ _ _) (str_wf S hSz) (show 1 + 0 ≤ 100000 by decide)
        rw [chkE_str, hSt] at h
        exact h)
      have cU : Hid (∀ w', Q w w' → ∀ X3 x3 X4 x4, Is (.slice X3 1 x3) [vN] w' → Ks (.slice X4 1 x4) [S] w' → Calls Tryd.prog 7 #[.agg #[.int .i64 5, .int .i64 0, .string ⟨#[]⟩, .slice X3 1 x3, .slice X4 1 x4]] w' fun e w'' => e = .returned (.int .i64 (if 4096 < r then 3 else 0)) ∧ Q w' w'') := Lib.hid (fun w' q' X3 x3 X4 x4 h3 h4 => by
        have h := check_any ⟨5, 0, ⟨#[]⟩, [vN], [S]⟩ (.slice X3 1 x3) (.slice X4 1 x4) w' w' (Q.refl _) (q'.fx FX.out) h3 h4 (key_wf S hSz) (show 1 + (1 + 0 + 0) ≤ 100000 by decide)
        rw [chkE_map, hSt] at h
        exact h)
      have hmv := fun (w' : World) => make_vals q (by have := HB.out; omega) w'
      have hmb := fun (w' : World) => make_bytes r (by have := HB.out; omega) w'
      clear hb hN hvk hln hlt hk' hk hkm hS hSz hSt
      by_cases h32 : 32 < p
      · by_cases h40 : 4096 < q + 1
        · by_cases hr4 : 4096 < r
          · rw [if_pos h32] at cC
            rw [if_pos h40] at cD
            rw [if_pos hr4] at cT cU
            have j1 : decide ((32 : Int) < (p : Int)) = true := decide_eq_true (by omega)
            have j2 : decide ((4096 : Int) < (q : Int) + 1) = true := decide_eq_true (by omega)
            have j3 : decide ((4096 : Int) < (r : Int)) = true := decide_eq_true (by omega)
            clear h32 h40 hr4 hmb
            go_wp2_with fail
            refine (cC.out _ (Q.refl _)).mono ?_
            rintro e w3 ⟨rfl, q3⟩
            have Q3 := Lib.hid (QR.out.trans q3)
            clear x0 x1 x2 x3 x4 q3 cC
            have hmv3 := hmv w3
            obtain ⟨D, hD⟩ : ∃ x, w3.heap.size = x := ⟨_, rfl⟩
            obtain ⟨wd, hwd⟩ : ∃ x, w3.alloc (.cells (madeCells z5 (q * 5)) 28) = x := ⟨_, rfl⟩
            have qd : Q w3 wd := by rw [← hwd]; exact Q.box _ _
            have bd : Bk D (madeCells z5 (q * 5)) 28 wd := by rw [← hwd, ← hD]; exact Bk.new _ _ _
            have QD := Lib.hid (Q3.out.trans qd)
            have BD := Lib.hid bd
            rw [hD, hwd] at hmv3
            clear hmv qd bd hwd hD
            go_wp2_with fail
            refine (cQ.out _ QD.out _ BD.out).mono ?_
            rintro e w4 ⟨X3, x3, X4, x4, rfl, hI, q4⟩
            have Q4 := Lib.hid (QD.out.trans q4)
            have HI := Lib.hid hI
            clear hI q4 hmv3
            go_wp2_with fail
            refine (cD.out _ Q4.out _ _ _ _ HI.out).mono ?_
            rintro e w5 ⟨rfl, q5⟩
            have Q5 := Lib.hid (Q4.out.trans q5)
            clear q5
            have hmb5 := make_bytes r (by have := HB.out; omega) w5
            obtain ⟨G, hG⟩ : ∃ x, w5.heap.size = x := ⟨_, rfl⟩
            obtain ⟨wg, hwg⟩ : ∃ x, w5.alloc (.cells (madeCells #[.int .u8 0] r) 5) = x := ⟨_, rfl⟩
            have qg : Q w5 wg := by rw [← hwg]; exact Q.box _ _
            have bg : Bk G (madeCells #[.int .u8 0] r) 5 wg := by rw [← hwg, ← hG]; exact Bk.new _ _ _
            have QG := Lib.hid (Q5.out.trans qg)
            have hcv := cB.out wg G bg
            rw [hG, hwg] at hmb5
            obtain ⟨K, hK⟩ : ∃ x, wg.heap.size = x := ⟨_, rfl⟩
            obtain ⟨wk, hwk⟩ : ∃ x, wg.alloc (.cells #[.string S] 9) = x := ⟨_, rfl⟩
            have qk : Q wg wk := by rw [← hwk]; exact Q.box _ _
            have bk : Bk K #[.string S] 9 wk := by rw [← hwk, ← hK]; exact Bk.new _ _ _
            have QK := Lib.hid (QG.out.trans qk)
            have BK := Lib.hid bk
            clear qg bg hwg hG qk bk
            go_wp2_with fail
            refine (cNu.out _).mono ?_
            rintro e w6 ⟨A6, c6, B6, d6, rfl, q6⟩
            obtain ⟨M, hM⟩ : ∃ x, w6.heap.size = x := ⟨_, rfl⟩
            obtain ⟨wm, hwm⟩ : ∃ x, w6.alloc (.cells #[.int .i64 0, .int .i64 0, .string ⟨#[]⟩, .slice A6 0 c6, .slice B6 0 d6] 28) = x := ⟨_, rfl⟩
            have qm : Q w6 wm := by rw [← hwm]; exact Q.box _ _
            have bm : Bk M #[.int .i64 0, .int .i64 0, .string ⟨#[]⟩, .slice A6 0 c6, .slice B6 0 d6] 28 wm := by rw [← hwm, ← hM]; exact Bk.new _ _ _
            have bk6 := BK.out.stays (q6.trans qm)
            have cMM := Lib.hid (cM.out wm (some ⟨M, 0, none⟩) 1 (some ⟨K, 0, none⟩) 1 ⟨_, 1, rfl, Nat.le_refl _, fun _ => ⟨M, 0, rfl, by
              rw [VL_cons]
              exact ⟨⟨_, _, _, _, _, bm.at 0 _ rfl, bm.at 1 _ rfl, bm.at 2 _ rfl, bm.at 3 _ rfl, bm.at 4 _ rfl, Vi.of (v := vN) (Is.nil _ _ _) (Ks.nil _ _ _)⟩, VL_nil _ _ _⟩⟩⟩ ⟨_, 1, rfl, Nat.le_refl _, fun _ => ⟨K, 0, rfl, bk6.at 0 _ rfl, trivial⟩⟩)
            have QM := Lib.hid (QK.out.trans (q6.trans qm))
            clear q6 qm bm bk6 hmb5 hcv hK hwk
            go_wp2_with fail
            refine (cMM.out).mono ?_
            rintro e w7 ⟨Y3, y3, Y4, y4, rfl, hI7, hK7, q7⟩
            obtain ⟨U, hU⟩ : ∃ x, w7.heap.size = x := ⟨_, rfl⟩
            obtain ⟨wu, hwu⟩ : ∃ x, w7.alloc (.cells #[.int .i64 5, .int .i64 0, .string ⟨#[]⟩, .slice Y3 1 y3, .slice Y4 1 y4] 28) = x := ⟨_, rfl⟩
            have qu : Q w7 wu := by rw [← hwu]; exact Q.box _ _
            have bu : Bk U #[.int .i64 5, .int .i64 0, .string ⟨#[]⟩, .slice Y3 1 y3, .slice Y4 1 y4] 28 wu := by rw [← hwu, ← hU]; exact Bk.new _ _ _
            have QU := Lib.hid (QM.out.trans (q7.trans qu))
            have BU := Lib.hid bu
            have IU := Lib.hid (hI7.stays qu)
            have KU := Lib.hid (hK7.stays qu)
            clear hI7 hK7 q7 qu bu hM hwm
            go_wp2_with fail
            refine (cS.out _).mono ?_
            rintro e w8 ⟨A8, c8, B8, d8, rfl, q8⟩
            have Q8 := Lib.hid q8
            clear q8 hU hwu
            go_wp2_with fail
            refine (cT.out _ (QU.out.trans Q8.out) _ _ _ _).mono ?_
            rintro e w9 ⟨rfl, q9⟩
            have Q9 := Lib.hid (Q8.out.trans q9)
            have b9 := BU.out.stays Q9.out
            have v0 := b9.at 0 _ rfl
            have v1 := b9.at 1 _ rfl
            have v2 := b9.at 2 _ rfl
            have v3 := b9.at 3 _ rfl
            have v4 := b9.at 4 _ rfl
            clear q9 b9
            go_wp2_with fail
            refine (cU.out _ (QU.out.trans Q9.out) _ _ _ _ (IU.out.stays Q9.out) (KU.out.stays Q9.out)).mono ?_
            rintro e w10 ⟨rfl, q10⟩
            have Q10 := Lib.hid ((QU.out.trans Q9.out).trans q10)
            clear v0 v1 v2 v3 v4 q10
            go_wp2_with fail
            refine (cA.out _ Q10.out).mono ?_
            rintro e wz ⟨rfl, qz⟩
            go_wp2_with fail
            go_ret
            exact ⟨rfl, Q10.out.trans qz⟩
          · rw [if_pos h32] at cC
            rw [if_pos h40] at cD
            rw [if_neg hr4] at cT cU
            have j1 : decide ((32 : Int) < (p : Int)) = true := decide_eq_true (by omega)
            have j2 : decide ((4096 : Int) < (q : Int) + 1) = true := decide_eq_true (by omega)
            have j3 : decide ((4096 : Int) < (r : Int)) = false := decide_eq_false (by omega)
            clear h32 h40 hr4 hmb
            go_wp2_with fail
            refine (cC.out _ (Q.refl _)).mono ?_
            rintro e w3 ⟨rfl, q3⟩
            have Q3 := Lib.hid (QR.out.trans q3)
            clear x0 x1 x2 x3 x4 q3 cC
            have hmv3 := hmv w3
            obtain ⟨D, hD⟩ : ∃ x, w3.heap.size = x := ⟨_, rfl⟩
            obtain ⟨wd, hwd⟩ : ∃ x, w3.alloc (.cells (madeCells z5 (q * 5)) 28) = x := ⟨_, rfl⟩
            have qd : Q w3 wd := by rw [← hwd]; exact Q.box _ _
            have bd : Bk D (madeCells z5 (q * 5)) 28 wd := by rw [← hwd, ← hD]; exact Bk.new _ _ _
            have QD := Lib.hid (Q3.out.trans qd)
            have BD := Lib.hid bd
            rw [hD, hwd] at hmv3
            clear hmv qd bd hwd hD
            go_wp2_with fail
            refine (cQ.out _ QD.out _ BD.out).mono ?_
            rintro e w4 ⟨X3, x3, X4, x4, rfl, hI, q4⟩
            have Q4 := Lib.hid (QD.out.trans q4)
            have HI := Lib.hid hI
            clear hI q4 hmv3
            go_wp2_with fail
            refine (cD.out _ Q4.out _ _ _ _ HI.out).mono ?_
            rintro e w5 ⟨rfl, q5⟩
            have Q5 := Lib.hid (Q4.out.trans q5)
            clear q5
            have hmb5 := make_bytes r (by have := HB.out; omega) w5
            obtain ⟨G, hG⟩ : ∃ x, w5.heap.size = x := ⟨_, rfl⟩
            obtain ⟨wg, hwg⟩ : ∃ x, w5.alloc (.cells (madeCells #[.int .u8 0] r) 5) = x := ⟨_, rfl⟩
            have qg : Q w5 wg := by rw [← hwg]; exact Q.box _ _
            have bg : Bk G (madeCells #[.int .u8 0] r) 5 wg := by rw [← hwg, ← hG]; exact Bk.new _ _ _
            have QG := Lib.hid (Q5.out.trans qg)
            have hcv := cB.out wg G bg
            rw [hG, hwg] at hmb5
            obtain ⟨K, hK⟩ : ∃ x, wg.heap.size = x := ⟨_, rfl⟩
            obtain ⟨wk, hwk⟩ : ∃ x, wg.alloc (.cells #[.string S] 9) = x := ⟨_, rfl⟩
            have qk : Q wg wk := by rw [← hwk]; exact Q.box _ _
            have bk : Bk K #[.string S] 9 wk := by rw [← hwk, ← hK]; exact Bk.new _ _ _
            have QK := Lib.hid (QG.out.trans qk)
            have BK := Lib.hid bk
            clear qg bg hwg hG qk bk
            go_wp2_with fail
            refine (cNu.out _).mono ?_
            rintro e w6 ⟨A6, c6, B6, d6, rfl, q6⟩
            obtain ⟨M, hM⟩ : ∃ x, w6.heap.size = x := ⟨_, rfl⟩
            obtain ⟨wm, hwm⟩ : ∃ x, w6.alloc (.cells #[.int .i64 0, .int .i64 0, .string ⟨#[]⟩, .slice A6 0 c6, .slice B6 0 d6] 28) = x := ⟨_, rfl⟩
            have qm : Q w6 wm := by rw [← hwm]; exact Q.box _ _
            have bm : Bk M #[.int .i64 0, .int .i64 0, .string ⟨#[]⟩, .slice A6 0 c6, .slice B6 0 d6] 28 wm := by rw [← hwm, ← hM]; exact Bk.new _ _ _
            have bk6 := BK.out.stays (q6.trans qm)
            have cMM := Lib.hid (cM.out wm (some ⟨M, 0, none⟩) 1 (some ⟨K, 0, none⟩) 1 ⟨_, 1, rfl, Nat.le_refl _, fun _ => ⟨M, 0, rfl, by
              rw [VL_cons]
              exact ⟨⟨_, _, _, _, _, bm.at 0 _ rfl, bm.at 1 _ rfl, bm.at 2 _ rfl, bm.at 3 _ rfl, bm.at 4 _ rfl, Vi.of (v := vN) (Is.nil _ _ _) (Ks.nil _ _ _)⟩, VL_nil _ _ _⟩⟩⟩ ⟨_, 1, rfl, Nat.le_refl _, fun _ => ⟨K, 0, rfl, bk6.at 0 _ rfl, trivial⟩⟩)
            have QM := Lib.hid (QK.out.trans (q6.trans qm))
            clear q6 qm bm bk6 hmb5 hcv hK hwk
            go_wp2_with fail
            refine (cMM.out).mono ?_
            rintro e w7 ⟨Y3, y3, Y4, y4, rfl, hI7, hK7, q7⟩
            obtain ⟨U, hU⟩ : ∃ x, w7.heap.size = x := ⟨_, rfl⟩
            obtain ⟨wu, hwu⟩ : ∃ x, w7.alloc (.cells #[.int .i64 5, .int .i64 0, .string ⟨#[]⟩, .slice Y3 1 y3, .slice Y4 1 y4] 28) = x := ⟨_, rfl⟩
            have qu : Q w7 wu := by rw [← hwu]; exact Q.box _ _
            have bu : Bk U #[.int .i64 5, .int .i64 0, .string ⟨#[]⟩, .slice Y3 1 y3, .slice Y4 1 y4] 28 wu := by rw [← hwu, ← hU]; exact Bk.new _ _ _
            have QU := Lib.hid (QM.out.trans (q7.trans qu))
            have BU := Lib.hid bu
            have IU := Lib.hid (hI7.stays qu)
            have KU := Lib.hid (hK7.stays qu)
            clear hI7 hK7 q7 qu bu hM hwm
            go_wp2_with fail
            refine (cS.out _).mono ?_
            rintro e w8 ⟨A8, c8, B8, d8, rfl, q8⟩
            have Q8 := Lib.hid q8
            clear q8 hU hwu
            go_wp2_with fail
            refine (cT.out _ (QU.out.trans Q8.out) _ _ _ _).mono ?_
            rintro e w9 ⟨rfl, q9⟩
            have Q9 := Lib.hid (Q8.out.trans q9)
            have b9 := BU.out.stays Q9.out
            have v0 := b9.at 0 _ rfl
            have v1 := b9.at 1 _ rfl
            have v2 := b9.at 2 _ rfl
            have v3 := b9.at 3 _ rfl
            have v4 := b9.at 4 _ rfl
            clear q9 b9
            go_wp2_with fail
            refine (cU.out _ (QU.out.trans Q9.out) _ _ _ _ (IU.out.stays Q9.out) (KU.out.stays Q9.out)).mono ?_
            rintro e w10 ⟨rfl, q10⟩
            have Q10 := Lib.hid ((QU.out.trans Q9.out).trans q10)
            clear v0 v1 v2 v3 v4 q10
            go_wp2_with fail
            refine (cA.out _ Q10.out).mono ?_
            rintro e wz ⟨rfl, qz⟩
            go_wp2_with fail
            go_ret
            exact ⟨rfl, Q10.out.trans qz⟩
        · by_cases hr4 : 4096 < r
          · rw [if_pos h32] at cC
            rw [if_neg h40] at cD
            rw [if_pos hr4] at cT cU
            have j1 : decide ((32 : Int) < (p : Int)) = true := decide_eq_true (by omega)
            have j2 : decide ((4096 : Int) < (q : Int) + 1) = false := decide_eq_false (by omega)
            have j3 : decide ((4096 : Int) < (r : Int)) = true := decide_eq_true (by omega)
            clear h32 h40 hr4 hmb
            go_wp2_with fail
            refine (cC.out _ (Q.refl _)).mono ?_
            rintro e w3 ⟨rfl, q3⟩
            have Q3 := Lib.hid (QR.out.trans q3)
            clear x0 x1 x2 x3 x4 q3 cC
            have hmv3 := hmv w3
            obtain ⟨D, hD⟩ : ∃ x, w3.heap.size = x := ⟨_, rfl⟩
            obtain ⟨wd, hwd⟩ : ∃ x, w3.alloc (.cells (madeCells z5 (q * 5)) 28) = x := ⟨_, rfl⟩
            have qd : Q w3 wd := by rw [← hwd]; exact Q.box _ _
            have bd : Bk D (madeCells z5 (q * 5)) 28 wd := by rw [← hwd, ← hD]; exact Bk.new _ _ _
            have QD := Lib.hid (Q3.out.trans qd)
            have BD := Lib.hid bd
            rw [hD, hwd] at hmv3
            clear hmv qd bd hwd hD
            go_wp2_with fail
            refine (cQ.out _ QD.out _ BD.out).mono ?_
            rintro e w4 ⟨X3, x3, X4, x4, rfl, hI, q4⟩
            have Q4 := Lib.hid (QD.out.trans q4)
            have HI := Lib.hid hI
            clear hI q4 hmv3
            go_wp2_with fail
            refine (cD.out _ Q4.out _ _ _ _ HI.out).mono ?_
            rintro e w5 ⟨rfl, q5⟩
            have Q5 := Lib.hid (Q4.out.trans q5)
            clear q5
            have hmb5 := make_bytes r (by have := HB.out; omega) w5
            obtain ⟨G, hG⟩ : ∃ x, w5.heap.size = x := ⟨_, rfl⟩
            obtain ⟨wg, hwg⟩ : ∃ x, w5.alloc (.cells (madeCells #[.int .u8 0] r) 5) = x := ⟨_, rfl⟩
            have qg : Q w5 wg := by rw [← hwg]; exact Q.box _ _
            have bg : Bk G (madeCells #[.int .u8 0] r) 5 wg := by rw [← hwg, ← hG]; exact Bk.new _ _ _
            have QG := Lib.hid (Q5.out.trans qg)
            have hcv := cB.out wg G bg
            rw [hG, hwg] at hmb5
            obtain ⟨K, hK⟩ : ∃ x, wg.heap.size = x := ⟨_, rfl⟩
            obtain ⟨wk, hwk⟩ : ∃ x, wg.alloc (.cells #[.string S] 9) = x := ⟨_, rfl⟩
            have qk : Q wg wk := by rw [← hwk]; exact Q.box _ _
            have bk : Bk K #[.string S] 9 wk := by rw [← hwk, ← hK]; exact Bk.new _ _ _
            have QK := Lib.hid (QG.out.trans qk)
            have BK := Lib.hid bk
            clear qg bg hwg hG qk bk
            go_wp2_with fail
            refine (cNu.out _).mono ?_
            rintro e w6 ⟨A6, c6, B6, d6, rfl, q6⟩
            obtain ⟨M, hM⟩ : ∃ x, w6.heap.size = x := ⟨_, rfl⟩
            obtain ⟨wm, hwm⟩ : ∃ x, w6.alloc (.cells #[.int .i64 0, .int .i64 0, .string ⟨#[]⟩, .slice A6 0 c6, .slice B6 0 d6] 28) = x := ⟨_, rfl⟩
            have qm : Q w6 wm := by rw [← hwm]; exact Q.box _ _
            have bm : Bk M #[.int .i64 0, .int .i64 0, .string ⟨#[]⟩, .slice A6 0 c6, .slice B6 0 d6] 28 wm := by rw [← hwm, ← hM]; exact Bk.new _ _ _
            have bk6 := BK.out.stays (q6.trans qm)
            have cMM := Lib.hid (cM.out wm (some ⟨M, 0, none⟩) 1 (some ⟨K, 0, none⟩) 1 ⟨_, 1, rfl, Nat.le_refl _, fun _ => ⟨M, 0, rfl, by
              rw [VL_cons]
              exact ⟨⟨_, _, _, _, _, bm.at 0 _ rfl, bm.at 1 _ rfl, bm.at 2 _ rfl, bm.at 3 _ rfl, bm.at 4 _ rfl, Vi.of (v := vN) (Is.nil _ _ _) (Ks.nil _ _ _)⟩, VL_nil _ _ _⟩⟩⟩ ⟨_, 1, rfl, Nat.le_refl _, fun _ => ⟨K, 0, rfl, bk6.at 0 _ rfl, trivial⟩⟩)
            have QM := Lib.hid (QK.out.trans (q6.trans qm))
            clear q6 qm bm bk6 hmb5 hcv hK hwk
            go_wp2_with fail
            refine (cMM.out).mono ?_
            rintro e w7 ⟨Y3, y3, Y4, y4, rfl, hI7, hK7, q7⟩
            obtain ⟨U, hU⟩ : ∃ x, w7.heap.size = x := ⟨_, rfl⟩
            obtain ⟨wu, hwu⟩ : ∃ x, w7.alloc (.cells #[.int .i64 5, .int .i64 0, .string ⟨#[]⟩, .slice Y3 1 y3, .slice Y4 1 y4] 28) = x := ⟨_, rfl⟩
            have qu : Q w7 wu := by rw [← hwu]; exact Q.box _ _
            have bu : Bk U #[.int .i64 5, .int .i64 0, .string ⟨#[]⟩, .slice Y3 1 y3, .slice Y4 1 y4] 28 wu := by rw [← hwu, ← hU]; exact Bk.new _ _ _
            have QU := Lib.hid (QM.out.trans (q7.trans qu))
            have BU := Lib.hid bu
            have IU := Lib.hid (hI7.stays qu)
            have KU := Lib.hid (hK7.stays qu)
            clear hI7 hK7 q7 qu bu hM hwm
            go_wp2_with fail
            refine (cS.out _).mono ?_
            rintro e w8 ⟨A8, c8, B8, d8, rfl, q8⟩
            have Q8 := Lib.hid q8
            clear q8 hU hwu
            go_wp2_with fail
            refine (cT.out _ (QU.out.trans Q8.out) _ _ _ _).mono ?_
            rintro e w9 ⟨rfl, q9⟩
            have Q9 := Lib.hid (Q8.out.trans q9)
            have b9 := BU.out.stays Q9.out
            have v0 := b9.at 0 _ rfl
            have v1 := b9.at 1 _ rfl
            have v2 := b9.at 2 _ rfl
            have v3 := b9.at 3 _ rfl
            have v4 := b9.at 4 _ rfl
            clear q9 b9
            go_wp2_with fail
            refine (cU.out _ (QU.out.trans Q9.out) _ _ _ _ (IU.out.stays Q9.out) (KU.out.stays Q9.out)).mono ?_
            rintro e w10 ⟨rfl, q10⟩
            have Q10 := Lib.hid ((QU.out.trans Q9.out).trans q10)
            clear v0 v1 v2 v3 v4 q10
            go_wp2_with fail
            refine (cA.out _ Q10.out).mono ?_
            rintro e wz ⟨rfl, qz⟩
            go_wp2_with fail
            go_ret
            exact ⟨rfl, Q10.out.trans qz⟩
          · rw [if_pos h32] at cC
            rw [if_neg h40] at cD
            rw [if_neg hr4] at cT cU
            have j1 : decide ((32 : Int) < (p : Int)) = true := decide_eq_true (by omega)
            have j2 : decide ((4096 : Int) < (q : Int) + 1) = false := decide_eq_false (by omega)
            have j3 : decide ((4096 : Int) < (r : Int)) = false := decide_eq_false (by omega)
            clear h32 h40 hr4 hmb
            go_wp2_with fail
            refine (cC.out _ (Q.refl _)).mono ?_
            rintro e w3 ⟨rfl, q3⟩
            have Q3 := Lib.hid (QR.out.trans q3)
            clear x0 x1 x2 x3 x4 q3 cC
            have hmv3 := hmv w3
            obtain ⟨D, hD⟩ : ∃ x, w3.heap.size = x := ⟨_, rfl⟩
            obtain ⟨wd, hwd⟩ : ∃ x, w3.alloc (.cells (madeCells z5 (q * 5)) 28) = x := ⟨_, rfl⟩
            have qd : Q w3 wd := by rw [← hwd]; exact Q.box _ _
            have bd : Bk D (madeCells z5 (q * 5)) 28 wd := by rw [← hwd, ← hD]; exact Bk.new _ _ _
            have QD := Lib.hid (Q3.out.trans qd)
            have BD := Lib.hid bd
            rw [hD, hwd] at hmv3
            clear hmv qd bd hwd hD
            go_wp2_with fail
            refine (cQ.out _ QD.out _ BD.out).mono ?_
            rintro e w4 ⟨X3, x3, X4, x4, rfl, hI, q4⟩
            have Q4 := Lib.hid (QD.out.trans q4)
            have HI := Lib.hid hI
            clear hI q4 hmv3
            go_wp2_with fail
            refine (cD.out _ Q4.out _ _ _ _ HI.out).mono ?_
            rintro e w5 ⟨rfl, q5⟩
            have Q5 := Lib.hid (Q4.out.trans q5)
            clear q5
            have hmb5 := make_bytes r (by have := HB.out; omega) w5
            obtain ⟨G, hG⟩ : ∃ x, w5.heap.size = x := ⟨_, rfl⟩
            obtain ⟨wg, hwg⟩ : ∃ x, w5.alloc (.cells (madeCells #[.int .u8 0] r) 5) = x := ⟨_, rfl⟩
            have qg : Q w5 wg := by rw [← hwg]; exact Q.box _ _
            have bg : Bk G (madeCells #[.int .u8 0] r) 5 wg := by rw [← hwg, ← hG]; exact Bk.new _ _ _
            have QG := Lib.hid (Q5.out.trans qg)
            have hcv := cB.out wg G bg
            rw [hG, hwg] at hmb5
            obtain ⟨K, hK⟩ : ∃ x, wg.heap.size = x := ⟨_, rfl⟩
            obtain ⟨wk, hwk⟩ : ∃ x, wg.alloc (.cells #[.string S] 9) = x := ⟨_, rfl⟩
            have qk : Q wg wk := by rw [← hwk]; exact Q.box _ _
            have bk : Bk K #[.string S] 9 wk := by rw [← hwk, ← hK]; exact Bk.new _ _ _
            have QK := Lib.hid (QG.out.trans qk)
            have BK := Lib.hid bk
            clear qg bg hwg hG qk bk
            go_wp2_with fail
            refine (cNu.out _).mono ?_
            rintro e w6 ⟨A6, c6, B6, d6, rfl, q6⟩
            obtain ⟨M, hM⟩ : ∃ x, w6.heap.size = x := ⟨_, rfl⟩
            obtain ⟨wm, hwm⟩ : ∃ x, w6.alloc (.cells #[.int .i64 0, .int .i64 0, .string ⟨#[]⟩, .slice A6 0 c6, .slice B6 0 d6] 28) = x := ⟨_, rfl⟩
            have qm : Q w6 wm := by rw [← hwm]; exact Q.box _ _
            have bm : Bk M #[.int .i64 0, .int .i64 0, .string ⟨#[]⟩, .slice A6 0 c6, .slice B6 0 d6] 28 wm := by rw [← hwm, ← hM]; exact Bk.new _ _ _
            have bk6 := BK.out.stays (q6.trans qm)
            have cMM := Lib.hid (cM.out wm (some ⟨M, 0, none⟩) 1 (some ⟨K, 0, none⟩) 1 ⟨_, 1, rfl, Nat.le_refl _, fun _ => ⟨M, 0, rfl, by
              rw [VL_cons]
              exact ⟨⟨_, _, _, _, _, bm.at 0 _ rfl, bm.at 1 _ rfl, bm.at 2 _ rfl, bm.at 3 _ rfl, bm.at 4 _ rfl, Vi.of (v := vN) (Is.nil _ _ _) (Ks.nil _ _ _)⟩, VL_nil _ _ _⟩⟩⟩ ⟨_, 1, rfl, Nat.le_refl _, fun _ => ⟨K, 0, rfl, bk6.at 0 _ rfl, trivial⟩⟩)
            have QM := Lib.hid (QK.out.trans (q6.trans qm))
            clear q6 qm bm bk6 hmb5 hcv hK hwk
            go_wp2_with fail
            refine (cMM.out).mono ?_
            rintro e w7 ⟨Y3, y3, Y4, y4, rfl, hI7, hK7, q7⟩
            obtain ⟨U, hU⟩ : ∃ x, w7.heap.size = x := ⟨_, rfl⟩
            obtain ⟨wu, hwu⟩ : ∃ x, w7.alloc (.cells #[.int .i64 5, .int .i64 0, .string ⟨#[]⟩, .slice Y3 1 y3, .slice Y4 1 y4] 28) = x := ⟨_, rfl⟩
            have qu : Q w7 wu := by rw [← hwu]; exact Q.box _ _
            have bu : Bk U #[.int .i64 5, .int .i64 0, .string ⟨#[]⟩, .slice Y3 1 y3, .slice Y4 1 y4] 28 wu := by rw [← hwu, ← hU]; exact Bk.new _ _ _
            have QU := Lib.hid (QM.out.trans (q7.trans qu))
            have BU := Lib.hid bu
            have IU := Lib.hid (hI7.stays qu)
            have KU := Lib.hid (hK7.stays qu)
            clear hI7 hK7 q7 qu bu hM hwm
            go_wp2_with fail
            refine (cS.out _).mono ?_
            rintro e w8 ⟨A8, c8, B8, d8, rfl, q8⟩
            have Q8 := Lib.hid q8
            clear q8 hU hwu
            go_wp2_with fail
            refine (cT.out _ (QU.out.trans Q8.out) _ _ _ _).mono ?_
            rintro e w9 ⟨rfl, q9⟩
            have Q9 := Lib.hid (Q8.out.trans q9)
            have b9 := BU.out.stays Q9.out
            have v0 := b9.at 0 _ rfl
            have v1 := b9.at 1 _ rfl
            have v2 := b9.at 2 _ rfl
            have v3 := b9.at 3 _ rfl
            have v4 := b9.at 4 _ rfl
            clear q9 b9
            go_wp2_with fail
            refine (cU.out _ (QU.out.trans Q9.out) _ _ _ _ (IU.out.stays Q9.out) (KU.out.stays Q9.out)).mono ?_
            rintro e w10 ⟨rfl, q10⟩
            have Q10 := Lib.hid ((QU.out.trans Q9.out).trans q10)
            clear v0 v1 v2 v3 v4 q10
            go_wp2_with fail
            refine (cA.out _ Q10.out).mono ?_
            rintro e wz ⟨rfl, qz⟩
            go_wp2_with fail
            go_ret
            exact ⟨rfl, Q10.out.trans qz⟩
      · by_cases h40 : 4096 < q + 1
        · by_cases hr4 : 4096 < r
          · rw [if_neg h32] at cC
            rw [if_pos h40] at cD
            rw [if_pos hr4] at cT cU
            have j1 : decide ((32 : Int) < (p : Int)) = false := decide_eq_false (by omega)
            have j2 : decide ((4096 : Int) < (q : Int) + 1) = true := decide_eq_true (by omega)
            have j3 : decide ((4096 : Int) < (r : Int)) = true := decide_eq_true (by omega)
            clear h32 h40 hr4 hmb
            go_wp2_with fail
            refine (cC.out _ (Q.refl _)).mono ?_
            rintro e w3 ⟨rfl, q3⟩
            have Q3 := Lib.hid (QR.out.trans q3)
            clear x0 x1 x2 x3 x4 q3 cC
            have hmv3 := hmv w3
            obtain ⟨D, hD⟩ : ∃ x, w3.heap.size = x := ⟨_, rfl⟩
            obtain ⟨wd, hwd⟩ : ∃ x, w3.alloc (.cells (madeCells z5 (q * 5)) 28) = x := ⟨_, rfl⟩
            have qd : Q w3 wd := by rw [← hwd]; exact Q.box _ _
            have bd : Bk D (madeCells z5 (q * 5)) 28 wd := by rw [← hwd, ← hD]; exact Bk.new _ _ _
            have QD := Lib.hid (Q3.out.trans qd)
            have BD := Lib.hid bd
            rw [hD, hwd] at hmv3
            clear hmv qd bd hwd hD
            go_wp2_with fail
            refine (cQ.out _ QD.out _ BD.out).mono ?_
            rintro e w4 ⟨X3, x3, X4, x4, rfl, hI, q4⟩
            have Q4 := Lib.hid (QD.out.trans q4)
            have HI := Lib.hid hI
            clear hI q4 hmv3
            go_wp2_with fail
            refine (cD.out _ Q4.out _ _ _ _ HI.out).mono ?_
            rintro e w5 ⟨rfl, q5⟩
            have Q5 := Lib.hid (Q4.out.trans q5)
            clear q5
            have hmb5 := make_bytes r (by have := HB.out; omega) w5
            obtain ⟨G, hG⟩ : ∃ x, w5.heap.size = x := ⟨_, rfl⟩
            obtain ⟨wg, hwg⟩ : ∃ x, w5.alloc (.cells (madeCells #[.int .u8 0] r) 5) = x := ⟨_, rfl⟩
            have qg : Q w5 wg := by rw [← hwg]; exact Q.box _ _
            have bg : Bk G (madeCells #[.int .u8 0] r) 5 wg := by rw [← hwg, ← hG]; exact Bk.new _ _ _
            have QG := Lib.hid (Q5.out.trans qg)
            have hcv := cB.out wg G bg
            rw [hG, hwg] at hmb5
            obtain ⟨K, hK⟩ : ∃ x, wg.heap.size = x := ⟨_, rfl⟩
            obtain ⟨wk, hwk⟩ : ∃ x, wg.alloc (.cells #[.string S] 9) = x := ⟨_, rfl⟩
            have qk : Q wg wk := by rw [← hwk]; exact Q.box _ _
            have bk : Bk K #[.string S] 9 wk := by rw [← hwk, ← hK]; exact Bk.new _ _ _
            have QK := Lib.hid (QG.out.trans qk)
            have BK := Lib.hid bk
            clear qg bg hwg hG qk bk
            go_wp2_with fail
            refine (cNu.out _).mono ?_
            rintro e w6 ⟨A6, c6, B6, d6, rfl, q6⟩
            obtain ⟨M, hM⟩ : ∃ x, w6.heap.size = x := ⟨_, rfl⟩
            obtain ⟨wm, hwm⟩ : ∃ x, w6.alloc (.cells #[.int .i64 0, .int .i64 0, .string ⟨#[]⟩, .slice A6 0 c6, .slice B6 0 d6] 28) = x := ⟨_, rfl⟩
            have qm : Q w6 wm := by rw [← hwm]; exact Q.box _ _
            have bm : Bk M #[.int .i64 0, .int .i64 0, .string ⟨#[]⟩, .slice A6 0 c6, .slice B6 0 d6] 28 wm := by rw [← hwm, ← hM]; exact Bk.new _ _ _
            have bk6 := BK.out.stays (q6.trans qm)
            have cMM := Lib.hid (cM.out wm (some ⟨M, 0, none⟩) 1 (some ⟨K, 0, none⟩) 1 ⟨_, 1, rfl, Nat.le_refl _, fun _ => ⟨M, 0, rfl, by
              rw [VL_cons]
              exact ⟨⟨_, _, _, _, _, bm.at 0 _ rfl, bm.at 1 _ rfl, bm.at 2 _ rfl, bm.at 3 _ rfl, bm.at 4 _ rfl, Vi.of (v := vN) (Is.nil _ _ _) (Ks.nil _ _ _)⟩, VL_nil _ _ _⟩⟩⟩ ⟨_, 1, rfl, Nat.le_refl _, fun _ => ⟨K, 0, rfl, bk6.at 0 _ rfl, trivial⟩⟩)
            have QM := Lib.hid (QK.out.trans (q6.trans qm))
            clear q6 qm bm bk6 hmb5 hcv hK hwk
            go_wp2_with fail
            refine (cMM.out).mono ?_
            rintro e w7 ⟨Y3, y3, Y4, y4, rfl, hI7, hK7, q7⟩
            obtain ⟨U, hU⟩ : ∃ x, w7.heap.size = x := ⟨_, rfl⟩
            obtain ⟨wu, hwu⟩ : ∃ x, w7.alloc (.cells #[.int .i64 5, .int .i64 0, .string ⟨#[]⟩, .slice Y3 1 y3, .slice Y4 1 y4] 28) = x := ⟨_, rfl⟩
            have qu : Q w7 wu := by rw [← hwu]; exact Q.box _ _
            have bu : Bk U #[.int .i64 5, .int .i64 0, .string ⟨#[]⟩, .slice Y3 1 y3, .slice Y4 1 y4] 28 wu := by rw [← hwu, ← hU]; exact Bk.new _ _ _
            have QU := Lib.hid (QM.out.trans (q7.trans qu))
            have BU := Lib.hid bu
            have IU := Lib.hid (hI7.stays qu)
            have KU := Lib.hid (hK7.stays qu)
            clear hI7 hK7 q7 qu bu hM hwm
            go_wp2_with fail
            refine (cS.out _).mono ?_
            rintro e w8 ⟨A8, c8, B8, d8, rfl, q8⟩
            have Q8 := Lib.hid q8
            clear q8 hU hwu
            go_wp2_with fail
            refine (cT.out _ (QU.out.trans Q8.out) _ _ _ _).mono ?_
            rintro e w9 ⟨rfl, q9⟩
            have Q9 := Lib.hid (Q8.out.trans q9)
            have b9 := BU.out.stays Q9.out
            have v0 := b9.at 0 _ rfl
            have v1 := b9.at 1 _ rfl
            have v2 := b9.at 2 _ rfl
            have v3 := b9.at 3 _ rfl
            have v4 := b9.at 4 _ rfl
            clear q9 b9
            go_wp2_with fail
            refine (cU.out _ (QU.out.trans Q9.out) _ _ _ _ (IU.out.stays Q9.out) (KU.out.stays Q9.out)).mono ?_
            rintro e w10 ⟨rfl, q10⟩
            have Q10 := Lib.hid ((QU.out.trans Q9.out).trans q10)
            clear v0 v1 v2 v3 v4 q10
            go_wp2_with fail
            refine (cA.out _ Q10.out).mono ?_
            rintro e wz ⟨rfl, qz⟩
            go_wp2_with fail
            go_ret
            exact ⟨rfl, Q10.out.trans qz⟩
          · rw [if_neg h32] at cC
            rw [if_pos h40] at cD
            rw [if_neg hr4] at cT cU
            have j1 : decide ((32 : Int) < (p : Int)) = false := decide_eq_false (by omega)
            have j2 : decide ((4096 : Int) < (q : Int) + 1) = true := decide_eq_true (by omega)
            have j3 : decide ((4096 : Int) < (r : Int)) = false := decide_eq_false (by omega)
            clear h32 h40 hr4 hmb
            go_wp2_with fail
            refine (cC.out _ (Q.refl _)).mono ?_
            rintro e w3 ⟨rfl, q3⟩
            have Q3 := Lib.hid (QR.out.trans q3)
            clear x0 x1 x2 x3 x4 q3 cC
            have hmv3 := hmv w3
            obtain ⟨D, hD⟩ : ∃ x, w3.heap.size = x := ⟨_, rfl⟩
            obtain ⟨wd, hwd⟩ : ∃ x, w3.alloc (.cells (madeCells z5 (q * 5)) 28) = x := ⟨_, rfl⟩
            have qd : Q w3 wd := by rw [← hwd]; exact Q.box _ _
            have bd : Bk D (madeCells z5 (q * 5)) 28 wd := by rw [← hwd, ← hD]; exact Bk.new _ _ _
            have QD := Lib.hid (Q3.out.trans qd)
            have BD := Lib.hid bd
            rw [hD, hwd] at hmv3
            clear hmv qd bd hwd hD
            go_wp2_with fail
            refine (cQ.out _ QD.out _ BD.out).mono ?_
            rintro e w4 ⟨X3, x3, X4, x4, rfl, hI, q4⟩
            have Q4 := Lib.hid (QD.out.trans q4)
            have HI := Lib.hid hI
            clear hI q4 hmv3
            go_wp2_with fail
            refine (cD.out _ Q4.out _ _ _ _ HI.out).mono ?_
            rintro e w5 ⟨rfl, q5⟩
            have Q5 := Lib.hid (Q4.out.trans q5)
            clear q5
            have hmb5 := make_bytes r (by have := HB.out; omega) w5
            obtain ⟨G, hG⟩ : ∃ x, w5.heap.size = x := ⟨_, rfl⟩
            obtain ⟨wg, hwg⟩ : ∃ x, w5.alloc (.cells (madeCells #[.int .u8 0] r) 5) = x := ⟨_, rfl⟩
            have qg : Q w5 wg := by rw [← hwg]; exact Q.box _ _
            have bg : Bk G (madeCells #[.int .u8 0] r) 5 wg := by rw [← hwg, ← hG]; exact Bk.new _ _ _
            have QG := Lib.hid (Q5.out.trans qg)
            have hcv := cB.out wg G bg
            rw [hG, hwg] at hmb5
            obtain ⟨K, hK⟩ : ∃ x, wg.heap.size = x := ⟨_, rfl⟩
            obtain ⟨wk, hwk⟩ : ∃ x, wg.alloc (.cells #[.string S] 9) = x := ⟨_, rfl⟩
            have qk : Q wg wk := by rw [← hwk]; exact Q.box _ _
            have bk : Bk K #[.string S] 9 wk := by rw [← hwk, ← hK]; exact Bk.new _ _ _
            have QK := Lib.hid (QG.out.trans qk)
            have BK := Lib.hid bk
            clear qg bg hwg hG qk bk
            go_wp2_with fail
            refine (cNu.out _).mono ?_
            rintro e w6 ⟨A6, c6, B6, d6, rfl, q6⟩
            obtain ⟨M, hM⟩ : ∃ x, w6.heap.size = x := ⟨_, rfl⟩
            obtain ⟨wm, hwm⟩ : ∃ x, w6.alloc (.cells #[.int .i64 0, .int .i64 0, .string ⟨#[]⟩, .slice A6 0 c6, .slice B6 0 d6] 28) = x := ⟨_, rfl⟩
            have qm : Q w6 wm := by rw [← hwm]; exact Q.box _ _
            have bm : Bk M #[.int .i64 0, .int .i64 0, .string ⟨#[]⟩, .slice A6 0 c6, .slice B6 0 d6] 28 wm := by rw [← hwm, ← hM]; exact Bk.new _ _ _
            have bk6 := BK.out.stays (q6.trans qm)
            have cMM := Lib.hid (cM.out wm (some ⟨M, 0, none⟩) 1 (some ⟨K, 0, none⟩) 1 ⟨_, 1, rfl, Nat.le_refl _, fun _ => ⟨M, 0, rfl, by
              rw [VL_cons]
              exact ⟨⟨_, _, _, _, _, bm.at 0 _ rfl, bm.at 1 _ rfl, bm.at 2 _ rfl, bm.at 3 _ rfl, bm.at 4 _ rfl, Vi.of (v := vN) (Is.nil _ _ _) (Ks.nil _ _ _)⟩, VL_nil _ _ _⟩⟩⟩ ⟨_, 1, rfl, Nat.le_refl _, fun _ => ⟨K, 0, rfl, bk6.at 0 _ rfl, trivial⟩⟩)
            have QM := Lib.hid (QK.out.trans (q6.trans qm))
            clear q6 qm bm bk6 hmb5 hcv hK hwk
            go_wp2_with fail
            refine (cMM.out).mono ?_
            rintro e w7 ⟨Y3, y3, Y4, y4, rfl, hI7, hK7, q7⟩
            obtain ⟨U, hU⟩ : ∃ x, w7.heap.size = x := ⟨_, rfl⟩
            obtain ⟨wu, hwu⟩ : ∃ x, w7.alloc (.cells #[.int .i64 5, .int .i64 0, .string ⟨#[]⟩, .slice Y3 1 y3, .slice Y4 1 y4] 28) = x := ⟨_, rfl⟩
            have qu : Q w7 wu := by rw [← hwu]; exact Q.box _ _
            have bu : Bk U #[.int .i64 5, .int .i64 0, .string ⟨#[]⟩, .slice Y3 1 y3, .slice Y4 1 y4] 28 wu := by rw [← hwu, ← hU]; exact Bk.new _ _ _
            have QU := Lib.hid (QM.out.trans (q7.trans qu))
            have BU := Lib.hid bu
            have IU := Lib.hid (hI7.stays qu)
            have KU := Lib.hid (hK7.stays qu)
            clear hI7 hK7 q7 qu bu hM hwm
            go_wp2_with fail
            refine (cS.out _).mono ?_
            rintro e w8 ⟨A8, c8, B8, d8, rfl, q8⟩
            have Q8 := Lib.hid q8
            clear q8 hU hwu
            go_wp2_with fail
            refine (cT.out _ (QU.out.trans Q8.out) _ _ _ _).mono ?_
            rintro e w9 ⟨rfl, q9⟩
            have Q9 := Lib.hid (Q8.out.trans q9)
            have b9 := BU.out.stays Q9.out
            have v0 := b9.at 0 _ rfl
            have v1 := b9.at 1 _ rfl
            have v2 := b9.at 2 _ rfl
            have v3 := b9.at 3 _ rfl
            have v4 := b9.at 4 _ rfl
            clear q9 b9
            go_wp2_with fail
            refine (cU.out _ (QU.out.trans Q9.out) _ _ _ _ (IU.out.stays Q9.out) (KU.out.stays Q9.out)).mono ?_
            rintro e w10 ⟨rfl, q10⟩
            have Q10 := Lib.hid ((QU.out.trans Q9.out).trans q10)
            clear v0 v1 v2 v3 v4 q10
            go_wp2_with fail
            refine (cA.out _ Q10.out).mono ?_
            rintro e wz ⟨rfl, qz⟩
            go_wp2_with fail
            go_ret
            exact ⟨rfl, Q10.out.trans qz⟩
        · by_cases hr4 : 4096 < r
          · rw [if_neg h32] at cC
            rw [if_neg h40] at cD
            rw [if_pos hr4] at cT cU
            have j1 : decide ((32 : Int) < (p : Int)) = false := decide_eq_false (by omega)
            have j2 : decide ((4096 : Int) < (q : Int) + 1) = false := decide_eq_false (by omega)
            have j3 : decide ((4096 : Int) < (r : Int)) = true := decide_eq_true (by omega)
            clear h32 h40 hr4 hmb
            go_wp2_with fail
            refine (cC.out _ (Q.refl _)).mono ?_
            rintro e w3 ⟨rfl, q3⟩
            have Q3 := Lib.hid (QR.out.trans q3)
            clear x0 x1 x2 x3 x4 q3 cC
            have hmv3 := hmv w3
            obtain ⟨D, hD⟩ : ∃ x, w3.heap.size = x := ⟨_, rfl⟩
            obtain ⟨wd, hwd⟩ : ∃ x, w3.alloc (.cells (madeCells z5 (q * 5)) 28) = x := ⟨_, rfl⟩
            have qd : Q w3 wd := by rw [← hwd]; exact Q.box _ _
            have bd : Bk D (madeCells z5 (q * 5)) 28 wd := by rw [← hwd, ← hD]; exact Bk.new _ _ _
            have QD := Lib.hid (Q3.out.trans qd)
            have BD := Lib.hid bd
            rw [hD, hwd] at hmv3
            clear hmv qd bd hwd hD
            go_wp2_with fail
            refine (cQ.out _ QD.out _ BD.out).mono ?_
            rintro e w4 ⟨X3, x3, X4, x4, rfl, hI, q4⟩
            have Q4 := Lib.hid (QD.out.trans q4)
            have HI := Lib.hid hI
            clear hI q4 hmv3
            go_wp2_with fail
            refine (cD.out _ Q4.out _ _ _ _ HI.out).mono ?_
            rintro e w5 ⟨rfl, q5⟩
            have Q5 := Lib.hid (Q4.out.trans q5)
            clear q5
            have hmb5 := make_bytes r (by have := HB.out; omega) w5
            obtain ⟨G, hG⟩ : ∃ x, w5.heap.size = x := ⟨_, rfl⟩
            obtain ⟨wg, hwg⟩ : ∃ x, w5.alloc (.cells (madeCells #[.int .u8 0] r) 5) = x := ⟨_, rfl⟩
            have qg : Q w5 wg := by rw [← hwg]; exact Q.box _ _
            have bg : Bk G (madeCells #[.int .u8 0] r) 5 wg := by rw [← hwg, ← hG]; exact Bk.new _ _ _
            have QG := Lib.hid (Q5.out.trans qg)
            have hcv := cB.out wg G bg
            rw [hG, hwg] at hmb5
            obtain ⟨K, hK⟩ : ∃ x, wg.heap.size = x := ⟨_, rfl⟩
            obtain ⟨wk, hwk⟩ : ∃ x, wg.alloc (.cells #[.string S] 9) = x := ⟨_, rfl⟩
            have qk : Q wg wk := by rw [← hwk]; exact Q.box _ _
            have bk : Bk K #[.string S] 9 wk := by rw [← hwk, ← hK]; exact Bk.new _ _ _
            have QK := Lib.hid (QG.out.trans qk)
            have BK := Lib.hid bk
            clear qg bg hwg hG qk bk
            go_wp2_with fail
            refine (cNu.out _).mono ?_
            rintro e w6 ⟨A6, c6, B6, d6, rfl, q6⟩
            obtain ⟨M, hM⟩ : ∃ x, w6.heap.size = x := ⟨_, rfl⟩
            obtain ⟨wm, hwm⟩ : ∃ x, w6.alloc (.cells #[.int .i64 0, .int .i64 0, .string ⟨#[]⟩, .slice A6 0 c6, .slice B6 0 d6] 28) = x := ⟨_, rfl⟩
            have qm : Q w6 wm := by rw [← hwm]; exact Q.box _ _
            have bm : Bk M #[.int .i64 0, .int .i64 0, .string ⟨#[]⟩, .slice A6 0 c6, .slice B6 0 d6] 28 wm := by rw [← hwm, ← hM]; exact Bk.new _ _ _
            have bk6 := BK.out.stays (q6.trans qm)
            have cMM := Lib.hid (cM.out wm (some ⟨M, 0, none⟩) 1 (some ⟨K, 0, none⟩) 1 ⟨_, 1, rfl, Nat.le_refl _, fun _ => ⟨M, 0, rfl, by
              rw [VL_cons]
              exact ⟨⟨_, _, _, _, _, bm.at 0 _ rfl, bm.at 1 _ rfl, bm.at 2 _ rfl, bm.at 3 _ rfl, bm.at 4 _ rfl, Vi.of (v := vN) (Is.nil _ _ _) (Ks.nil _ _ _)⟩, VL_nil _ _ _⟩⟩⟩ ⟨_, 1, rfl, Nat.le_refl _, fun _ => ⟨K, 0, rfl, bk6.at 0 _ rfl, trivial⟩⟩)
            have QM := Lib.hid (QK.out.trans (q6.trans qm))
            clear q6 qm bm bk6 hmb5 hcv hK hwk
            go_wp2_with fail
            refine (cMM.out).mono ?_
            rintro e w7 ⟨Y3, y3, Y4, y4, rfl, hI7, hK7, q7⟩
            obtain ⟨U, hU⟩ : ∃ x, w7.heap.size = x := ⟨_, rfl⟩
            obtain ⟨wu, hwu⟩ : ∃ x, w7.alloc (.cells #[.int .i64 5, .int .i64 0, .string ⟨#[]⟩, .slice Y3 1 y3, .slice Y4 1 y4] 28) = x := ⟨_, rfl⟩
            have qu : Q w7 wu := by rw [← hwu]; exact Q.box _ _
            have bu : Bk U #[.int .i64 5, .int .i64 0, .string ⟨#[]⟩, .slice Y3 1 y3, .slice Y4 1 y4] 28 wu := by rw [← hwu, ← hU]; exact Bk.new _ _ _
            have QU := Lib.hid (QM.out.trans (q7.trans qu))
            have BU := Lib.hid bu
            have IU := Lib.hid (hI7.stays qu)
            have KU := Lib.hid (hK7.stays qu)
            clear hI7 hK7 q7 qu bu hM hwm
            go_wp2_with fail
            refine (cS.out _).mono ?_
            rintro e w8 ⟨A8, c8, B8, d8, rfl, q8⟩
            have Q8 := Lib.hid q8
            clear q8 hU hwu
            go_wp2_with fail
            refine (cT.out _ (QU.out.trans Q8.out) _ _ _ _).mono ?_
            rintro e w9 ⟨rfl, q9⟩
            have Q9 := Lib.hid (Q8.out.trans q9)
            have b9 := BU.out.stays Q9.out
            have v0 := b9.at 0 _ rfl
            have v1 := b9.at 1 _ rfl
            have v2 := b9.at 2 _ rfl
            have v3 := b9.at 3 _ rfl
            have v4 := b9.at 4 _ rfl
            clear q9 b9
            go_wp2_with fail
            refine (cU.out _ (QU.out.trans Q9.out) _ _ _ _ (IU.out.stays Q9.out) (KU.out.stays Q9.out)).mono ?_
            rintro e w10 ⟨rfl, q10⟩
            have Q10 := Lib.hid ((QU.out.trans Q9.out).trans q10)
            clear v0 v1 v2 v3 v4 q10
            go_wp2_with fail
            refine (cA.out _ Q10.out).mono ?_
            rintro e wz ⟨rfl, qz⟩
            go_wp2_with fail
            go_ret
            exact ⟨rfl, Q10.out.trans qz⟩
          · rw [if_neg h32] at cC
            rw [if_neg h40] at cD
            rw [if_neg hr4] at cT cU
            have j1 : decide ((32 : Int) < (p : Int)) = false := decide_eq_false (by omega)
            have j2 : decide ((4096 : Int) < (q : Int) + 1) = false := decide_eq_false (by omega)
            have j3 : decide ((4096 : Int) < (r : Int)) = false := decide_eq_false (by omega)
            clear h32 h40 hr4 hmb
            go_wp2_with fail
            refine (cC.out _ (Q.refl _)).mono ?_
            rintro e w3 ⟨rfl, q3⟩
            have Q3 := Lib.hid (QR.out.trans q3)
            clear x0 x1 x2 x3 x4 q3 cC
            have hmv3 := hmv w3
            obtain ⟨D, hD⟩ : ∃ x, w3.heap.size = x := ⟨_, rfl⟩
            obtain ⟨wd, hwd⟩ : ∃ x, w3.alloc (.cells (madeCells z5 (q * 5)) 28) = x := ⟨_, rfl⟩
            have qd : Q w3 wd := by rw [← hwd]; exact Q.box _ _
            have bd : Bk D (madeCells z5 (q * 5)) 28 wd := by rw [← hwd, ← hD]; exact Bk.new _ _ _
            have QD := Lib.hid (Q3.out.trans qd)
            have BD := Lib.hid bd
            rw [hD, hwd] at hmv3
            clear hmv qd bd hwd hD
            go_wp2_with fail
            refine (cQ.out _ QD.out _ BD.out).mono ?_
            rintro e w4 ⟨X3, x3, X4, x4, rfl, hI, q4⟩
            have Q4 := Lib.hid (QD.out.trans q4)
            have HI := Lib.hid hI
            clear hI q4 hmv3
            go_wp2_with fail
            refine (cD.out _ Q4.out _ _ _ _ HI.out).mono ?_
            rintro e w5 ⟨rfl, q5⟩
            have Q5 := Lib.hid (Q4.out.trans q5)
            clear q5
            have hmb5 := make_bytes r (by have := HB.out; omega) w5
            obtain ⟨G, hG⟩ : ∃ x, w5.heap.size = x := ⟨_, rfl⟩
            obtain ⟨wg, hwg⟩ : ∃ x, w5.alloc (.cells (madeCells #[.int .u8 0] r) 5) = x := ⟨_, rfl⟩
            have qg : Q w5 wg := by rw [← hwg]; exact Q.box _ _
            have bg : Bk G (madeCells #[.int .u8 0] r) 5 wg := by rw [← hwg, ← hG]; exact Bk.new _ _ _
            have QG := Lib.hid (Q5.out.trans qg)
            have hcv := cB.out wg G bg
            rw [hG, hwg] at hmb5
            obtain ⟨K, hK⟩ : ∃ x, wg.heap.size = x := ⟨_, rfl⟩
            obtain ⟨wk, hwk⟩ : ∃ x, wg.alloc (.cells #[.string S] 9) = x := ⟨_, rfl⟩
            have qk : Q wg wk := by rw [← hwk]; exact Q.box _ _
            have bk : Bk K #[.string S] 9 wk := by rw [← hwk, ← hK]; exact Bk.new _ _ _
            have QK := Lib.hid (QG.out.trans qk)
            have BK := Lib.hid bk
            clear qg bg hwg hG qk bk
            go_wp2_with fail
            refine (cNu.out _).mono ?_
            rintro e w6 ⟨A6, c6, B6, d6, rfl, q6⟩
            obtain ⟨M, hM⟩ : ∃ x, w6.heap.size = x := ⟨_, rfl⟩
            obtain ⟨wm, hwm⟩ : ∃ x, w6.alloc (.cells #[.int .i64 0, .int .i64 0, .string ⟨#[]⟩, .slice A6 0 c6, .slice B6 0 d6] 28) = x := ⟨_, rfl⟩
            have qm : Q w6 wm := by rw [← hwm]; exact Q.box _ _
            have bm : Bk M #[.int .i64 0, .int .i64 0, .string ⟨#[]⟩, .slice A6 0 c6, .slice B6 0 d6] 28 wm := by rw [← hwm, ← hM]; exact Bk.new _ _ _
            have bk6 := BK.out.stays (q6.trans qm)
            have cMM := Lib.hid (cM.out wm (some ⟨M, 0, none⟩) 1 (some ⟨K, 0, none⟩) 1 ⟨_, 1, rfl, Nat.le_refl _, fun _ => ⟨M, 0, rfl, by
              rw [VL_cons]
              exact ⟨⟨_, _, _, _, _, bm.at 0 _ rfl, bm.at 1 _ rfl, bm.at 2 _ rfl, bm.at 3 _ rfl, bm.at 4 _ rfl, Vi.of (v := vN) (Is.nil _ _ _) (Ks.nil _ _ _)⟩, VL_nil _ _ _⟩⟩⟩ ⟨_, 1, rfl, Nat.le_refl _, fun _ => ⟨K, 0, rfl, bk6.at 0 _ rfl, trivial⟩⟩)
            have QM := Lib.hid (QK.out.trans (q6.trans qm))
            clear q6 qm bm bk6 hmb5 hcv hK hwk
            go_wp2_with fail
            refine (cMM.out).mono ?_
            rintro e w7 ⟨Y3, y3, Y4, y4, rfl, hI7, hK7, q7⟩
            obtain ⟨U, hU⟩ : ∃ x, w7.heap.size = x := ⟨_, rfl⟩
            obtain ⟨wu, hwu⟩ : ∃ x, w7.alloc (.cells #[.int .i64 5, .int .i64 0, .string ⟨#[]⟩, .slice Y3 1 y3, .slice Y4 1 y4] 28) = x := ⟨_, rfl⟩
            have qu : Q w7 wu := by rw [← hwu]; exact Q.box _ _
            have bu : Bk U #[.int .i64 5, .int .i64 0, .string ⟨#[]⟩, .slice Y3 1 y3, .slice Y4 1 y4] 28 wu := by rw [← hwu, ← hU]; exact Bk.new _ _ _
            have QU := Lib.hid (QM.out.trans (q7.trans qu))
            have BU := Lib.hid bu
            have IU := Lib.hid (hI7.stays qu)
            have KU := Lib.hid (hK7.stays qu)
            clear hI7 hK7 q7 qu bu hM hwm
            go_wp2_with fail
            refine (cS.out _).mono ?_
            rintro e w8 ⟨A8, c8, B8, d8, rfl, q8⟩
            have Q8 := Lib.hid q8
            clear q8 hU hwu
            go_wp2_with fail
            refine (cT.out _ (QU.out.trans Q8.out) _ _ _ _).mono ?_
            rintro e w9 ⟨rfl, q9⟩
            have Q9 := Lib.hid (Q8.out.trans q9)
            have b9 := BU.out.stays Q9.out
            have v0 := b9.at 0 _ rfl
            have v1 := b9.at 1 _ rfl
            have v2 := b9.at 2 _ rfl
            have v3 := b9.at 3 _ rfl
            have v4 := b9.at 4 _ rfl
            clear q9 b9
            go_wp2_with fail
            refine (cU.out _ (QU.out.trans Q9.out) _ _ _ _ (IU.out.stays Q9.out) (KU.out.stays Q9.out)).mono ?_
            rintro e w10 ⟨rfl, q10⟩
            have Q10 := Lib.hid ((QU.out.trans Q9.out).trans q10)
            clear v0 v1 v2 v3 v4 q10
            go_wp2_with fail
            refine (cA.out _ Q10.out).mono ?_
            rintro e wz ⟨rfl, qz⟩
            go_wp2_with fail
            go_ret
            exact ⟨rfl, Q10.out.trans qz⟩

end Go.Proofs.YtjmchjphdfbhiaaDoor.val
