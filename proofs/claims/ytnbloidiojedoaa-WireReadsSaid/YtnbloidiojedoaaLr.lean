/- The law WireReads returns true for every input. -/
import Derived.Test.YtnbloidiojedoaaLq
import Derived.Test.YtnbloidiojedoaaWs
namespace Go.Proofs.Ytnbloidiojedoaa.wir
open Go.RowKit

/-- What the loop knows. -/
def Both (p q : Nat) (s : ByteArray) (e : Int) (w0 w : World) : Prop := Rd p s e true w ∧ Xd q s e w ∧ Q w0 w ∧ s.size ≤ 400

theorem Both.later {p q : Nat} {s : ByteArray} {e : Int} {w0 w w' : World} (h : Both p q s e w0 w) (k : Q w w') : Both p q s e w0 w' := ⟨h.1.stays k, h.2.1.stays k, h.2.2.1.trans k, h.2.2.2⟩

theorem Both.drew {p q : Nat} {s : ByteArray} {e : Int} {w0 w : World} (h : Both p q s e w0 w) : Both p q s e w0 w.drew := ⟨h.1, h.2.1, h.2.2.1.drew, h.2.2.2⟩
theorem Both.sees {p q : Nat} {s : ByteArray} {e : Int} {w0 w : World} (h : Both p q s e w0 w) : w.cell? ⟨q, 0, none⟩ = some (.string s) ∧ w.cell? ⟨q, 1, none⟩ = some (.int .i64 e) ∧ Hid (Both p q s e w0 w) := ⟨h.2.1.c0, h.2.1.c1, h⟩

theorem Both.next {q : Nat} {s S : ByteArray} {e E : Int} {w wr w1 w4 : World} (h : Both w.heap.size q s e w wr) (hq : w.heap.size < q) (q1 : Q wr w1) (a : After w.heap.size S E (w1.alloc (.cells #[.string S, .int .i64 E] 31)) w4) (hS : S.size ≤ s.size) :
    Xd w1.heap.size S E w4 ∧ Xd q s e w4 ∧ Both w.heap.size q S E w ((w4.setCell ⟨q, 0, none⟩ (.string S)).setCell ⟨q, 1, none⟩ (.int .i64 E)) := by
  have qa : Q w1 (w1.alloc (.cells #[.string S, .int .i64 E] 31)) := Below.alloc (Below.refl _ _) (Nat.le_refl _) _
  have x : Xd q s e w4 := ((h.2.1.stays q1).stays qa).beside a.2 (by omega)
  have hlt := (h.1.stays q1).lt
  have hm : M q w4 ((w4.setCell ⟨q, 0, none⟩ (.string S)).setCell ⟨q, 1, none⟩ (.int .i64 E)) := (M.setCell q w4 0 _).trans (M.setCell q _ 1 _)
  exact ⟨(Xd.new S E w1).beside a.2 (by omega), x, a.1.beside hm (by omega), x.put S E, ((((h.2.2.1.trans q1).trans qa).thenM a.2 (Nat.le_refl _)).thenM hm (by omega)), by have := h.2.2.2; omega⟩

theorem Both.next2 {q : Nat} {s S : ByteArray} {e E : Int} {w wr w1 w4 : World} (h : Both w.heap.size q s e w wr) (hq : w.heap.size < q) (q1 : Q wr w1) (hx : Xd wr.heap.size ⟨#[]⟩ 0 w1) (a : After w.heap.size S E ((w1.setCell ⟨wr.heap.size, 0, none⟩ (.string S)).setCell ⟨wr.heap.size, 1, none⟩ (.int .i64 E)) w4) (hS : S.size ≤ s.size) :
    Xd wr.heap.size S E w4 ∧ Xd q s e w4 ∧ Both w.heap.size q S E w ((w4.setCell ⟨q, 0, none⟩ (.string S)).setCell ⟨q, 1, none⟩ (.int .i64 E)) := by
  have qa : Q wr ((w1.setCell ⟨wr.heap.size, 0, none⟩ (.string S)).setCell ⟨wr.heap.size, 1, none⟩ (.int .i64 E)) := q1.put _ (Nat.le_refl _) S E
  have x : Xd q s e w4 := (h.2.1.stays qa).beside a.2 (by omega)
  have hlt := h.1.lt
  have hm : M q w4 ((w4.setCell ⟨q, 0, none⟩ (.string S)).setCell ⟨q, 1, none⟩ (.int .i64 E)) := (M.setCell q w4 0 _).trans (M.setCell q _ 1 _)
  exact ⟨(hx.put S E).beside a.2 (by omega), x, a.1.beside hm (by omega), x.put S E, (((h.2.2.1.trans qa).thenM a.2 (Nat.le_refl _)).thenM hm (by omega)), by have := h.2.2.2; omega⟩
theorem cell_before {w : World} {a : Addr} {v : Value} (o : Obj) (h : w.cell? a = some v) : (w.alloc o).cell? a = some v := by
  have hlt : a.block < w.heap.size := by
    rcases Nat.lt_or_ge a.block w.heap.size with h' | h'
    · exact h'
    · unfold World.cell? at h
      rw [Array.getElem?_eq_none h'] at h
      cases h
  rw [Below.cell (Below.alloc (Below.refl w.heap.size w) (Nat.le_refl _) o) hlt]
  exact h
theorem cnt_sees {w w' : World} {a b c : Addr} {u v x : Value} (h1 : w.cell? a = some u) (h2 : w.cell? b = some v) (h3 : w.cell? c = some x) (q : Q w w') : w'.cell? a = some u ∧ w'.cell? b = some v ∧ w'.cell? c = some x ∧ Hid (Q w w') := by
  have lt : ∀ {a : Addr} {u : Value}, w.cell? a = some u → a.block < w.heap.size := fun {a u} h => by
    rcases Nat.lt_or_ge a.block w.heap.size with h' | h'
    · exact h'
    · unfold World.cell? at h
      rw [Array.getElem?_eq_none h'] at h
      cases h
  exact ⟨(Below.cell q (lt h1)).trans h1, (Below.cell q (lt h2)).trans h2, (Below.cell q (lt h3)).trans h3, q⟩
theorem Xd.early {w w1 : World} {s : ByteArray} {e : Int} (q : Q (w.alloc (.cells #[.string s, .int .i64 e] 31)).drew w1) : Xd w.heap.size s e w1 := Xd.stays (w := (w.alloc (.cells #[.string s, .int .i64 e] 31)).drew) (Xd.new s e w) q

set_option maxRecDepth 100000 in
set_option maxHeartbeats 8000000 in
theorem reads_some (s : ByteArray) (A : Option Addr) (n c : Nat) (w : World) (hs : s.size ≤ 400) (hn : n ≤ 60) (hA : ActArg A n w) :
    Calls Try.prog 4 #[.string s, .slice A n c] w fun e w' => e = .returned (.bool true) ∧ Q w w' := by
  have z1 : ¬ (400 : Int) < (s.size : Int) := by omega
  have z2 : ¬ (60 : Int) < (n : Int) := by omega
  have HA := Lib.hid hA
  have HS := Lib.hid hs
  clear hA hs
  go_enter Try.func4, Try.ntmps4
  go_wp2_with fail
  refine (newReader_any _ _).mono ?_; rintro e w1 ⟨rfl, r1, q1⟩
  have H1 := Lib.hid (And.intro r1 q1)
  clear r1 q1
  unfold ptr
  go_wp2_with fail
  refine (rnew_any _ _).mono ?_; rintro e w2 ⟨rfl, q2⟩
  have H2 := Lib.hid (And.intro (H1.out.1.stays q2) (H1.out.2.trans q2))
  clear q2 H1
  unfold xv
  obtain ⟨q, hq⟩ : ∃ q, w2.heap.size = q := ⟨_, rfl⟩
  go_wp2_with fail
  have hpq : w.heap.size < w2.heap.size := H2.out.1.lt
  have H3 : Hid (Both w.heap.size w2.heap.size s 0 w (w2.alloc (.cells #[.string s, .int .i64 0] 31))) :=
    ⟨H2.out.1.stays (Below.alloc (Below.refl _ _) (Nat.le_refl _) _), Xd.new s 0 w2, H2.out.2.trans (Below.alloc (Below.refl _ _) (Nat.le_refl _) _), HS.out⟩
  rw [hq] at hpq H3
  clear hq H2
  generalize w2.alloc (.cells #[.string s, .int .i64 0] 31) = w3 at *
  go_loopw [7] (fun i wr => ∃ (k : Nat) (s' : ByteArray) (e' : Int), k ≤ n ∧ i = .int .i64 k ∧ Hid (Both w.heap.size q s' e' w wr)) (fun i _ => n - (intOf i).toNat)
  case atStart => exact ⟨0, s, 0, Nat.zero_le _, rfl, H3.out⟩
  case round =>
    obtain ⟨k, s', e', hk, rfl, HB⟩ := hrel
    by_cases hlt : k < n
    · obtain ⟨b, o, K, N, rfl, hA⟩ := HA.out (by omega)
      obtain ⟨a0, a1, a2⟩ := (hA.later HB.out.2.2.1).2 k hlt
      clear hA
      have hkz : (k : Int) < (n : Int) := by omega
      have hk60 : (k : Int) ≤ 60 := by omega
      have hnext : Hid (∀ (S : ByteArray) (E : Int) (w1 w4 : World), Q wr w1 → After w.heap.size S E (w1.alloc (.cells #[.string S, .int .i64 E] 31)) w4 → S.size ≤ s'.size → Xd w1.heap.size S E w4 ∧ Xd q s' e' w4 ∧ Both w.heap.size q S E w ((w4.setCell ⟨q, 0, none⟩ (.string S)).setCell ⟨q, 1, none⟩ (.int .i64 E))) := fun S E w1 w4 q1 a hS => HB.out.next hpq q1 a hS
      have hnext2 : Hid (∀ (S : ByteArray) (E : Int) (w1 w4 : World), Q wr w1 → Xd wr.heap.size ⟨#[]⟩ 0 w1 → After w.heap.size S E ((w1.setCell ⟨wr.heap.size, 0, none⟩ (.string S)).setCell ⟨wr.heap.size, 1, none⟩ (.int .i64 E)) w4 → S.size ≤ s'.size → Xd wr.heap.size S E w4 ∧ Xd q s' e' w4 ∧ Both w.heap.size q S E w ((w4.setCell ⟨q, 0, none⟩ (.string S)).setCell ⟨q, 1, none⟩ (.int .i64 E))) := fun S E w1 w4 q1 hx a hS => HB.out.next2 hpq q1 hx a hS
      obtain ⟨P, hP⟩ : ∃ P, w.heap.size = P := ⟨_, rfl⟩
      rw [hP] at HB hpq hnext hnext2 ⊢
      clear hP H3 HA
      have x0 := HB.out.2.1.c0
      have x1 := HB.out.2.1.c1
      have hs4 := HB.out.2.2.2
      by_cases k0 : K k = 0
      · have k0' := beq_yes k0
        clear k0
        have hsz := nxN_size s' e'
        have cX0 : Hid (∀ wx, Calls Try.prog 17 #[xv s' e'] wx fun r w' => r = .returned (.tuple #[xv (nxN s' e').2.1 (nxN s' e').2.2, .int .i64 (nxN s' e').1]) ∧ Q wx w') := fun wx => rnumber_any s' e' wx
        have cY0 : Hid (∀ wx, Rd P s' e' true wx → Calls Try.prog 18 #[ptr P] wx fun r w' => r = .returned (.int .i64 (nxN s' e').1) ∧ Hid (After P (nxN s' e').2.1 (nxN s' e').2.2 wx w')) := fun wx h => number_any P s' e' wx h (by omega)
        generalize nxN s' e' = t at *
        obtain ⟨v, S, E⟩ := t
        dsimp only at *
        have hn := Lib.hid (fun w1 w4 q1 a => hnext.out S E w1 w4 q1 a hsz)
        clear hnext hnext2 hsz hk hlt hs4
        unfold ptr xv at *
        go_wp2_with fail
        refine (cX0.out _).mono ?_; rintro r w1 ⟨rfl, q1⟩
        have hp1 := Lib.hid ((HB.out.1.stays q1).stays (Below.alloc (Below.refl w1.heap.size w1) (Nat.le_refl _) (.cells #[.string S, .int .i64 E] 31)))
        have HQ1 := Lib.hid q1
        clear q1
        go_wp2_with fail
        refine (cY0.out _ hp1.out).mono ?_; rintro r w4 ⟨rfl, h4⟩
        obtain ⟨n1, n2, n3⟩ := hn.out w1 w4 HQ1.out h4.out
        have m0 := n1.c0
        have m1 := n1.c1
        have p0 := n2.c0
        have p1 := n2.c1
        have z3 := n2.frozen 0
        have z4 := n2.frozen 1
        have HN := Lib.hid n3
        clear n1 n2 n3 hn HQ1 hp1 h4 HB x0 x1 cX0 cY0
        go_wp2_with fail
        have cL : Hid (∀ wx, Both P q S E w wx → Calls Try.prog 23 #[ptr P] wx fun r w' => r = .returned (.int .i64 (S.size : Int)) ∧ Hid (Both P q S E w w')) := fun wx h => (left_any P S E true wx h.1).mono fun r w' ⟨h1, h2⟩ => ⟨h1, by rw [← h2]; exact h⟩
        have cR : Hid (∀ wx, Both P q S E w wx → Calls Try.prog 25 #[ptr P] wx fun r w' => r = .returned (.int .i64 E) ∧ Hid (Both P q S E w w')) := fun wx h => (err_any P S E wx h.1).mono fun r w' ⟨h1, h2⟩ => ⟨h1, by rw [← h2]; exact h⟩
        have cM : Hid (∀ wx, Both P q S E w wx → Calls Try.prog 24 #[xv S E] wx fun r w' => r = .returned (.int .i64 (S.size : Int)) ∧ Hid (Both P q S E w w')) := fun wx h => (rleft_any S E wx).mono fun r w' ⟨h1, h2⟩ => ⟨h1, h.later h2⟩
        have cF : Hid (∀ wx, Both P q S E w wx → Calls Try.prog 26 #[xv S E] wx fun r w' => r = .returned (.int .i64 E) ∧ Hid (Both P q S E w w')) := fun wx h => (rerr_any S E wx).mono fun r w' ⟨h1, h2⟩ => ⟨h1, h.later h2⟩
        have HD := Lib.hid HN.out.drew
        have y0 := HN.out.2.1.c0
        have y1 := HN.out.2.1.c1
        unfold ptr xv at *
        go_region_held3 (fun w' => w'.cell? ⟨q, 0, none⟩ = some (.string S) ∧ w'.cell? ⟨q, 1, none⟩ = some (.int .i64 E) ∧ Hid (Both P q S E w w')) ((refine Both.sees ?_; exact Hid.out (by assumption)))
          (first | (go_at_call 23; refine (cL.out _ (Hid.out (And.right (And.right ‹_›)))).mono ?_; rintro r w5 ⟨rfl, h5⟩) | (go_at_call 25; refine (cR.out _ (Hid.out (And.right (And.right ‹_›)))).mono ?_; rintro r w5 ⟨rfl, h5⟩) | (go_at_call 24; refine (cM.out _ (Hid.out (And.right (And.right ‹_›)))).mono ?_; rintro r w5 ⟨rfl, h5⟩) | (go_at_call 26; refine (cF.out _ (Hid.out (And.right (And.right ‹_›)))).mono ?_; rintro r w5 ⟨rfl, h5⟩))
        clear HN HD y0 y1
        go_wp2_with fail
        go_roundw
        case rel => exact ⟨k + 1, S, E, by omega, by go_num, h5⟩
        case measure => simp [intOf]; omega
      · have k0' := beq_no k0
        clear k0
        by_cases k1 : K k = 1
        · have k1' := beq_yes k1
          clear k1
          have hsz := nxS_size s' e'
          have cX0 : Hid (∀ wx, Calls Try.prog 19 #[xv s' e'] wx fun r w' => r = .returned (.tuple #[xv (nxS s' e').2.1 (nxS s' e').2.2, .string (nxS s' e').1]) ∧ Q wx w') := fun wx => rstring_any s' e' wx (by omega)
          have cY0 : Hid (∀ wx, Rd P s' e' true wx → Calls Try.prog 20 #[ptr P] wx fun r w' => r = .returned (.string (nxS s' e').1) ∧ Hid (After P (nxS s' e').2.1 (nxS s' e').2.2 wx w')) := fun wx h => string_any P s' e' wx h (by omega)
          generalize nxS s' e' = t at *
          obtain ⟨v, S, E⟩ := t
          dsimp only at *
          have hn := Lib.hid (fun w1 w4 q1 a => hnext.out S E w1 w4 q1 a hsz)
          clear hnext hnext2 hsz hk hlt hs4
          unfold ptr xv at *
          go_wp2_with fail
          refine (cX0.out _).mono ?_; rintro r w1 ⟨rfl, q1⟩
          have hp1 := Lib.hid ((HB.out.1.stays q1).stays (Below.alloc (Below.refl w1.heap.size w1) (Nat.le_refl _) (.cells #[.string S, .int .i64 E] 31)))
          have HQ1 := Lib.hid q1
          clear q1
          go_wp2_with fail
          refine (cY0.out _ hp1.out).mono ?_; rintro r w4 ⟨rfl, h4⟩
          obtain ⟨n1, n2, n3⟩ := hn.out w1 w4 HQ1.out h4.out
          have m0 := n1.c0
          have m1 := n1.c1
          have p0 := n2.c0
          have p1 := n2.c1
          have z3 := n2.frozen 0
          have z4 := n2.frozen 1
          have HN := Lib.hid n3
          clear n1 n2 n3 hn HQ1 hp1 h4 HB x0 x1 cX0 cY0
          go_wp2_with fail
          have cL : Hid (∀ wx, Both P q S E w wx → Calls Try.prog 23 #[ptr P] wx fun r w' => r = .returned (.int .i64 (S.size : Int)) ∧ Hid (Both P q S E w w')) := fun wx h => (left_any P S E true wx h.1).mono fun r w' ⟨h1, h2⟩ => ⟨h1, by rw [← h2]; exact h⟩
          have cR : Hid (∀ wx, Both P q S E w wx → Calls Try.prog 25 #[ptr P] wx fun r w' => r = .returned (.int .i64 E) ∧ Hid (Both P q S E w w')) := fun wx h => (err_any P S E wx h.1).mono fun r w' ⟨h1, h2⟩ => ⟨h1, by rw [← h2]; exact h⟩
          have cM : Hid (∀ wx, Both P q S E w wx → Calls Try.prog 24 #[xv S E] wx fun r w' => r = .returned (.int .i64 (S.size : Int)) ∧ Hid (Both P q S E w w')) := fun wx h => (rleft_any S E wx).mono fun r w' ⟨h1, h2⟩ => ⟨h1, h.later h2⟩
          have cF : Hid (∀ wx, Both P q S E w wx → Calls Try.prog 26 #[xv S E] wx fun r w' => r = .returned (.int .i64 E) ∧ Hid (Both P q S E w w')) := fun wx h => (rerr_any S E wx).mono fun r w' ⟨h1, h2⟩ => ⟨h1, h.later h2⟩
          have HD := Lib.hid HN.out.drew
          have y0 := HN.out.2.1.c0
          have y1 := HN.out.2.1.c1
          unfold ptr xv at *
          go_region_held3 (fun w' => w'.cell? ⟨q, 0, none⟩ = some (.string S) ∧ w'.cell? ⟨q, 1, none⟩ = some (.int .i64 E) ∧ Hid (Both P q S E w w')) ((refine Both.sees ?_; exact Hid.out (by assumption)))
            (first | (go_at_call 23; refine (cL.out _ (Hid.out (And.right (And.right ‹_›)))).mono ?_; rintro r w5 ⟨rfl, h5⟩) | (go_at_call 25; refine (cR.out _ (Hid.out (And.right (And.right ‹_›)))).mono ?_; rintro r w5 ⟨rfl, h5⟩) | (go_at_call 24; refine (cM.out _ (Hid.out (And.right (And.right ‹_›)))).mono ?_; rintro r w5 ⟨rfl, h5⟩) | (go_at_call 26; refine (cF.out _ (Hid.out (And.right (And.right ‹_›)))).mono ?_; rintro r w5 ⟨rfl, h5⟩))
          clear HN HD y0 y1
          go_wp2_with fail
          go_roundw
          case rel => exact ⟨k + 1, S, E, by omega, by go_num, h5⟩
          case measure => simp [intOf]; omega
        · have k1' := beq_no k1
          clear k1
          by_cases k2 : K k = 2
          · have k2' := beq_yes k2
            clear k2
            have hsz := nxC_size s' e' (N k)
            have cX0 : Hid (∀ wx, Calls Try.prog 21 #[xv s' e', .int .i64 (N k)] wx fun r w' => r = .returned (.tuple #[xv (nxC s' e' (N k)).2.1 (nxC s' e' (N k)).2.2, .int .i64 (nxC s' e' (N k)).1]) ∧ Q wx w') := fun wx => rcount_any s' e' (N k) wx (by omega) a2
            have cY0 : Hid (∀ wx, Rd P s' e' true wx → Calls Try.prog 22 #[ptr P, .int .i64 (N k)] wx fun r w' => r = .returned (.int .i64 (nxC s' e' (N k)).1) ∧ Hid (After P (nxC s' e' (N k)).2.1 (nxC s' e' (N k)).2.2 wx w')) := fun wx h => count_any P s' e' (N k) wx h (by omega) a2
            generalize nxC s' e' (N k) = t at *
            obtain ⟨v, S, E⟩ := t
            dsimp only at *
            skip
            clear hk hlt hs4
            unfold ptr xv at *
            have k1 := Lib.hid (Q.refl wr).drew
            have k2 := Lib.hid (Below.alloc (Q.refl wr) (Nat.le_refl _) (.cells #[.string ⟨#[]⟩, .int .i64 0] 31)).drew
            have k3 : Hid (∀ w1, Q wr w1 → Q wr ((w1.setCell ⟨wr.heap.size, 0, none⟩ (.string S)).setCell ⟨wr.heap.size, 1, none⟩ (.int .i64 E))) := fun w1 h => h.put _ (Nat.le_refl _) S E
            have k4 : Hid (∀ w1 o, Q wr w1 → Q wr (w1.alloc o)) := fun w1 o h => Below.alloc h h.size o
            have hpA : Hid (∀ w1, Q wr w1 → Rd P s' e' true (w1.alloc (.cells #[.string S, .int .i64 E] 31))) := fun w1 h => (HB.out.1.stays h).stays (Below.alloc (Below.refl w1.heap.size w1) (Nat.le_refl _) _)
            have hpB : Hid (∀ w1, Q wr w1 → Rd P s' e' true ((w1.setCell ⟨wr.heap.size, 0, none⟩ (.string S)).setCell ⟨wr.heap.size, 1, none⟩ (.int .i64 E))) := fun w1 h => HB.out.1.stays (h.put _ (Nat.le_refl _) S E)
            have hbA : Hid (∀ w1, Q wr w1 → (w1.alloc (.cells #[.string S, .int .i64 E] 31)).cell? ⟨b, o + k * 2 + 1, none⟩ = some (.int .i64 (N k))) := fun w1 h => (cnt_sees a1 a1 a1 (k4.out _ _ h)).1
            have hbB : Hid (∀ w1, Q wr w1 → ((w1.setCell ⟨wr.heap.size, 0, none⟩ (.string S)).setCell ⟨wr.heap.size, 1, none⟩ (.int .i64 E)).cell? ⟨b, o + k * 2 + 1, none⟩ = some (.int .i64 (N k))) := fun w1 h => (cnt_sees a1 a1 a1 (k3.out _ h)).1
            have hnA : Hid (∀ w1, Q wr w1 → ∀ w4, After P S E (w1.alloc (.cells #[.string S, .int .i64 E] 31)) w4 → Xd w1.heap.size S E w4 ∧ Xd q s' e' w4 ∧ Both P q S E w ((w4.setCell ⟨q, 0, none⟩ (.string S)).setCell ⟨q, 1, none⟩ (.int .i64 E))) := fun w1 h w4 a => hnext.out S E w1 w4 h a hsz
            have hnB : Hid (∀ w1, Q wr w1 → Xd wr.heap.size ⟨#[]⟩ 0 w1 → ∀ w4, After P S E ((w1.setCell ⟨wr.heap.size, 0, none⟩ (.string S)).setCell ⟨wr.heap.size, 1, none⟩ (.int .i64 E)) w4 → Xd wr.heap.size S E w4 ∧ Xd q s' e' w4 ∧ Both P q S E w ((w4.setCell ⟨q, 0, none⟩ (.string S)).setCell ⟨q, 1, none⟩ (.int .i64 E))) := fun w1 h hx w4 a => hnext2.out S E w1 w4 h hx a hsz
            clear hnext hnext2 hsz
            go_wp2_with fail
            go_region_held3 (fun w' => w'.cell? ⟨q, 0, none⟩ = some (.string s') ∧ w'.cell? ⟨q, 1, none⟩ = some (.int .i64 e') ∧ w'.cell? ⟨b, o + k * 2 + 1, none⟩ = some (.int .i64 (N k)) ∧ Hid (Q wr w')) ((refine cnt_sees x0 x1 a1 ?_; first | exact k1.out | exact k2.out | (refine Hid.out ?_; assumption) | (refine k3.out _ (Hid.out ?_); assumption) | (refine k4.out _ _ (Hid.out ?_); assumption)))
              (first | (go_at_call 21; refine (cX0.out _).mono ?_; rintro r w1 ⟨rfl, q1⟩; (first | (have u := Xd.early q1; have u0 := u.c0; have u1 := u.c1; have u2 := u.frozen 0; have u3 := u.frozen 1; clear u) | skip); (first | (have hq := Lib.hid (Q.trans k1.out q1)) | (have hq := Lib.hid (Q.trans k2.out q1)))))
            · have hp1 := Lib.hid (hpA.out w1 hq.out)
              have hb1 := hbA.out w1 hq.out
              have hn1 := Lib.hid (hnA.out w1 hq.out)
              clear hnA hpA hq q1
              go_wp2_with fail
              refine (cY0.out _ hp1.out).mono ?_; rintro r w4 ⟨rfl, h4⟩
              obtain ⟨n1, n2, n3⟩ := hn1.out w4 h4.out
              have m0 := n1.c0
              have m1 := n1.c1
              have p0 := n2.c0
              have p1 := n2.c1
              have z3 := n2.frozen 0
              have z4 := n2.frozen 1
              have HN := Lib.hid n3
              clear n1 n2 n3 hn1 hp1 h4 HB hb1 x0 x1 cX0 cY0
              go_wp2_with fail
              have cL : Hid (∀ wx, Both P q S E w wx → Calls Try.prog 23 #[ptr P] wx fun r w' => r = .returned (.int .i64 (S.size : Int)) ∧ Hid (Both P q S E w w')) := fun wx h => (left_any P S E true wx h.1).mono fun r w' ⟨h1, h2⟩ => ⟨h1, by rw [← h2]; exact h⟩
              have cR : Hid (∀ wx, Both P q S E w wx → Calls Try.prog 25 #[ptr P] wx fun r w' => r = .returned (.int .i64 E) ∧ Hid (Both P q S E w w')) := fun wx h => (err_any P S E wx h.1).mono fun r w' ⟨h1, h2⟩ => ⟨h1, by rw [← h2]; exact h⟩
              have cM : Hid (∀ wx, Both P q S E w wx → Calls Try.prog 24 #[xv S E] wx fun r w' => r = .returned (.int .i64 (S.size : Int)) ∧ Hid (Both P q S E w w')) := fun wx h => (rleft_any S E wx).mono fun r w' ⟨h1, h2⟩ => ⟨h1, h.later h2⟩
              have cF : Hid (∀ wx, Both P q S E w wx → Calls Try.prog 26 #[xv S E] wx fun r w' => r = .returned (.int .i64 E) ∧ Hid (Both P q S E w w')) := fun wx h => (rerr_any S E wx).mono fun r w' ⟨h1, h2⟩ => ⟨h1, h.later h2⟩
              have HD := Lib.hid HN.out.drew
              have y0 := HN.out.2.1.c0
              have y1 := HN.out.2.1.c1
              unfold ptr xv at *
              go_region_held3 (fun w' => w'.cell? ⟨q, 0, none⟩ = some (.string S) ∧ w'.cell? ⟨q, 1, none⟩ = some (.int .i64 E) ∧ Hid (Both P q S E w w')) ((refine Both.sees ?_; exact Hid.out (by assumption)))
                (first | (go_at_call 23; refine (cL.out _ (Hid.out (And.right (And.right ‹_›)))).mono ?_; rintro r w5 ⟨rfl, h5⟩) | (go_at_call 25; refine (cR.out _ (Hid.out (And.right (And.right ‹_›)))).mono ?_; rintro r w5 ⟨rfl, h5⟩) | (go_at_call 24; refine (cM.out _ (Hid.out (And.right (And.right ‹_›)))).mono ?_; rintro r w5 ⟨rfl, h5⟩) | (go_at_call 26; refine (cF.out _ (Hid.out (And.right (And.right ‹_›)))).mono ?_; rintro r w5 ⟨rfl, h5⟩))
              clear HN HD y0 y1
              go_wp2_with fail
              go_roundw
              case rel => exact ⟨k + 1, S, E, by omega, by go_num, h5⟩
              case measure => simp [intOf]; omega
            · have hp1 := Lib.hid (hpB.out w1 hq.out)
              have hb1 := hbB.out w1 hq.out
              have hn1 := Lib.hid (hnB.out w1 hq.out (Xd.early q1))
              clear hnB hpB hq q1
              go_wp2_with fail
              refine (cY0.out _ hp1.out).mono ?_; rintro r w4 ⟨rfl, h4⟩
              obtain ⟨n1, n2, n3⟩ := hn1.out w4 h4.out
              have m0 := n1.c0
              have m1 := n1.c1
              have p0 := n2.c0
              have p1 := n2.c1
              have z3 := n2.frozen 0
              have z4 := n2.frozen 1
              have HN := Lib.hid n3
              clear n1 n2 n3 hn1 hp1 h4 HB hb1 x0 x1 cX0 cY0
              go_wp2_with fail
              have cL : Hid (∀ wx, Both P q S E w wx → Calls Try.prog 23 #[ptr P] wx fun r w' => r = .returned (.int .i64 (S.size : Int)) ∧ Hid (Both P q S E w w')) := fun wx h => (left_any P S E true wx h.1).mono fun r w' ⟨h1, h2⟩ => ⟨h1, by rw [← h2]; exact h⟩
              have cR : Hid (∀ wx, Both P q S E w wx → Calls Try.prog 25 #[ptr P] wx fun r w' => r = .returned (.int .i64 E) ∧ Hid (Both P q S E w w')) := fun wx h => (err_any P S E wx h.1).mono fun r w' ⟨h1, h2⟩ => ⟨h1, by rw [← h2]; exact h⟩
              have cM : Hid (∀ wx, Both P q S E w wx → Calls Try.prog 24 #[xv S E] wx fun r w' => r = .returned (.int .i64 (S.size : Int)) ∧ Hid (Both P q S E w w')) := fun wx h => (rleft_any S E wx).mono fun r w' ⟨h1, h2⟩ => ⟨h1, h.later h2⟩
              have cF : Hid (∀ wx, Both P q S E w wx → Calls Try.prog 26 #[xv S E] wx fun r w' => r = .returned (.int .i64 E) ∧ Hid (Both P q S E w w')) := fun wx h => (rerr_any S E wx).mono fun r w' ⟨h1, h2⟩ => ⟨h1, h.later h2⟩
              have HD := Lib.hid HN.out.drew
              have y0 := HN.out.2.1.c0
              have y1 := HN.out.2.1.c1
              unfold ptr xv at *
              go_region_held3 (fun w' => w'.cell? ⟨q, 0, none⟩ = some (.string S) ∧ w'.cell? ⟨q, 1, none⟩ = some (.int .i64 E) ∧ Hid (Both P q S E w w')) ((refine Both.sees ?_; exact Hid.out (by assumption)))
                (first | (go_at_call 23; refine (cL.out _ (Hid.out (And.right (And.right ‹_›)))).mono ?_; rintro r w5 ⟨rfl, h5⟩) | (go_at_call 25; refine (cR.out _ (Hid.out (And.right (And.right ‹_›)))).mono ?_; rintro r w5 ⟨rfl, h5⟩) | (go_at_call 24; refine (cM.out _ (Hid.out (And.right (And.right ‹_›)))).mono ?_; rintro r w5 ⟨rfl, h5⟩) | (go_at_call 26; refine (cF.out _ (Hid.out (And.right (And.right ‹_›)))).mono ?_; rintro r w5 ⟨rfl, h5⟩))
              clear HN HD y0 y1
              go_wp2_with fail
              go_roundw
              case rel => exact ⟨k + 1, S, E, by omega, by go_num, h5⟩
              case measure => simp [intOf]; omega
          · have k2' := beq_no k2
            clear hnext hnext2 k2 hk hlt hs4 x0 x1
            go_wp2_with fail
            have cL : Hid (∀ wx, Both P q s' e' w wx → Calls Try.prog 23 #[ptr P] wx fun r w' => r = .returned (.int .i64 (s'.size : Int)) ∧ Hid (Both P q s' e' w w')) := fun wx h => (left_any P s' e' true wx h.1).mono fun r w' ⟨h1, h2⟩ => ⟨h1, by rw [← h2]; exact h⟩
            have cR : Hid (∀ wx, Both P q s' e' w wx → Calls Try.prog 25 #[ptr P] wx fun r w' => r = .returned (.int .i64 e') ∧ Hid (Both P q s' e' w w')) := fun wx h => (err_any P s' e' wx h.1).mono fun r w' ⟨h1, h2⟩ => ⟨h1, by rw [← h2]; exact h⟩
            have cM : Hid (∀ wx, Both P q s' e' w wx → Calls Try.prog 24 #[xv s' e'] wx fun r w' => r = .returned (.int .i64 (s'.size : Int)) ∧ Hid (Both P q s' e' w w')) := fun wx h => (rleft_any s' e' wx).mono fun r w' ⟨h1, h2⟩ => ⟨h1, h.later h2⟩
            have cF : Hid (∀ wx, Both P q s' e' w wx → Calls Try.prog 26 #[xv s' e'] wx fun r w' => r = .returned (.int .i64 e') ∧ Hid (Both P q s' e' w w')) := fun wx h => (rerr_any s' e' wx).mono fun r w' ⟨h1, h2⟩ => ⟨h1, h.later h2⟩
            have HD := Lib.hid HB.out.drew
            have y0 := HB.out.2.1.c0
            have y1 := HB.out.2.1.c1
            unfold ptr xv at *
            go_region_held3 (fun w' => w'.cell? ⟨q, 0, none⟩ = some (.string s') ∧ w'.cell? ⟨q, 1, none⟩ = some (.int .i64 e') ∧ Hid (Both P q s' e' w w')) ((refine Both.sees ?_; exact Hid.out (by assumption)))
              (first | (go_at_call 23; refine (cL.out _ (Hid.out (And.right (And.right ‹_›)))).mono ?_; rintro r w5 ⟨rfl, h5⟩) | (go_at_call 25; refine (cR.out _ (Hid.out (And.right (And.right ‹_›)))).mono ?_; rintro r w5 ⟨rfl, h5⟩) | (go_at_call 24; refine (cM.out _ (Hid.out (And.right (And.right ‹_›)))).mono ?_; rintro r w5 ⟨rfl, h5⟩) | (go_at_call 26; refine (cF.out _ (Hid.out (And.right (And.right ‹_›)))).mono ?_; rintro r w5 ⟨rfl, h5⟩))
            clear HB HD y0 y1
            go_wp2_with fail
            go_roundw
            case rel => exact ⟨k + 1, s', e', by omega, by go_num, h5⟩
            case measure => simp [intOf]; omega
    · obtain rfl : k = n := by omega
      have HQ := Lib.hid HB.out.2.2.1
      clear HA HB H3 hk
      go_wp2_with fail
      refine (awake_true _).mono ?_; rintro e w5 ⟨rfl, q5⟩
      go_wp2_with fail
      go_ret
      exact ⟨rfl, HQ.out.trans q5⟩

theorem reads_any (s : ByteArray) (A : Option Addr) (n c : Nat) (w : World) (hs : s.size ≤ maxLen) (hn : n ≤ maxLen) (hA : ActArg A n w) :
    Calls Try.prog 4 #[.string s, .slice A n c] w fun e w' => e = .returned (.bool true) ∧ Q w w' := by
  unfold maxLen at hs hn
  by_cases h : 400 < s.size
  · have z1 : (400 : Int) < (s.size : Int) := by omega
    clear h hA
    go_enter Try.func4, Try.ntmps4
    go_wp2_with fail
    refine (awake_true _).mono ?_; rintro e w1 ⟨rfl, q1⟩
    go_wp2_with fail
    go_ret
    exact ⟨rfl, q1⟩
  · by_cases h2 : 60 < n
    · have z1 : ¬ (400 : Int) < (s.size : Int) := by omega
      have z2 : (60 : Int) < (n : Int) := by omega
      clear h h2 hA
      go_enter Try.func4, Try.ntmps4
      go_wp2_with fail
      refine (awake_true _).mono ?_; rintro e w1 ⟨rfl, q1⟩
      go_wp2_with fail
      go_ret
      exact ⟨rfl, q1⟩
    · exact reads_some s A n c w (by omega) (by omega) hA

end Go.Proofs.Ytnbloidiojedoaa.wir
