/- The law GlobSplits. -/
import Derived.Test.YthknlllaclgekaaGf
namespace Go.Proofs.Ythknlllaclgekaa.glo
open Go.RowKit

/-- A part that is a group. -/
def grpP (all : Bool) : Part := if all = true then .star2 else .star
theorem mb_group_next (all : Bool) (ps : List Part) (c : UInt8) (t : List UInt8) : mb (grpP all :: ps) (c :: t) = (mb ps (c :: t) || ((all || c != 46) && mb (grpP all :: ps) t)) := by
  cases all with
  | true =>
    show (ends true (c :: t)).any (mb ps) = (mb ps (c :: t) || ((true || c != 46) && (ends true t).any (mb ps)))
    rfl
  | false =>
    show (ends false (c :: t)).any (mb ps) = (mb ps (c :: t) || ((false || c != 46) && (ends false t).any (mb ps)))
    have e : ends false (c :: t) = (c :: t) :: (if (false || c != 46) = true then ends false t else []) := rfl
    rw [e, List.any_cons]
    cases h : (false || c != 46) with
    | true => rw [if_pos rfl, Bool.true_and]
    | false => rw [if_neg (by simp), Bool.false_and]; rfl
theorem mb_group_end (all : Bool) (ps : List Part) : mb (grpP all :: ps) [] = mb ps [] := by
  cases all with
  | true => show (ends true []).any (mb ps) = _; unfold ends; simp
  | false => show (ends false []).any (mb ps) = _; unfold ends; simp

/-- What the loop of splits knows. -/
def Spl (R : ByteArray) (all : Bool) (s : ByteArray) (ANS : Bool) (k : Nat) : Prop := mb (grpP all :: parts R.data.toList) (s.data.toList.drop k) = ANS
theorem Spl.yes {R s : ByteArray} {all ANS : Bool} {k : Nat} (h : Spl R all s ANS k) (hk : k ≤ s.size) (hm : mb (parts R.data.toList) (s.extract k s.size).data.toList = true) : ANS = true := by
  unfold Spl at h
  rw [ext_list] at hm
  rw [← h]
  rcases Nat.lt_or_ge k s.size with hlt | hge
  · rw [drop_at s k hlt] at hm ⊢
    rw [mb_group_next, hm, Bool.true_or]
  · obtain rfl : k = s.size := by omega
    rw [drop_end] at hm ⊢
    rw [mb_group_end, hm]
theorem Spl.next {R s : ByteArray} {all ANS : Bool} {k : Nat} (h : Spl R all s ANS k) (hk : k < s.size) (hm : mb (parts R.data.toList) (s.extract k s.size).data.toList = false) (hg : all = true ∨ s[k].toNat ≠ 46) : Spl R all s ANS (k + 1) := by
  unfold Spl at h ⊢
  rw [ext_list] at hm
  rw [drop_at s k hk] at hm h
  rw [mb_group_next, hm, Bool.false_or] at h
  rw [← h]
  have : (all || s[k] != 46) = true := by
    rcases hg with hg | hg
    · rw [hg, Bool.true_or]
    · rw [Bool.or_eq_true, bne_iff_ne]
      exact .inr fun x => hg (by rw [x]; rfl)
  rw [this, Bool.true_and]
theorem Spl.dot {R s : ByteArray} {ANS : Bool} {k : Nat} (h : Spl R false s ANS k) (hk : k < s.size) (hm : mb (parts R.data.toList) (s.extract k s.size).data.toList = false) (hg : s[k].toNat = 46) : ANS = false := by
  unfold Spl at h
  rw [ext_list] at hm
  rw [drop_at s k hk] at hm h
  have : (false || s[k] != 46) = false := by
    rw [Bool.false_or, bne_eq_false_iff_eq]
    exact UInt8.toNat_inj.1 hg
  rw [mb_group_next, hm, this] at h
  exact h.symm
theorem Spl.last {R s : ByteArray} {all ANS : Bool} (h : Spl R all s ANS s.size) (hm : mb (parts R.data.toList) (s.extract s.size s.size).data.toList = false) : ANS = false := by
  unfold Spl at h
  rw [ext_list, drop_end] at hm
  rw [drop_end, mb_group_end, hm] at h
  exact h.symm

/-- What is known at the beginning of a round. -/
def Lap (R : ByteArray) (all : Bool) (s : ByteArray) (ANS : Bool) (k : Nat) : Prop := (k ≤ s.size → Spl R all s ANS k) ∧ (k = s.size + 1 → ANS = false)
theorem Lap.start {R s : ByteArray} {all ANS : Bool} (h : Spl R all s ANS 0) : Lap R all s ANS 0 := ⟨fun _ => h, fun e => by omega⟩

/-- What splits returns. -/
def SplC (p s : ByteArray) (w : World) : Prop :=
  Calls Try.prog 18 #[.string p, .string s] w fun e w' => e = .returned (.bool (mb (parts p.data.toList) s.data.toList)) ∧ ∃ n, w' = w.drewN n

set_option maxRecDepth 100000 in
set_option maxHeartbeats 4000000 in
theorem splits_any (n : Nat) : ∀ (p s : ByteArray) (w : World), p.size ≤ n → n ≤ 1000 → s.size ≤ 1000 → SplC p s w := by
  induction n with
  | zero =>
    intro p s w hp _ hs
    have h0 : p.size = 0 := by omega
    have fp : p.toList.isEmpty = true := by rw [empty_iff]; exact decide_eq_true h0
    have hA : Hid (mb (parts p.data.toList) s.data.toList = s.toList.isEmpty) := by
      have h : mb (parts p.data.toList) s.data.toList = s.toList.isEmpty := by
        rw [(nil_iff p).2 h0, Lib.toList_data]
        rfl
      exact h
    clear h0 hp
    unfold SplC
    generalize mb (parts p.data.toList) s.data.toList = ANS at *
    go_enter Try.func18, Try.ntmps18
    go_wp2_with fail
    go_ret
    exact ⟨by rw [hA.out]; rfl, 0, rfl⟩
  | succ n ih =>
    intro p s w hp hn hs
    have IH : Hid (∀ (p s : ByteArray) (w : World), p.size ≤ n → s.size ≤ 1000 → SplC p s w) := fun p s w h1 h2 => ih p s w h1 (by omega) h2
    clear ih
    by_cases h0 : p.size = 0
    · have fp : p.toList.isEmpty = true := by rw [empty_iff]; exact decide_eq_true h0
      have hA : Hid (mb (parts p.data.toList) s.data.toList = s.toList.isEmpty) := by
        have h : mb (parts p.data.toList) s.data.toList = s.toList.isEmpty := by
          rw [(nil_iff p).2 h0, Lib.toList_data]
          rfl
        exact h
      clear h0 hp IH
      unfold SplC
      generalize mb (parts p.data.toList) s.data.toList = ANS at *
      go_enter Try.func18, Try.ntmps18
      go_wp2_with fail
      go_ret
      exact ⟨by rw [hA.out]; rfl, 0, rfl⟩
    · have h1 : 0 < p.size := by omega
      have fp : p.toList.isEmpty = false := by rw [empty_iff]; exact decide_eq_false h0
      have f1 : (0 : Int) < (p.size : Int) := by omega
      have f2 : (1 : Int) ≤ (p.size : Int) := by omega
      by_cases hc : p[0].toNat = 42
      · -- a group
        have f3 : ((p[0].toNat : Int) != 42) = false := by rw [bne_eq_false_iff_eq]; omega
        have hs1 : (p.extract 1 p.size).size = p.size - 1 := ext_size _ _
        by_cases h2 : ∃ h : 1 < p.size, p[1].toNat = 42
        · obtain ⟨h2, hc2⟩ := h2
          -- two asterisks
          obtain ⟨P1, hP1⟩ : ∃ P1, p.extract 1 p.size = P1 := ⟨_, rfl⟩
          obtain ⟨P2, hP2⟩ : ∃ P2, P1.extract 1 P1.size = P2 := ⟨_, rfl⟩
          have hz1 : P1.size = p.size - 1 := by rw [← hP1]; exact hs1
          have hz2 : P2.size = P1.size - 1 := by rw [← hP2]; exact ext_size _ _
          have k0 : 0 < P1.size := by omega
          have hb1 : P1[0].toNat = 42 := by
            have e1 := cons_of p h1
            have e2 := cons_of P1 k0
            rw [hP1] at e1
            have e3 := drop_at p 1 h2
            have e4 : p.data.toList.drop 1 = P1.data.toList := by rw [← hP1, ext_list]
            rw [e4, e2] at e3
            simp only [List.cons.injEq] at e3
            rw [e3.1]
            exact hc2
          have hl : p.data.toList = 42 :: 42 :: P2.data.toList := by
            rw [cons_of p h1, hP1, cons_of P1 k0, hP2, byte42.2 hc, byte42.2 hb1]
          have g1 : P1.toList.isEmpty = false := by rw [empty_iff]; exact decide_eq_false (by omega)
          have g2 : (0 : Int) < (P1.size : Int) := by omega
          have g3 : (1 : Int) ≤ (P1.size : Int) := by omega
          have g4 : ((P1[0].toNat : Int) == 42) = true := by rw [beq_iff_eq]; omega
          have HS : Hid (Spl P2 true s (mb (parts p.data.toList) s.data.toList) 0) := by
            have h : Spl P2 true s (mb (parts p.data.toList) s.data.toList) 0 := by
              unfold Spl
              rw [hl, parts_two, List.drop_zero]
              rfl
            exact h
          have cR : Hid (∀ s w, s.size ≤ 1000 → SplC P2 s w) := fun s w h => IH.out P2 s w (by omega) h
          clear IH hl hb1 hc hc2 hs1 h0 hz1 hz2
          unfold SplC at *
          generalize mb (parts p.data.toList) s.data.toList = ANS at *
          go_enter Try.func18, Try.ntmps18
          go_wp2_with fail
          go_loopw [7] (fun i wr => ∃ k : Nat, k ≤ s.size + 1 ∧ i = .int .i64 k ∧ Hid (Lap P2 true s ANS k ∧ ∃ m, wr = w.drewN m)) (fun i _ => s.size + 1 - (intOf i).toNat)
          case atStart => exact ⟨0, Nat.zero_le _, rfl, Lap.start HS.out, 0, rfl⟩
          case round =>
            obtain ⟨k, hk, rfl, HG⟩ := hrel
            clear HS
            by_cases hle : k ≤ s.size
            · have q1 : (k : Int) ≤ (s.size : Int) := by omega
              obtain ⟨D, hD⟩ : ∃ D, s.extract k s.size = D := ⟨_, rfl⟩
              have cD := Lib.hid (cR.out D wr (by rw [← hD, ext_size]; omega))
              have hy : Hid (mb (parts P2.data.toList) D.data.toList = true → ANS = true) := fun h => by
                rw [← hD] at h
                exact (HG.out.1.1 hle).yes hle h
              have hn : Hid (mb (parts P2.data.toList) D.data.toList = false → (∀ h : k < s.size,  Lap P2 true s ANS (k + 1)) ∧ (k = s.size → Lap P2 true s ANS (k + 1))) := by
                refine fun hm => by
                  rw [← hD] at hm
                  exact ⟨fun h => ⟨fun _ => (HG.out.1.1 hle).next h hm (.inl rfl), fun e => by omega⟩, fun e => by
                    subst e
                    exact ⟨fun h => by omega, fun _ => (HG.out.1.1 hle).last hm⟩⟩
              generalize mb (parts P2.data.toList) D.data.toList = B at *
              cases B with
              | true =>
                have hA := Lib.hid (hy.out rfl)
                clear hy hn cR
                go_wp2_with fail
                refine (cD.out).mono ?_; rintro e w1 ⟨rfl, m1, rfl⟩
                go_wp2_with fail
                go_ret
                obtain ⟨m, hm⟩ := HG.out.2
                exact ⟨by rw [hA.out]; rfl, m + m1, by rw [hm, World.drewN_drewN]⟩
              | false =>
                have hn := Lib.hid (hn.out rfl)
                clear hy cR
                by_cases hlt : k < s.size
                · have q2 : (k : Int) < (s.size : Int) := by omega
                  by_cases hc : s[k].toNat = 46
                  · have q3 : ((s[k].toNat : Int) == 46) = true := by rw [beq_iff_eq]; omega
                    have HN := Lib.hid (hn.out.1 hlt)
                    clear hn hc
                    go_wp2_with fail
                    refine (cD.out).mono ?_; rintro e w1 ⟨rfl, m1, rfl⟩
                    go_wp2_with fail
                    go_roundw
                    case rel => exact ⟨k + 1, by omega, by go_num, HN.out, HG.out.2.elim fun m hm => ⟨m + m1, by rw [hm, World.drewN_drewN]⟩⟩
                    case measure => simp [intOf]; omega
                  · have q3 : ((s[k].toNat : Int) == 46) = false := by rw [beq_eq_false_iff_ne]; omega
                    have HN := Lib.hid (hn.out.1 hlt)
                    clear hn hc
                    go_wp2_with fail
                    refine (cD.out).mono ?_; rintro e w1 ⟨rfl, m1, rfl⟩
                    go_wp2_with fail
                    go_roundw
                    case rel => exact ⟨k + 1, by omega, by go_num, HN.out, HG.out.2.elim fun m hm => ⟨m + m1, by rw [hm, World.drewN_drewN]⟩⟩
                    case measure => simp [intOf]; omega
                · have q2 : decide ((k : Int) < (s.size : Int)) = false := decide_eq_false (by omega)
                  have HN := Lib.hid (hn.out.2 (by omega))
                  clear hn
                  go_wp2_with fail
                  refine (cD.out).mono ?_; rintro e w1 ⟨rfl, m1, rfl⟩
                  go_wp2_with fail
                  go_roundw
                  case rel => exact ⟨k + 1, by omega, by go_num, HN.out, HG.out.2.elim fun m hm => ⟨m + m1, by rw [hm, World.drewN_drewN]⟩⟩
                  case measure => simp [intOf]; omega
            · obtain rfl : k = s.size + 1 := by omega
              have hA := Lib.hid (HG.out.1.2 rfl)
              have q1 : ¬ ((s.size + 1 : Nat) : Int) ≤ (s.size : Int) := by omega
              obtain ⟨m, hm⟩ := HG.out.2
              clear hle hk HG cR
              go_wp2_with fail
              go_ret
              exact ⟨by rw [hA.out]; rfl, m, rfl⟩
        · -- one
          obtain ⟨P1, hP1⟩ : ∃ P1, p.extract 1 p.size = P1 := ⟨_, rfl⟩
          have hz1 : P1.size = p.size - 1 := by rw [← hP1]; exact hs1
          have hx : ∀ x, P1.data.toList ≠ 42 :: x := fun x e => h2 (by
            have hlen : 1 < p.size := by
              have := congrArg List.length e
              rw [len_data] at this
              simp at this
              omega
            refine ⟨hlen, ?_⟩
            have e3 := drop_at p 1 hlen
            rw [show p.data.toList.drop 1 = P1.data.toList by rw [← hP1, ext_list], e] at e3
            simp only [List.cons.injEq] at e3
            rw [← e3.1]
            rfl)
          have HS : Hid (Spl P1 false s (mb (parts p.data.toList) s.data.toList) 0) := by
            have h : Spl P1 false s (mb (parts p.data.toList) s.data.toList) 0 := by
              unfold Spl
              conv => rhs; rw [cons_of p h1, hP1, byte42.2 hc, parts_star _ hx]
              rfl
            exact h
          have cR : Hid (∀ s w, s.size ≤ 1000 → SplC P1 s w) := fun s w h => IH.out P1 s w (by omega) h
          have hE : P1.toList.isEmpty = true ∨ (P1.toList.isEmpty = false ∧ (0 : Int) < (P1.size : Int) ∧ ∃ h : 0 < P1.size, ((P1[0].toNat : Int) == 42) = false) := by
            by_cases hz : P1.size = 0
            · exact .inl (by rw [empty_iff]; exact decide_eq_true hz)
            · refine .inr ⟨by rw [empty_iff]; exact decide_eq_false hz, by omega, by omega, ?_⟩
              rw [beq_eq_false_iff_ne]
              intro h
              exact hx (P1.extract 1 P1.size).data.toList (by rw [← byte42.2 (show P1[0].toNat = 42 by omega)]; exact cons_of P1 (by omega))
          clear IH hx hc hs1 h0 hz1 h2
          unfold SplC at *
          generalize mb (parts p.data.toList) s.data.toList = ANS at *
          rcases hE with g1 | ⟨g1, g2, g3, g4⟩
          · go_enter Try.func18, Try.ntmps18
            go_wp2_with fail
            go_loopw [7] (fun i wr => ∃ k : Nat, k ≤ s.size + 1 ∧ i = .int .i64 k ∧ Hid (Lap P1 false s ANS k ∧ ∃ m, wr = w.drewN m)) (fun i _ => s.size + 1 - (intOf i).toNat)
            case atStart => exact ⟨0, Nat.zero_le _, rfl, Lap.start HS.out, 0, rfl⟩
            case round =>
              obtain ⟨k, hk, rfl, HG⟩ := hrel
              clear HS
              by_cases hle : k ≤ s.size
              · have q1 : (k : Int) ≤ (s.size : Int) := by omega
                obtain ⟨D, hD⟩ : ∃ D, s.extract k s.size = D := ⟨_, rfl⟩
                have cD := Lib.hid (cR.out D wr (by rw [← hD, ext_size]; omega))
                have hy : Hid (mb (parts P1.data.toList) D.data.toList = true → ANS = true) := fun h => by
                  rw [← hD] at h
                  exact (HG.out.1.1 hle).yes hle h
                have hn : Hid (mb (parts P1.data.toList) D.data.toList = false → (∀ h : k < s.size, s[k].toNat ≠ 46 → Lap P1 false s ANS (k + 1)) ∧ (∀ h : k < s.size, s[k].toNat = 46 → ANS = false) ∧ (k = s.size → Lap P1 false s ANS (k + 1))) := by
                  refine fun hm => by
                    rw [← hD] at hm
                    exact ⟨fun h hc => ⟨fun _ => (HG.out.1.1 hle).next h hm (.inr hc), fun e => by omega⟩, fun h hc => (HG.out.1.1 hle).dot h hm hc, fun e => by
                      subst e
                      exact ⟨fun h => by omega, fun _ => (HG.out.1.1 hle).last hm⟩⟩
                generalize mb (parts P1.data.toList) D.data.toList = B at *
                cases B with
                | true =>
                  have hA := Lib.hid (hy.out rfl)
                  clear hy hn cR
                  go_wp2_with fail
                  refine (cD.out).mono ?_; rintro e w1 ⟨rfl, m1, rfl⟩
                  go_wp2_with fail
                  go_ret
                  obtain ⟨m, hm⟩ := HG.out.2
                  exact ⟨by rw [hA.out]; rfl, m + m1, by rw [hm, World.drewN_drewN]⟩
                | false =>
                  have hn := Lib.hid (hn.out rfl)
                  clear hy cR
                  by_cases hlt : k < s.size
                  · have q2 : (k : Int) < (s.size : Int) := by omega
                    by_cases hc : s[k].toNat = 46
                    · have q3 : ((s[k].toNat : Int) == 46) = true := by rw [beq_iff_eq]; omega
                      have HN := Lib.hid (hn.out.2.1 hlt hc)
                      clear hn hc
                      go_wp2_with fail
                      refine (cD.out).mono ?_; rintro e w1 ⟨rfl, m1, rfl⟩
                      go_wp2_with fail
                      go_ret
                      obtain ⟨m, hm⟩ := HG.out.2
                      exact ⟨by rw [HN.out]; rfl, m + m1, by rw [hm, World.drewN_drewN]⟩
                    · have q3 : ((s[k].toNat : Int) == 46) = false := by rw [beq_eq_false_iff_ne]; omega
                      have HN := Lib.hid (hn.out.1 hlt hc)
                      clear hn hc
                      go_wp2_with fail
                      refine (cD.out).mono ?_; rintro e w1 ⟨rfl, m1, rfl⟩
                      go_wp2_with fail
                      go_roundw
                      case rel => exact ⟨k + 1, by omega, by go_num, HN.out, HG.out.2.elim fun m hm => ⟨m + m1, by rw [hm, World.drewN_drewN]⟩⟩
                      case measure => simp [intOf]; omega
                  · have q2 : decide ((k : Int) < (s.size : Int)) = false := decide_eq_false (by omega)
                    have HN := Lib.hid (hn.out.2.2 (by omega))
                    clear hn
                    go_wp2_with fail
                    refine (cD.out).mono ?_; rintro e w1 ⟨rfl, m1, rfl⟩
                    go_wp2_with fail
                    go_roundw
                    case rel => exact ⟨k + 1, by omega, by go_num, HN.out, HG.out.2.elim fun m hm => ⟨m + m1, by rw [hm, World.drewN_drewN]⟩⟩
                    case measure => simp [intOf]; omega
              · obtain rfl : k = s.size + 1 := by omega
                have hA := Lib.hid (HG.out.1.2 rfl)
                have q1 : ¬ ((s.size + 1 : Nat) : Int) ≤ (s.size : Int) := by omega
                obtain ⟨m, hm⟩ := HG.out.2
                clear hle hk HG cR
                go_wp2_with fail
                go_ret
                exact ⟨by rw [hA.out]; rfl, m, rfl⟩
          · go_enter Try.func18, Try.ntmps18
            go_wp2_with fail
            go_loopw [7] (fun i wr => ∃ k : Nat, k ≤ s.size + 1 ∧ i = .int .i64 k ∧ Hid (Lap P1 false s ANS k ∧ ∃ m, wr = w.drewN m)) (fun i _ => s.size + 1 - (intOf i).toNat)
            case atStart => exact ⟨0, Nat.zero_le _, rfl, Lap.start HS.out, 0, rfl⟩
            case round =>
              obtain ⟨k, hk, rfl, HG⟩ := hrel
              clear HS
              by_cases hle : k ≤ s.size
              · have q1 : (k : Int) ≤ (s.size : Int) := by omega
                obtain ⟨D, hD⟩ : ∃ D, s.extract k s.size = D := ⟨_, rfl⟩
                have cD := Lib.hid (cR.out D wr (by rw [← hD, ext_size]; omega))
                have hy : Hid (mb (parts P1.data.toList) D.data.toList = true → ANS = true) := fun h => by
                  rw [← hD] at h
                  exact (HG.out.1.1 hle).yes hle h
                have hn : Hid (mb (parts P1.data.toList) D.data.toList = false → (∀ h : k < s.size, s[k].toNat ≠ 46 → Lap P1 false s ANS (k + 1)) ∧ (∀ h : k < s.size, s[k].toNat = 46 → ANS = false) ∧ (k = s.size → Lap P1 false s ANS (k + 1))) := by
                  refine fun hm => by
                    rw [← hD] at hm
                    exact ⟨fun h hc => ⟨fun _ => (HG.out.1.1 hle).next h hm (.inr hc), fun e => by omega⟩, fun h hc => (HG.out.1.1 hle).dot h hm hc, fun e => by
                      subst e
                      exact ⟨fun h => by omega, fun _ => (HG.out.1.1 hle).last hm⟩⟩
                generalize mb (parts P1.data.toList) D.data.toList = B at *
                cases B with
                | true =>
                  have hA := Lib.hid (hy.out rfl)
                  clear hy hn cR
                  go_wp2_with fail
                  refine (cD.out).mono ?_; rintro e w1 ⟨rfl, m1, rfl⟩
                  go_wp2_with fail
                  go_ret
                  obtain ⟨m, hm⟩ := HG.out.2
                  exact ⟨by rw [hA.out]; rfl, m + m1, by rw [hm, World.drewN_drewN]⟩
                | false =>
                  have hn := Lib.hid (hn.out rfl)
                  clear hy cR
                  by_cases hlt : k < s.size
                  · have q2 : (k : Int) < (s.size : Int) := by omega
                    by_cases hc : s[k].toNat = 46
                    · have q3 : ((s[k].toNat : Int) == 46) = true := by rw [beq_iff_eq]; omega
                      have HN := Lib.hid (hn.out.2.1 hlt hc)
                      clear hn hc
                      go_wp2_with fail
                      refine (cD.out).mono ?_; rintro e w1 ⟨rfl, m1, rfl⟩
                      go_wp2_with fail
                      go_ret
                      obtain ⟨m, hm⟩ := HG.out.2
                      exact ⟨by rw [HN.out]; rfl, m + m1, by rw [hm, World.drewN_drewN]⟩
                    · have q3 : ((s[k].toNat : Int) == 46) = false := by rw [beq_eq_false_iff_ne]; omega
                      have HN := Lib.hid (hn.out.1 hlt hc)
                      clear hn hc
                      go_wp2_with fail
                      refine (cD.out).mono ?_; rintro e w1 ⟨rfl, m1, rfl⟩
                      go_wp2_with fail
                      go_roundw
                      case rel => exact ⟨k + 1, by omega, by go_num, HN.out, HG.out.2.elim fun m hm => ⟨m + m1, by rw [hm, World.drewN_drewN]⟩⟩
                      case measure => simp [intOf]; omega
                  · have q2 : decide ((k : Int) < (s.size : Int)) = false := decide_eq_false (by omega)
                    have HN := Lib.hid (hn.out.2.2 (by omega))
                    clear hn
                    go_wp2_with fail
                    refine (cD.out).mono ?_; rintro e w1 ⟨rfl, m1, rfl⟩
                    go_wp2_with fail
                    go_roundw
                    case rel => exact ⟨k + 1, by omega, by go_num, HN.out, HG.out.2.elim fun m hm => ⟨m + m1, by rw [hm, World.drewN_drewN]⟩⟩
                    case measure => simp [intOf]; omega
              · obtain rfl : k = s.size + 1 := by omega
                have hA := Lib.hid (HG.out.1.2 rfl)
                have q1 : ¬ ((s.size + 1 : Nat) : Int) ≤ (s.size : Int) := by omega
                obtain ⟨m, hm⟩ := HG.out.2
                clear hle hk HG cR
                go_wp2_with fail
                go_ret
                exact ⟨by rw [hA.out]; rfl, m, rfl⟩
      · -- a byte
        have f3 : ((p[0].toNat : Int) != 42) = true := by rw [bne_iff_ne]; omega
        have hc' : p[0] ≠ 42 := by rw [Ne, byte42]; exact hc
        by_cases hs0 : s.size = 0
        · have fs : s.toList.isEmpty = true := by rw [empty_iff]; exact decide_eq_true hs0
          have hA : Hid (mb (parts p.data.toList) s.data.toList = false) := by
            have h : mb (parts p.data.toList) s.data.toList = false := by
              rw [cons_of p h1, parts_byte _ _ hc', (nil_iff s).2 hs0]
              rfl
            exact h
          clear hc hc' hs0 h0 IH
          unfold SplC
          generalize mb (parts p.data.toList) s.data.toList = ANS at *
          go_enter Try.func18, Try.ntmps18
          go_wp2_with fail
          go_quiet (fail)
          go_wp2_with fail
          go_ret
          exact ⟨by rw [hA.out]; rfl, _, rfl⟩
        · have h2 : 0 < s.size := by omega
          have fs : s.toList.isEmpty = false := by rw [empty_iff]; exact decide_eq_false hs0
          have f4 : (0 : Int) < (s.size : Int) := by omega
          have f5 : (1 : Int) ≤ (s.size : Int) := by omega
          have hA : Hid (mb (parts p.data.toList) s.data.toList = ((s[0] == p[0]) && mb (parts (p.extract 1 p.size).data.toList) (s.extract 1 s.size).data.toList)) := by
            have h : mb (parts p.data.toList) s.data.toList = ((s[0] == p[0]) && mb (parts (p.extract 1 p.size).data.toList) (s.extract 1 s.size).data.toList) := by
              conv => lhs; rw [cons_of p h1, parts_byte _ _ hc', cons_of s h2]
              rfl
            exact h
          by_cases he : s[0].toNat = p[0].toNat
          · have f6 : ((s[0].toNat : Int) == (p[0].toNat : Int)) = true := by rw [beq_iff_eq]; omega
            have hA2 : Hid (mb (parts p.data.toList) s.data.toList = mb (parts (p.extract 1 p.size).data.toList) (s.extract 1 s.size).data.toList) := by
              have h := hA.out
              rw [show (s[0] == p[0]) = true by rw [beq_iff_eq]; exact UInt8.toNat_inj.1 he, Bool.true_and] at h
              exact h
            have cR : Hid (∀ w, SplC (p.extract 1 p.size) (s.extract 1 s.size) w) := fun w => IH.out _ _ w (by rw [ext_size]; omega) (by rw [ext_size]; omega)
            clear hc hc' hs0 h0 IH he hA
            unfold SplC at *
            generalize mb (parts p.data.toList) s.data.toList = ANS at *
            generalize mb (parts (p.extract 1 p.size).data.toList) (s.extract 1 s.size).data.toList = R at *
            go_enter Try.func18, Try.ntmps18
            go_wp2_with fail
            go_quiet (first | (go_at_call 18; exact Calls.quiet_of (cR.out _)))
            go_wp2_with fail
            go_ret
            exact ⟨by rw [hA2.out]; rfl, _, rfl⟩
          · have f6 : ((s[0].toNat : Int) == (p[0].toNat : Int)) = false := by rw [beq_eq_false_iff_ne]; omega
            have hA2 : Hid (mb (parts p.data.toList) s.data.toList = false) := by
              have h := hA.out
              rw [show (s[0] == p[0]) = false by rw [beq_eq_false_iff_ne]; exact fun x => he (by rw [x]), Bool.false_and] at h
              exact h
            clear hc hc' hs0 h0 IH he hA
            unfold SplC
            generalize mb (parts p.data.toList) s.data.toList = ANS at *
            go_enter Try.func18, Try.ntmps18
            go_wp2_with fail
            go_quiet (fail)
            go_wp2_with fail
            go_ret
            exact ⟨by rw [hA2.out]; rfl, _, rfl⟩

set_option maxRecDepth 100000 in
set_option maxHeartbeats 2000000 in
theorem splitsLaw_any (p s : ByteArray) (w : World) (_hp : p.size ≤ maxLen) (_hs : s.size ≤ maxLen) (mx : MX w) :
    Calls Try.prog 5 #[.string p, .string s] w fun e w' => e = .returned (.bool true) ∧ Below w.heap.size w w' := by
  have cA := Lib.hid (awake_true w mx)
  by_cases h1 : 60 < p.size
  · have f1 : (60 : Int) < (p.size : Int) := by omega
    clear mx h1 _hp _hs
    go_enter Try.func5, Try.ntmps5
    go_wp2_with fail
    refine (cA.out).mono ?_; rintro e w1 ⟨rfl, q⟩
    have q := Lib.hid q
    go_wp2_with fail
    go_ret
    exact ⟨rfl, q.out⟩
  · have f1 : ¬ (60 : Int) < (p.size : Int) := by omega
    by_cases h2 : 40 < s.size
    · have f2 : (40 : Int) < (s.size : Int) := by omega
      clear mx h1 h2 _hp _hs
      go_enter Try.func5, Try.ntmps5
      go_wp2_with fail
      refine (cA.out).mono ?_; rintro e w1 ⟨rfl, q⟩
      have q := Lib.hid q
      go_wp2_with fail
      go_ret
      exact ⟨rfl, q.out⟩
    · have f2 : decide ((40 : Int) < (s.size : Int)) = false := decide_eq_false (by omega)
      have cG := Lib.hid (groups_any p w (by omega))
      have cC := Lib.hid (check_any p w mx (by omega))
      have cM := Lib.hid (match_any p s w mx (by omega) (by omega))
      have cS : Hid (∀ w1, Q w w1 → Calls Try.prog 18 #[.string p, .string s] w1 fun e w' => e = .returned (.bool (mb (parts p.data.toList) s.data.toList)) ∧ Q w w') := fun w1 q =>
        (splits_any p.size p s w1 (Nat.le_refl _) (by omega) (by omega)).mono fun e w' h => ⟨h.1, by obtain ⟨_, n, rfl⟩ := h; exact q.trans (Q.drewN _ _)⟩
      have cA2 : Hid (∀ w1, Q w w1 → Calls Try.prog 8 #[] w1 fun e w' => e = .returned (.bool true) ∧ Q w w') := fun w1 q => by
        exact (awake_true w1 (mx.stays q)).mono fun e w' h => ⟨h.1, q.trans h.2⟩
      have hB : Hid (hitB p.data.toList s.data.toList = ((chk p.data.toList == 0) && mb (parts p.data.toList) s.data.toList)) := rfl
      clear mx h1 h2 _hp _hs
      generalize (grp 0 0 0 p.data.toList).1 = G at *
      generalize chk p.data.toList = C at *
      generalize hitB p.data.toList s.data.toList = H at *
      generalize mb (parts p.data.toList) s.data.toList = R at *
      by_cases h3 : 4 < G
      · have f3 : (4 : Int) < (G : Int) := by omega
        clear h3 cA2 cC cM cS hB
        go_enter Try.func5, Try.ntmps5
        go_wp2_with fail
        refine (cG.out).mono ?_; rintro e w1 ⟨rfl, rfl⟩
        go_wp2_with fail
        refine (cA.out).mono ?_; rintro e w1 ⟨rfl, q⟩
        have q := Lib.hid q
        go_wp2_with fail
        go_ret
        exact ⟨rfl, q.out⟩
      · have f3 : decide ((4 : Int) < (G : Int)) = false := decide_eq_false (by omega)
        by_cases h4 : C = 0
        · have f4 : (C != 0) = false := by rw [bne_eq_false_iff_eq]; exact h4
          have hE : H = R := by
            have := hB.out
            rw [show (C == 0) = true by rw [beq_iff_eq]; exact h4, Bool.true_and] at this
            exact this
          subst hE
          clear h3 h4 cA hB
          go_enter Try.func5, Try.ntmps5
          go_wp2_with fail
          refine (cG.out).mono ?_; rintro e w1 ⟨rfl, rfl⟩
          go_wp2_with fail
          refine (cC.out).mono ?_; rintro e w1 ⟨rfl, rfl⟩
          go_wp2_with fail
          refine (cM.out).mono ?_; rintro e w1 ⟨rfl, q⟩
          have q1 := Lib.hid q; clear q cM
          go_wp2_with fail
          refine (cS.out _ q1.out).mono ?_; rintro e w2 ⟨rfl, q⟩
          have q2 := Lib.hid q; clear q cS
          go_wp2_with fail
          refine (cA2.out _ q2.out).mono ?_; rintro e w3 ⟨rfl, q⟩
          have q3 := Lib.hid q; clear q cA2
          go_wp2_with fail
          go_ret
          exact ⟨rfl, q3.out⟩
        · have f4 : (C != 0) = true := by rw [bne_iff_ne]; exact h4
          clear h3 h4 cA2 cM cS hB
          go_enter Try.func5, Try.ntmps5
          go_wp2_with fail
          refine (cG.out).mono ?_; rintro e w1 ⟨rfl, rfl⟩
          go_wp2_with fail
          refine (cC.out).mono ?_; rintro e w1 ⟨rfl, rfl⟩
          go_wp2_with fail
          refine (cA.out).mono ?_; rintro e w1 ⟨rfl, q⟩
          have q := Lib.hid q
          go_wp2_with fail
          go_ret
          exact ⟨rfl, q.out⟩

end Go.Proofs.Ythknlllaclgekaa.glo
