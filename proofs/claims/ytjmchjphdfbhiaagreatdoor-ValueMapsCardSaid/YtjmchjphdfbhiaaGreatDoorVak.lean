/- awake, plain: the example's values and what the functions say of them; awake. -/
import Derived.Test.YtjmchjphdfbhiaaGreatDoorVpw
import Derived.Test.YtjmchjphdfbhiaaGreatDoorVpc
namespace Go.Proofs.YtjmchjphdfbhiaaGreatDoor.val
open Go.Proofs.YtjmchjphdfbhiaaGreatDoor
def vN : V := ⟨0, 0, ⟨#[]⟩, [], []⟩
def vU : V := ⟨6, 0, ⟨#[]⟩, [], []⟩
def v1 : V := ⟨2, 1, ⟨#[]⟩, [], []⟩
def vF : V := ⟨1, 0, ⟨#[]⟩, [], []⟩
def v9 : V := ⟨9, 0, ⟨#[]⟩, [], []⟩
def sa : ByteArray := ⟨#[97]⟩
def sb : ByteArray := ⟨#[98]⟩
def vM : V := ⟨5, 0, ⟨#[]⟩, [vU, v1], [sa, sb]⟩
def vP : V := ⟨5, 0, ⟨#[]⟩, [vN, v1], [sa, sb]⟩
theorem cT_ab : cT sa sb = -1 := by decide
theorem cT_aa : cT sa sa = 0 := by decide
theorem cT_bb : cT sb sb = 0 := by decide
theorem cT_ba : cT sb sa = 1 := by decide
theorem map_ex : mapP [] ([sb, sa].zip [v1, vU]) = some ([sa, sb].zip [vU, v1]) := by
  simp [mapP, getP, putP, cT_ba]
theorem get_ex : getV vM sb = some v1 := by
  have e : getV vM sb = getP ([sa, sb].zip [vU, v1]) sb := if_pos ⟨rfl, rfl⟩
  rw [e]
  simp [getP, cT_ab, cT_bb]
theorem put_ex : putP (vM.keys.zip vM.items) sa vN = vP.keys.zip vP.items := by
  show putP ([sa, sb].zip [vU, v1]) sa vN = [sa, sb].zip [vN, v1]
  simp [putP, cT_aa]
theorem srt_ex : srt [sa, sb] := by
  unfold srt
  simp [cT_ab]
theorem fnd_ex : fnd [sa, sb] sa = true := by decide
theorem chk_ex : chkE vM = 0 := by decide
theorem chk9_ex : chkE v9 = 1 := by decide
theorem known_m : known vM = false := by decide
theorem known_p : known vP = true := by decide
theorem ref_pm : refB vP vM = true := by decide
theorem ref_mp : refB vM vP = false := by decide
theorem nodes_m : nodes vM = 3 := by decide
theorem nodes_p : nodes vP = 3 := by decide
theorem cmp_ex : cV vN vF = -1 := by decide
theorem eq_ex : cV v1 v1 = 0 := by decide

end Go.Proofs.YtjmchjphdfbhiaaGreatDoor.val

namespace Go.Proofs.YtjmchjphdfbhiaaGreatDoor.val
open Go.RowKit
open Go.Proofs.YtjmchjphdfbhiaaGreatDoor
open Go.Proofs.YtjmchjphdfbhiaaGreatDoor.lit (Fx)
open Go.Proofs.YtjmchjphdfbhiaaGreatDoor.val.cp (Fit FitL Fit_iff FitL_cons FitL_nil set5 set5_block set5_world set5_at)
theorem wf_of {v : V} (h1 : -9223372036854775808 ≤ v.kind ∧ v.kind ≤ 9223372036854775807) (h2 : -9223372036854775808 ≤ v.num ∧ v.num ≤ 9223372036854775807) (h3 : v.str.size ≤ 100) (h4 : v.items.length ≤ 100) (h5 : v.keys.length ≤ 100) (h6 : ∀ x ∈ v.keys, x.size ≤ 100) (h7 : WfL v.items) : Wf v :=
  (Wf_iff v).2 ⟨h1, h2, by unfold maxLen; omega, by unfold maxLen; omega, by unfold maxLen; omega, fun x hx => by have := h6 x hx; unfold maxLen; omega, h7⟩
theorem wf_leaf (k n : Int) (hk : 0 ≤ k ∧ k ≤ 9) (hn : 0 ≤ n ∧ n ≤ 9) : Wf ⟨k, n, ⟨#[]⟩, [], []⟩ := wf_of ⟨by show _ ≤ k; omega, by show k ≤ _; omega⟩ ⟨by show _ ≤ n; omega, by show n ≤ _; omega⟩ (by show 0 ≤ 100; decide) (by show 0 ≤ 100; decide) (by show 0 ≤ 100; decide) (fun x hx => absurd hx (List.not_mem_nil)) WfL_nil
theorem keys_ab : ∀ x ∈ [sa, sb], x.size ≤ 100 := by
  intro x hx
  simp only [List.mem_cons, List.not_mem_nil, or_false] at hx
  rcases hx with rfl | rfl <;> decide
theorem wf_m : Wf vM := wf_of (by decide) (by decide) (by decide) (by decide) (by decide) keys_ab ((WfL_cons _ _).2 ⟨wf_leaf 6 0 (by decide) (by decide), (WfL_cons _ _).2 ⟨wf_leaf 2 1 (by decide) (by decide), WfL_nil⟩⟩)
theorem wf_p : Wf vP := wf_of (by decide) (by decide) (by decide) (by decide) (by decide) keys_ab ((WfL_cons _ _).2 ⟨wf_leaf 0 0 (by decide) (by decide), (WfL_cons _ _).2 ⟨wf_leaf 2 1 (by decide) (by decide), WfL_nil⟩⟩)
theorem fit_leaf (k n : Int) : Fit ⟨k, n, ⟨#[]⟩, [], []⟩ := (Fit_iff _).2 ⟨by show 0 ≤ _; omega, (fun x hx => absurd hx (List.not_mem_nil)), by show 0 ≤ _; omega, by show 0 ≤ _; omega, FitL_nil⟩
theorem fit_l : FitL [v1, vU] := (FitL_cons _ _).2 ⟨fit_leaf 2 1, (FitL_cons _ _).2 ⟨fit_leaf 6 0, FitL_nil⟩⟩
theorem fit_l2 : FitL [vU, v1] := (FitL_cons _ _).2 ⟨fit_leaf 6 0, (FitL_cons _ _).2 ⟨fit_leaf 2 1, FitL_nil⟩⟩
theorem sz_ab : ∀ x ∈ [sa, sb], x.size ≤ 281474976710656 := fun x hx => by have := keys_ab x hx; omega
theorem sz_ba : ∀ x ∈ [sb, sa], x.size ≤ 281474976710656 := fun x hx => by
  refine sz_ab x ?_
  simp only [List.mem_cons, List.not_mem_nil, or_false] at hx ⊢
  exact hx.symm
theorem fit_m : Fit vM := (Fit_iff _).2 ⟨by show 0 ≤ _; omega, sz_ab, by show 2 ≤ _; omega, by show 2 ≤ _; omega, fit_l2⟩
theorem at_leaf (k n : Int) (hk : 0 ≤ k ∧ k ≤ 9) (hn : 0 ≤ n ∧ n ≤ 9) (A B : Option Addr) (c d : Nat) (w : World) : At ⟨k, n, ⟨#[]⟩, [], []⟩ (.slice A 0 c) (.slice B 0 d) w := ⟨Is.nil _ _ _, Ks.nil _ _ _, wf_leaf k n hk hn⟩
/-- A value without items and keys, written out. -/
theorem leaf_ex {k n : Int} {w : World} {e : Ending} {w' : World} (h : Made ⟨k, n, ⟨#[]⟩, [], []⟩ w e w') : ∃ A c B d, e = .returned (.agg #[.int .i64 k, .int .i64 n, .string ⟨#[]⟩, .slice A 0 c, .slice B 0 d]) ∧ Q w w' := by
  obtain ⟨s3, s4, rfl, h3, h4, q⟩ := h
  obtain ⟨A, c, rfl, -⟩ := h3.shape
  obtain ⟨B, d, rfl, -⟩ := h4.shape
  exact ⟨A, c, B, d, rfl, q⟩
theorem map_exa (A3 A4 : Option Addr) (c3 c4 : Nat) (w : World) (hI : Is (.slice A3 2 c3) [v1, vU] w) (hK : Ks (.slice A4 2 c4) [sb, sa] w) :
    Calls Tryz.prog 27 #[.slice A4 2 c4, .slice A3 2 c3] w fun e w' => ∃ A c A' c', e = .returned (.tuple #[.agg #[.int .i64 5, .int .i64 0, .string ⟨#[]⟩, .slice A 2 c, .slice A' 2 c'], .int .i64 0]) ∧ Is (.slice A 2 c) [vU, v1] w' ∧ Ks (.slice A' 2 c') [sa, sb] w' ∧ Q w w' := by
  refine (map_eq [sb, sa] [v1, vU] A4 A3 c4 c3 w rfl hK hI fit_l sz_ba (by decide) (by decide)).mono ?_
  rintro e w' ⟨q, h⟩
  rw [if_pos (show [sb, sa].length = [v1, vU].length from rfl), map_ex] at h
  obtain ⟨s3, s4, rfl, h3, h4⟩ := h
  have h3 : Is s3 [vU, v1] w' := h3
  have h4 : Ks s4 [sa, sb] w' := h4
  obtain ⟨A, c, rfl, -⟩ := h3.shape
  obtain ⟨B, d, rfl, -⟩ := h4.shape
  exact ⟨A, c, B, d, rfl, h3, h4, q⟩
/-- The example's map in memory. -/
structure Am (A3 A4 : Option Addr) (c3 c4 : Nat) (w : World) : Prop where
  is : Is (.slice A3 2 c3) [vU, v1] w
  kk : Ks (.slice A4 2 c4) [sa, sb] w
structure Ap (A3 A4 : Option Addr) (c3 c4 : Nat) (w : World) : Prop where
  is : Is (.slice A3 2 c3) [vN, v1] w
  kk : Ks (.slice A4 2 c4) [sa, sb] w
theorem Am.stays {A3 A4 : Option Addr} {c3 c4 : Nat} {w w' : World} (h : Am A3 A4 c3 c4 w) (q : Q w w') : Am A3 A4 c3 c4 w' := ⟨h.is.stays q, h.kk.stays q⟩
theorem Ap.stays {A3 A4 : Option Addr} {c3 c4 : Nat} {w w' : World} (h : Ap A3 A4 c3 c4 w) (q : Q w w') : Ap A3 A4 c3 c4 w' := ⟨h.is.stays q, h.kk.stays q⟩
theorem Am.at {A3 A4 : Option Addr} {c3 c4 : Nat} {w : World} (h : Am A3 A4 c3 c4 w) : At vM (.slice A3 2 c3) (.slice A4 2 c4) w := ⟨h.is, h.kk, wf_m⟩
theorem Ap.at {A3 A4 : Option Addr} {c3 c4 : Nat} {w : World} (h : Ap A3 A4 c3 c4 w) : At vP (.slice A3 2 c3) (.slice A4 2 c4) w := ⟨h.is, h.kk, wf_p⟩
theorem get_exa {A3 A4 : Option Addr} {c3 c4 : Nat} {w : World} (h : Am A3 A4 c3 c4 w) :
    Calls Tryz.prog 29 #[.agg #[.int .i64 5, .int .i64 0, .string ⟨#[]⟩, .slice A3 2 c3, .slice A4 2 c4], .string ⟨#[98]⟩] w fun e w' => ∃ A c B d, e = .returned (.tuple #[.agg #[.int .i64 2, .int .i64 1, .string ⟨#[]⟩, .slice A 0 c, .slice B 0 d], .bool true]) ∧ Q w w' := by
  refine (get_any vM A3 A4 c3 c4 sb w h.is h.kk srt_ex fit_m (by decide)).mono ?_
  rintro e w' ⟨q, h⟩
  rw [get_ex] at h
  obtain ⟨s3, s4, rfl, h3, h4⟩ := h
  obtain ⟨A, c, rfl, -⟩ := h3.shape
  obtain ⟨B, d, rfl, -⟩ := h4.shape
  exact ⟨A, c, B, d, rfl, q⟩
theorem put_exa {A3 A4 : Option Addr} {c3 c4 : Nat} {w : World} (h : Am A3 A4 c3 c4 w) (A B : Option Addr) (c d : Nat) :
    Calls Tryz.prog 31 #[.agg #[.int .i64 5, .int .i64 0, .string ⟨#[]⟩, .slice A3 2 c3, .slice A4 2 c4], .string ⟨#[97]⟩, .agg #[.int .i64 0, .int .i64 0, .string ⟨#[]⟩, .slice A 0 c, .slice B 0 d]] w fun e w' => ∃ A' c' B' d', e = .returned (.agg #[.int .i64 5, .int .i64 0, .string ⟨#[]⟩, .slice A' 2 c', .slice B' 2 d']) ∧ Ap A' B' c' d' w' ∧ Q w w' := by
  refine (put_some 5 0 ⟨#[]⟩ [sa, sb] [vU, v1] sa vN A3 A4 A B c3 c4 c d w h.is h.kk (Is.nil _ _ _) (Ks.nil _ _ _) srt_ex fit_l2 sz_ab (fit_leaf 0 0) (by decide) (by decide) rfl (by decide) fnd_ex rfl).mono ?_
  rintro e w' ⟨q, h⟩
  rw [if_pos ⟨rfl, rfl⟩] at h
  obtain ⟨s3, s4, rfl, h3, h4⟩ := h
  have e := put_ex
  have e' : putP ([sa, sb].zip [vU, v1]) sa vN = [sa, sb].zip [vN, v1] := e
  have h3 : Is s3 ((putP ([sa, sb].zip [vU, v1]) sa vN).map (fun b => b.2)) w' := h3
  have h4 : Ks s4 ((putP ([sa, sb].zip [vU, v1]) sa vN).map (fun b => b.1)) w' := h4
  rw [e'] at h3 h4
  have h3 : Is s3 [vN, v1] w' := h3
  have h4 : Ks s4 [sa, sb] w' := h4
  obtain ⟨A, c, rfl, -⟩ := h3.shape
  obtain ⟨B, d, rfl, -⟩ := h4.shape
  exact ⟨A, c, B, d, rfl, ⟨h3, h4⟩, q⟩
theorem check_exa {A3 A4 : Option Addr} {c3 c4 : Nat} {w : World} (h : Am A3 A4 c3 c4 w) (f : Fx w) :
    Calls Tryz.prog 12 #[.agg #[.int .i64 5, .int .i64 0, .string ⟨#[]⟩, .slice A3 2 c3, .slice A4 2 c4]] w fun e w' => e = .returned (.int .i64 0) ∧ Q w w' := by
  have c := check_any vM (.slice A3 2 c3) (.slice A4 2 c4) w w (Q.refl _) f h.is h.kk wf_m (by decide)
  rw [chk_ex] at c
  exact c
theorem check_ex9 (w : World) (f : Fx w) :
    Calls Tryz.prog 12 #[.agg #[.int .i64 9, .int .i64 0, .string ⟨#[]⟩, .slice none 0 0, .slice none 0 0]] w fun e w' => e = .returned (.int .i64 1) ∧ Q w w' := by
  have c := check_any v9 (.slice none 0 0) (.slice none 0 0) w w (Q.refl _) f (Is.nil _ _ _) (Ks.nil _ _ _) (wf_leaf 9 0 (by decide) (by decide)) (by decide)
  rw [chk9_ex] at c
  exact c
theorem sane_m : sane vM := (valid_sane chk_ex).1
theorem sane_p : sane vP := (valid_sane (show chkE vP = 0 by decide)).1
theorem sane_1 : sane v1 := (valid_sane (show chkE v1 = 0 by decide)).1
theorem sane_n : sane vN := (valid_sane (show chkE vN = 0 by decide)).1
theorem sane_f : sane vF := (valid_sane (show chkE vF = 0 by decide)).1
theorem equal_exa (A1 A2 B1 B2 : Option Addr) (c1 c2 d1 d2 : Nat) (w : World) :
    Calls Tryz.prog 34 #[.agg #[.int .i64 2, .int .i64 1, .string ⟨#[]⟩, .slice A1 0 c1, .slice A2 0 c2], .agg #[.int .i64 2, .int .i64 1, .string ⟨#[]⟩, .slice B1 0 d1, .slice B2 0 d2]] w fun e w' => e = .returned (.bool true) ∧ Q w w' := by
  have c := equal_any v1 v1 (.slice A1 0 c1) (.slice A2 0 c2) (.slice B1 0 d1) (.slice B2 0 d2) w w (Q.refl _) (at_leaf 2 1 (by decide) (by decide) _ _ _ _ _) (at_leaf 2 1 (by decide) (by decide) _ _ _ _ _) sane_1 sane_1 (by decide)
  rw [eq_ex] at c
  exact c
theorem known_exm {A3 A4 : Option Addr} {c3 c4 : Nat} {w : World} (h : Am A3 A4 c3 c4 w) :
    Calls Tryz.prog 37 #[.agg #[.int .i64 5, .int .i64 0, .string ⟨#[]⟩, .slice A3 2 c3, .slice A4 2 c4]] w fun e w' => e = .returned (.bool false) ∧ Q w w' := by
  have c := known_any vM (.slice A3 2 c3) (.slice A4 2 c4) w w (Q.refl _) h.is h.kk wf_m (by decide)
  rw [known_m] at c
  exact c
theorem known_exp {A3 A4 : Option Addr} {c3 c4 : Nat} {w : World} (h : Ap A3 A4 c3 c4 w) :
    Calls Tryz.prog 37 #[.agg #[.int .i64 5, .int .i64 0, .string ⟨#[]⟩, .slice A3 2 c3, .slice A4 2 c4]] w fun e w' => e = .returned (.bool true) ∧ Q w w' := by
  have c := known_any vP (.slice A3 2 c3) (.slice A4 2 c4) w w (Q.refl _) h.is h.kk wf_p (by decide)
  rw [known_p] at c
  exact c
theorem refines_pm {A3 A4 B3 B4 : Option Addr} {c3 c4 d3 d4 : Nat} {w : World} (h : Ap A3 A4 c3 c4 w) (g : Am B3 B4 d3 d4 w) :
    Calls Tryz.prog 39 #[.agg #[.int .i64 5, .int .i64 0, .string ⟨#[]⟩, .slice A3 2 c3, .slice A4 2 c4], .agg #[.int .i64 5, .int .i64 0, .string ⟨#[]⟩, .slice B3 2 d3, .slice B4 2 d4]] w fun e w' => e = .returned (.bool true) ∧ Q w w' := by
  have c := refines_any vP vM (.slice A3 2 c3) (.slice A4 2 c4) (.slice B3 2 d3) (.slice B4 2 d4) w w (Q.refl _) h.at g.at sane_p sane_m (by decide)
  rw [ref_pm] at c
  exact c
theorem refines_mp {A3 A4 B3 B4 : Option Addr} {c3 c4 d3 d4 : Nat} {w : World} (h : Ap A3 A4 c3 c4 w) (g : Am B3 B4 d3 d4 w) :
    Calls Tryz.prog 39 #[.agg #[.int .i64 5, .int .i64 0, .string ⟨#[]⟩, .slice B3 2 d3, .slice B4 2 d4], .agg #[.int .i64 5, .int .i64 0, .string ⟨#[]⟩, .slice A3 2 c3, .slice A4 2 c4]] w fun e w' => e = .returned (.bool false) ∧ Q w w' := by
  have c := refines_any vM vP (.slice B3 2 d3) (.slice B4 2 d4) (.slice A3 2 c3) (.slice A4 2 c4) w w (Q.refl _) g.at h.at sane_m sane_p (by decide)
  rw [ref_mp] at c
  exact c
theorem nodes_exa {A3 A4 : Option Addr} {c3 c4 : Nat} {w : World} (h : Am A3 A4 c3 c4 w) :
    Calls Tryz.prog 41 #[.agg #[.int .i64 5, .int .i64 0, .string ⟨#[]⟩, .slice A3 2 c3, .slice A4 2 c4]] w fun e w' => e = .returned (.int .i64 3) ∧ Q w w' := by
  have c := nodes_any vM (.slice A3 2 c3) (.slice A4 2 c4) w w (Q.refl _) h.is h.kk wf_m (by decide)
  rw [nodes_m] at c
  exact c
theorem compare_exa (A1 A2 B1 B2 : Option Addr) (c1 c2 d1 d2 : Nat) (w : World) :
    Calls Tryz.prog 35 #[.agg #[.int .i64 0, .int .i64 0, .string ⟨#[]⟩, .slice A1 0 c1, .slice A2 0 c2], .agg #[.int .i64 1, .int .i64 0, .string ⟨#[]⟩, .slice B1 0 d1, .slice B2 0 d2]] w fun e w' => e = .returned (.int .i64 (-1)) ∧ Q w w' := by
  have c := compare_any vN vF (.slice A1 0 c1) (.slice A2 0 c2) (.slice B1 0 d1) (.slice B2 0 d2) w w (Q.refl _) (at_leaf 0 0 (by decide) (by decide) _ _ _ _ _) (at_leaf 1 0 (by decide) (by decide) _ _ _ _ _) sane_n sane_f (by decide)
  rw [cmp_ex] at c
  exact c
/-- The rows that the example hands on. -/
theorem rows_ex {B D : Nat} {A1 A2 A3 A4 : Option Addr} {c1 c2 c3 c4 : Nat} {t t' : TypeId} {w : World} (hb : Bk B #[.string ⟨#[98]⟩, .string ⟨#[97]⟩] t w)
    (hd : Bk D #[.int .i64 2, .int .i64 1, .string ⟨#[]⟩, .slice A1 0 c1, .slice A2 0 c2, .int .i64 6, .int .i64 0, .string ⟨#[]⟩, .slice A3 0 c3, .slice A4 0 c4] t' w) :
    Is (.slice (some ⟨D, 0, none⟩) 2 2) [v1, vU] w ∧ Ks (.slice (some ⟨B, 0, none⟩) 2 2) [sb, sa] w := by
  refine ⟨⟨_, 2, rfl, Nat.le_refl _, fun _ => ⟨D, 0, rfl, ?_⟩⟩, ⟨_, 2, rfl, Nat.le_refl _, fun _ => ⟨B, 0, rfl, hb.at 0 _ rfl, hb.at 1 _ rfl, trivial⟩⟩⟩
  rw [VL_cons, VL_cons]
  exact ⟨⟨_, _, _, _, _, hd.at 0 _ rfl, hd.at 1 _ rfl, hd.at 2 _ rfl, hd.at 3 _ rfl, hd.at 4 _ rfl, Vi.of (v := v1) (Is.nil _ _ _) (Ks.nil _ _ _)⟩, ⟨_, _, _, _, _, hd.at 5 _ rfl, hd.at 6 _ rfl, hd.at 7 _ rfl, hd.at 8 _ rfl, hd.at 9 _ rfl, Vi.of (v := vU) (Is.nil _ _ _) (Ks.nil _ _ _)⟩, VL_nil _ _ _⟩

end Go.Proofs.YtjmchjphdfbhiaaGreatDoor.val
