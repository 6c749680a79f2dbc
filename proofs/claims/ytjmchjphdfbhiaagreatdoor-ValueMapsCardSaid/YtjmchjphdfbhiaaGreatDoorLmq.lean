/- The law ValueMaps: what its calls come to. -/
import Derived.Test.YtjmchjphdfbhiaaGreatDoorWmp
import Derived.Test.YtjmchjphdfbhiaaGreatDoorVmx
import Derived.Test.YtjmchjphdfbhiaaGreatDoorVak
import Derived.Test.YtjmchjphdfbhiaaGreatDoorWsr
import Derived.Test.YtjmchjphdfbhiaaGreatDoorWsz
namespace Go.Proofs.YtjmchjphdfbhiaaGreatDoor.val
open Go.RowKit
open Go.Proofs.YtjmchjphdfbhiaaGreatDoor
open Go.Proofs.YtjmchjphdfbhiaaGreatDoor.val.cp (Fit FitL Fit_iff FitL_mem)
/-- The map of pairs, as a value. -/
def mk5 (r : List (ByteArray × V)) : V := ⟨5, 0, ⟨#[]⟩, r.map (fun b => b.2), r.map (fun b => b.1)⟩
def okR (r : List (ByteArray × V)) : Prop := ∀ b ∈ r, Wf b.2 ∧ b.1.size ≤ maxLen
theorem mk5_wf {r : List (ByteArray × V)} (h : okR r) (hn : r.length ≤ 100000) : Wf (mk5 r) := by
  refine (Wf_iff _).2 ⟨(show (-9223372036854775808 : Int) ≤ 5 ∧ (5 : Int) ≤ 9223372036854775807 from by decide), (show (-9223372036854775808 : Int) ≤ 0 ∧ (0 : Int) ≤ 9223372036854775807 from by decide), (show (0 : Nat) ≤ maxLen from Nat.zero_le _), ?_, ?_, ?_, ?_⟩
  · show (r.map (fun b => b.2)).length ≤ maxLen
    rw [List.length_map]
    unfold maxLen
    omega
  · show (r.map (fun b => b.1)).length ≤ maxLen
    rw [List.length_map]
    unfold maxLen
    omega
  · intro k hk
    obtain ⟨b, hb, rfl⟩ := List.mem_map.1 hk
    exact (h b hb).2
  · refine (WfL_mem _).2 (fun v hv => ?_)
    obtain ⟨b, hb, rfl⟩ := List.mem_map.1 hv
    exact (h b hb).1
theorem okR_put {r : List (ByteArray × V)} (h : okR r) {key : ByteArray} {u : V} (hk : key.size ≤ maxLen) (hu : Wf u) : okR (putP r key u) := fun b hb => by
  rcases put_mem key u r b hb with rfl | hb
  · exact ⟨hu, hk⟩
  · exact h b hb
theorem okR_zip {ks : List ByteArray} {l : List V} (hk : ∀ k ∈ ks, k.size ≤ maxLen) (hl : WfL l) {r : List (ByteArray × V)} (h : r.Perm (ks.zip l)) : okR r := fun b hb => by
  have := h.mem_iff.1 hb
  exact ⟨(WfL_mem _).1 hl _ (List.of_mem_zip this).2, hk _ (List.of_mem_zip this).1⟩
/-- What a call gives that makes a map out of the pairs r. -/
def GivesM (r : List (ByteArray × V)) (n : Nat) (w : World) (s : Value) (w' : World) : Prop :=
  ∃ M3 m3 M4 m4, s = .agg #[.int .i64 5, .int .i64 0, .string ⟨#[]⟩, .slice M3 n m3, .slice M4 n m4] ∧ Is (.slice M3 n m3) (r.map (fun b => b.2)) w' ∧ Ks (.slice M4 n m4) (r.map (fun b => b.1)) w' ∧ Q w w'
theorem Mapped.ne {ks : List ByteArray} {l : List V} {w : World} {e : Ending} {w' : World} (h : Mapped ks l w e w') (hne : ¬ ks.length = l.length) : e = .returned (.tuple #[.agg #[.int .i64 0, .int .i64 0, .string ⟨#[]⟩, .slice none 0 0, .slice none 0 0], .int .i64 1]) ∧ Q w w' := by
  obtain ⟨q, h⟩ := h
  rw [if_neg hne] at h
  exact ⟨h, q⟩
theorem Mapped.dup {ks : List ByteArray} {l : List V} {w : World} {e : Ending} {w' : World} (h : Mapped ks l w e w') (hlen : ks.length = l.length) (hm : mapP [] (ks.zip l) = none) : e = .returned (.tuple #[.agg #[.int .i64 0, .int .i64 0, .string ⟨#[]⟩, .slice none 0 0, .slice none 0 0], .int .i64 8]) ∧ Q w w' := by
  obtain ⟨q, h⟩ := h
  rw [if_pos hlen, hm] at h
  exact ⟨h, q⟩
theorem Mapped.yes {ks : List ByteArray} {l : List V} {w : World} {e : Ending} {w' : World} (h : Mapped ks l w e w') (hlen : ks.length = l.length) {r : List (ByteArray × V)} (hm : mapP [] (ks.zip l) = some r) {n : Nat} (hn : r.length = n) :
    ∃ M3 m3 M4 m4, e = .returned (.tuple #[.agg #[.int .i64 5, .int .i64 0, .string ⟨#[]⟩, .slice M3 n m3, .slice M4 n m4], .int .i64 0]) ∧ Is (.slice M3 n m3) (r.map (fun b => b.2)) w' ∧ Ks (.slice M4 n m4) (r.map (fun b => b.1)) w' ∧ Q w w' := by
  obtain ⟨q, h⟩ := h
  rw [if_pos hlen, hm] at h
  obtain ⟨s3, s4, rfl, h3, h4⟩ := h
  obtain ⟨M3, m3, rfl, -⟩ := h3.shape
  obtain ⟨M4, m4, rfl, -⟩ := h4.shape
  rw [List.length_map, hn] at h3 h4
  refine ⟨M3, m3, M4, m4, ?_, h3, h4, q⟩
  rw [List.length_map, List.length_map, hn]
theorem mapR_says {ks : List ByteArray} {l : List V} {r : List (ByteArray × V)} (hm : mapP [] (ks.zip l) = some r) (hlen : ks.length = l.length) : asc r ∧ r.Perm (ks.zip l) ∧ r.length = ks.length ∧ nodes (mk5 r) = 1 + nodesL l := by
  have h := map_says (ks.zip l) [] List.Pairwise.nil
  rw [hm] at h
  refine ⟨h.1, h.2, ?_, ?_⟩
  · have := h.2.length_eq
    rw [List.nil_append, List.length_zip] at this
    omega
  · show nodes ⟨5, 0, ⟨#[]⟩, _, _⟩ = _
    rw [nodes]
    have p := h.2.map (fun b => b.2)
    rw [List.nil_append, List.map_snd_zip (by omega)] at p
    rw [nodesL_perm p]
/-- The item of a key, or null. -/
def itP (r : List (ByteArray × V)) (key : ByteArray) : V := (getP r key).getD vN
theorem itP_wf {r : List (ByteArray × V)} (h : okR r) (key : ByteArray) : Wf (itP r key) := by
  unfold itP
  cases hg : getP r key with
  | none => exact wf_leaf 0 0 (by decide) (by decide)
  | some x =>
    have hm : ∀ m : List (ByteArray × V), getP m key = some x → ∃ k, (k, x) ∈ m := by
      intro m
      induction m with
      | nil => intro h; cases h
      | cons b t ih =>
        obtain ⟨a, v⟩ := b
        intro h
        rw [getP] at h
        split at h
        · cases h
          exact ⟨a, List.mem_cons_self⟩
        · obtain ⟨k, hk⟩ := ih h
          exact ⟨k, List.mem_cons_of_mem _ hk⟩
    obtain ⟨k, hk⟩ := hm r hg
    exact (h _ hk).1
/-- Get of the program and of the reference, of a map. -/
def GivesG (Y : V) (O : Bool) (w : World) (e : Ending) (w' : World) : Prop :=
  ∃ T3 t3 T4 t4, e = .returned (.tuple #[.agg #[.int .i64 Y.kind, .int .i64 Y.num, .string Y.str, .slice T3 Y.items.length t3, .slice T4 Y.keys.length t4], .bool O]) ∧ Va Y T3 t3 T4 t4 w' ∧ Q w w'
theorem get5_any {r : List (ByteArray × V)} {n : Nat} (hn : r.length = n) (h0 : chkE (mk5 r) = 0) (hk : okR r) (hs : nodes (mk5 r) ≤ 400) (key : ByteArray) {M3 : Option Addr} {m3 : Nat} {M4 : Option Addr} {m4 : Nat} {w : World} (h3 : Is (.slice M3 n m3) (r.map (fun b => b.2)) w) (h4 : Ks (.slice M4 n m4) (r.map (fun b => b.1)) w) :
    Calls Tryz.prog 29 #[.agg #[.int .i64 5, .int .i64 0, .string ⟨#[]⟩, .slice M3 n m3, .slice M4 n m4], .string key] w (GivesG (itP r key) ((getP r key).isSome) w) := by
  subst hn
  have e1 : (mk5 r).items.length = r.length := List.length_map ..
  have e2 : (mk5 r).keys.length = r.length := List.length_map ..
  have h3' : Is (.slice M3 (mk5 r).items.length m3) (mk5 r).items w := by rw [e1]; exact h3
  have h4' : Ks (.slice M4 (mk5 r).keys.length m4) (mk5 r).keys w := by rw [e2]; exact h4
  have g := get_any (mk5 r) M3 M4 m3 m4 key w h3' h4' (valid_srt h0) (valid_fit h0) (by omega)
  have hg : getV (mk5 r) key = getP r key := by
    unfold getV
    rw [if_pos ⟨rfl, by rw [e1, e2]⟩]
    show getP ((r.map (fun b => b.1)).zip (r.map (fun b => b.2))) key = _
    rw [zip_both]
  rw [hg, e1, e2] at g
  refine g.mono ?_
  rintro e w' ⟨q', h⟩
  unfold itP
  have hw := itP_wf hk key
  unfold itP at hw
  cases hg : getP r key with
  | none =>
    rw [hg] at h hw
    exact ⟨none, 0, none, 0, h, ⟨Is.nil _ _ _, Ks.nil _ _ _, hw⟩, q'⟩
  | some x =>
    rw [hg] at h hw
    obtain ⟨s3, s4, rfl, h3, h4⟩ := h
    obtain ⟨S3, c3, rfl, -⟩ := h3.shape
    obtain ⟨S4, c4, rfl, -⟩ := h4.shape
    exact ⟨S3, c3, S4, c4, rfl, ⟨h3, h4, hw⟩, q'⟩
theorem mk5_va {r : List (ByteArray × V)} {n : Nat} (hn : r.length = n) (hk : okR r) (hb : n ≤ 100000) {M3 : Option Addr} {m3 : Nat} {M4 : Option Addr} {m4 : Nat} {w : World} (h3 : Is (.slice M3 n m3) (r.map (fun b => b.2)) w) (h4 : Ks (.slice M4 n m4) (r.map (fun b => b.1)) w) : Va (mk5 r) M3 m3 M4 m4 w := by
  subst hn
  have e1 : (mk5 r).items.length = r.length := List.length_map ..
  have e2 : (mk5 r).keys.length = r.length := List.length_map ..
  exact ⟨by rw [e1]; exact h3, by rw [e2]; exact h4, mk5_wf hk hb⟩
theorem rget5_any {r : List (ByteArray × V)} {n : Nat} (hn : r.length = n) (hk : okR r) (hb : n ≤ 100000) (key : ByteArray) {M3 : Option Addr} {m3 : Nat} {M4 : Option Addr} {m4 : Nat} {w : World} (h3 : Is (.slice M3 n m3) (r.map (fun b => b.2)) w) (h4 : Ks (.slice M4 n m4) (r.map (fun b => b.1)) w) :
    Calls Tryz.prog 30 #[.agg #[.int .i64 5, .int .i64 0, .string ⟨#[]⟩, .slice M3 n m3, .slice M4 n m4], .string key] w (GivesG (itP r key) ((getP r key).isSome) w) := by
  have g := rget_any (mk5 r) M3 m3 M4 m4 key w (mk5_va hn hk hb h3 h4)
  subst hn
  have e1 : (mk5 r).items.length = r.length := List.length_map ..
  have e2 : (mk5 r).keys.length = r.length := List.length_map ..
  have hg : getR (mk5 r) key = getP r key := by
    unfold getR
    rw [if_pos (show (mk5 r).kind = 5 from rfl)]
    show getP ((r.map (fun b => b.1)).zip (r.map (fun b => b.2))) key = _
    rw [zip_both]
  unfold vv at g
  rw [hg, e1, e2] at g
  refine g.mono ?_
  rintro e w' ⟨q', h⟩
  unfold itP
  have hw := itP_wf hk key
  unfold itP at hw
  cases hg : getP r key with
  | none =>
    rw [hg] at h hw
    exact ⟨none, 0, none, 0, h, ⟨Is.nil _ _ _, Ks.nil _ _ _, hw⟩, q'⟩
  | some x =>
    rw [hg] at h hw
    obtain ⟨A3, k3, A4, k4, rfl, hv⟩ := h
    exact ⟨A3, k3, A4, k4, rfl, hv, q'⟩
/-- Put of the program and of the reference, of a map. -/
def GivesP (p : List (ByteArray × V)) (n : Nat) (w : World) (e : Ending) (w' : World) : Prop :=
  ∃ S3 s3 S4 s4, e = .returned (.agg #[.int .i64 5, .int .i64 0, .string ⟨#[]⟩, .slice S3 n s3, .slice S4 n s4]) ∧ Is (.slice S3 n s3) (p.map (fun b => b.2)) w' ∧ Ks (.slice S4 n s4) (p.map (fun b => b.1)) w' ∧ Q w w'
theorem put5_any {r : List (ByteArray × V)} {n N : Nat} (hn : r.length = n) (h0 : chkE (mk5 r) = 0) (hs : nodes (mk5 r) ≤ 400) (key : ByteArray) (hkz : key.size ≤ 281474976710656) (u : V) (hN : (putP r key u).length = N) (hu0 : chkE u = 0) (hus : nodes u ≤ 400) {M3 : Option Addr} {m3 : Nat} {M4 : Option Addr} {m4 : Nat} {B3 : Option Addr} {l3 : Nat} {B4 : Option Addr} {l4 : Nat} {w : World}
    (h3 : Is (.slice M3 n m3) (r.map (fun b => b.2)) w) (h4 : Ks (.slice M4 n m4) (r.map (fun b => b.1)) w) (hu : Va u B3 l3 B4 l4 w) :
    Calls Tryz.prog 31 #[.agg #[.int .i64 5, .int .i64 0, .string ⟨#[]⟩, .slice M3 n m3, .slice M4 n m4], .string key, .agg #[.int .i64 u.kind, .int .i64 u.num, .string u.str, .slice B3 u.items.length l3, .slice B4 u.keys.length l4]] w (GivesP (putP r key u) N w) := by
  subst hn
  have e1 : (mk5 r).items.length = r.length := List.length_map ..
  have e2 : (mk5 r).keys.length = r.length := List.length_map ..
  have h3' : Is (.slice M3 (mk5 r).items.length m3) (mk5 r).items w := by rw [e1]; exact h3
  have h4' : Ks (.slice M4 (mk5 r).keys.length m4) (mk5 r).keys w := by rw [e2]; exact h4
  have g := putV_any (mk5 r) M3 m3 M4 m4 u B3 l3 B4 l4 key w h3' h4' hu.1 hu.2.1 hkz h0 hu0 hs hus rfl
  have ep : putV (mk5 r) key u = mk5 (putP r key u) := by
    show V.mk 5 0 ⟨#[]⟩ ((putP ((r.map (fun b => b.1)).zip (r.map (fun b => b.2))) key u).map (fun b => b.2)) ((putP ((r.map (fun b => b.1)).zip (r.map (fun b => b.2))) key u).map (fun b => b.1)) = _
    rw [zip_both]
    rfl
  have e3 : (mk5 (putP r key u)).items.length = N := by rw [← hN]; exact List.length_map ..
  rw [ep, e1, e2, e3] at g
  exact g
theorem rput5_any {r : List (ByteArray × V)} {n N : Nat} (hn : r.length = n) (ha : asc r) (hb : n ≤ 100000) (key : ByteArray) (u : V) (hN : (putP r key u).length = N) {M3 : Option Addr} {m3 : Nat} {M4 : Option Addr} {m4 : Nat} {B3 : Option Addr} {l3 : Nat} {B4 : Option Addr} {l4 : Nat} {w : World}
    (h3 : Is (.slice M3 n m3) (r.map (fun b => b.2)) w) (h4 : Ks (.slice M4 n m4) (r.map (fun b => b.1)) w) (hu : Va u B3 l3 B4 l4 w) :
    Calls Tryz.prog 32 #[.agg #[.int .i64 5, .int .i64 0, .string ⟨#[]⟩, .slice M3 n m3, .slice M4 n m4], .string key, .agg #[.int .i64 u.kind, .int .i64 u.num, .string u.str, .slice B3 u.items.length l3, .slice B4 u.keys.length l4]] w (GivesP (putP r key u) N w) := by
  have g := rput_any (fun _ => false) 5 0 ⟨#[]⟩ (r.map (fun b => b.2)) (r.map (fun b => b.1)) M3 m3 M4 m4 key u.kind u.num u.str u.items u.keys B3 l3 B4 l4 n u.items.length u.keys.length w (putP r key u) (by rw [zip_both, ← V.eta]; exact rput_asc key u r ha) (by rw [List.length_map, hn]) (by rw [List.length_map, hn]) (by omega) (fun q hq => by cases hq) h3.eo0 h4.eo0 hu.1.eo0 hu.2.1.eo0
  refine g.mono ?_
  rintro e w' ⟨AI, cI, AK, cK, rfl, g3, g4, q⟩
  rw [hN] at g3 g4 ⊢
  exact ⟨AI, cI, AK, cK, rfl, g3.real, g4.real, q⟩
theorem same_refl (v : V) : sameB false v v = true := (same_eq.1 v v).2 rfl
/-- The reference's Equal of a value and itself. -/
theorem req_self (Y : V) {T3 : Option Addr} {t3 : Nat} {T4 : Option Addr} {t4 : Nat} {U3 : Option Addr} {u3 : Nat} {U4 : Option Addr} {u4 : Nat} {w : World} (h1 : Va Y T3 t3 T4 t4 w) (h2 : Va Y U3 u3 U4 u4 w) :
    Calls Tryz.prog 15 #[.agg #[.int .i64 Y.kind, .int .i64 Y.num, .string Y.str, .slice T3 Y.items.length t3, .slice T4 Y.keys.length t4], .agg #[.int .i64 Y.kind, .int .i64 Y.num, .string Y.str, .slice U3 Y.items.length u3, .slice U4 Y.keys.length u4]] w fun e w' => e = .returned (.bool true) ∧ Q w w' := by
  have g := requal_any Y Y T3 t3 T4 t4 U3 u3 U4 u4 w h1 h2
  rw [same_refl] at g
  exact g
theorem req5_self {r : List (ByteArray × V)} {n : Nat} (hn : r.length = n) (hk : okR r) (hb : n ≤ 100000) {T3 : Option Addr} {t3 : Nat} {T4 : Option Addr} {t4 : Nat} {U3 : Option Addr} {u3 : Nat} {U4 : Option Addr} {u4 : Nat} {w : World} (h3 : Is (.slice T3 n t3) (r.map (fun b => b.2)) w) (h4 : Ks (.slice T4 n t4) (r.map (fun b => b.1)) w) (g3 : Is (.slice U3 n u3) (r.map (fun b => b.2)) w) (g4 : Ks (.slice U4 n u4) (r.map (fun b => b.1)) w) :
    Calls Tryz.prog 15 #[.agg #[.int .i64 5, .int .i64 0, .string ⟨#[]⟩, .slice T3 n t3, .slice T4 n t4], .agg #[.int .i64 5, .int .i64 0, .string ⟨#[]⟩, .slice U3 n u3, .slice U4 n u4]] w fun e w' => e = .returned (.bool true) ∧ Q w w' := by
  have g := req_self (mk5 r) (mk5_va hn hk hb h3 h4) (mk5_va hn hk hb g3 g4)
  subst hn
  have e1 : (mk5 r).items.length = r.length := List.length_map ..
  have e2 : (mk5 r).keys.length = r.length := List.length_map ..
  rw [e1, e2] at g
  exact g
theorem rchk5_any {r : List (ByteArray × V)} {n : Nat} (hn : r.length = n) (hk : okR r) (hb : n ≤ 100000) {T3 : Option Addr} {t3 : Nat} {T4 : Option Addr} {t4 : Nat} {w : World} (h3 : Is (.slice T3 n t3) (r.map (fun b => b.2)) w) (h4 : Ks (.slice T4 n t4) (r.map (fun b => b.1)) w) :
    Calls Tryz.prog 13 #[.agg #[.int .i64 5, .int .i64 0, .string ⟨#[]⟩, .slice T3 n t3, .slice T4 n t4]] w fun e w' => e = .returned (.int .i64 (chkE (mk5 r))) ∧ Q w w' := by
  have g := refCheck_any (mk5 r) T3 t3 T4 t4 w (mk5_va hn hk hb h3 h4)
  subst hn
  have e1 : (mk5 r).items.length = r.length := List.length_map ..
  have e2 : (mk5 r).keys.length = r.length := List.length_map ..
  unfold vv at g
  rw [e1, e2] at g
  exact g
theorem reqZ (w : World) : Calls Tryz.prog 15 #[.agg #[.int .i64 0, .int .i64 0, .string ⟨#[]⟩, .slice none 0 0, .slice none 0 0], .agg #[.int .i64 0, .int .i64 0, .string ⟨#[]⟩, .slice none 0 0, .slice none 0 0]] w fun e w' => e = .returned (.bool true) ∧ Q w w' :=
  req_self ⟨0, 0, ⟨#[]⟩, [], []⟩ (T3 := none) (t3 := 0) (T4 := none) (t4 := 0) (U3 := none) (u3 := 0) (U4 := none) (u4 := 0) ⟨Is.nil _ _ _, Ks.nil _ _ _, wf_leaf 0 0 (by decide) (by decide)⟩ ⟨Is.nil _ _ _, Ks.nil _ _ _, wf_leaf 0 0 (by decide) (by decide)⟩

end Go.Proofs.YtjmchjphdfbhiaaGreatDoor.val
