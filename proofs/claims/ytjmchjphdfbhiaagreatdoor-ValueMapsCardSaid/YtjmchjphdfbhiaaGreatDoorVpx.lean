/- What Put gives, as a value. -/
import Derived.Test.YtjmchjphdfbhiaaGreatDoorVpu
import Derived.Test.YtjmchjphdfbhiaaGreatDoorWva
import Derived.Test.YtjmchjphdfbhiaaGreatDoorWfi
import Derived.Test.YtjmchjphdfbhiaaGreatDoorWfx
namespace Go.Proofs.YtjmchjphdfbhiaaGreatDoor.val
open Go.RowKit
open Go.Proofs.YtjmchjphdfbhiaaGreatDoor
open Go.Proofs.YtjmchjphdfbhiaaGreatDoor.val.cp (Fit FitL Fit_iff FitL_mem)
theorem zip_both {α β : Type} : ∀ l : List (α × β), (l.map (fun b => b.1)).zip (l.map (fun b => b.2)) = l
  | [] => rfl
  | (a, b) :: t => by
    rw [List.map_cons, List.map_cons, List.zip_cons_cons, zip_both t]
/-- The map with the item. -/
def putV (m : V) (key : ByteArray) (x : V) : V := ⟨5, 0, ⟨#[]⟩, (putP (m.keys.zip m.items) key x).map (fun b => b.2), (putP (m.keys.zip m.items) key x).map (fun b => b.1)⟩
theorem putV_len (m : V) (key : ByteArray) (x : V) : (putV m key x).keys.length = (putV m key x).items.length := by
  show (List.map _ _).length = (List.map _ _).length
  rw [List.length_map, List.length_map]
theorem putV_zip (m : V) (key : ByteArray) (x : V) : (putV m key x).keys.zip (putV m key x).items = putP (m.keys.zip m.items) key x := zip_both _
theorem getV_put_same (m : V) (key : ByteArray) (x : V) : getV (putV m key x) key = some x := by
  unfold getV
  rw [if_pos ⟨rfl, putV_len m key x⟩, putV_zip, get_put_same]
theorem getV_put_other (m : V) (key o : ByteArray) (x : V) (ho : o ≠ key) (h5 : m.kind = 5) (hl : m.keys.length = m.items.length) : getV (putV m key x) o = getV m o := by
  unfold getV
  rw [if_pos ⟨rfl, putV_len m key x⟩, putV_zip, get_put_other key o x ho, if_pos ⟨h5, hl⟩]
theorem asc_zip : ∀ (ks : List ByteArray) (l : List V), srt ks → asc (ks.zip l)
  | [], l, _ => by rw [List.zip_nil_left]; exact List.Pairwise.nil
  | k :: t, [], _ => by rw [List.zip_nil_right]; exact List.Pairwise.nil
  | k :: t, v :: r, h => by
    obtain ⟨h1, h2⟩ := List.pairwise_cons.1 h
    rw [List.zip_cons_cons]
    exact (asc_cons _ _).2 ⟨fun b hb => h1 b.1 (List.of_mem_zip hb).1, asc_zip t r h2⟩
theorem srt_fst (m : List (ByteArray × V)) (h : asc m) : srt (m.map (fun b => b.1)) := by
  unfold srt
  rw [List.pairwise_map]
  exact h
theorem putV_srt (m : V) (key : ByteArray) (x : V) (h : srt m.keys) : srt (putV m key x).keys := srt_fst _ (put_asc key x _ (asc_zip _ _ h))
theorem putV_keys (m : V) (key : ByteArray) (x : V) (h : srt m.keys) (h5 : m.kind = 5) (hl : m.keys.length = m.items.length) : (putV m key x).keys.length = m.keys.length + (if (getV m key).isSome then 0 else 1) := by
  show (List.map _ _).length = _
  rw [List.length_map, put_len key x _ (asc_zip _ _ h)]
  have e : getV m key = getP (m.keys.zip m.items) key := by unfold getV; exact if_pos ⟨h5, hl⟩
  rw [e, List.length_zip, ← hl, Nat.min_self]
theorem nodesL_put (k : ByteArray) (x : V) : ∀ m : List (ByteArray × V), nodesL ((putP m k x).map (fun b => b.2)) ≤ nodesL (m.map (fun b => b.2)) + nodes x
  | [] => by
    rw [putP]
    simp only [List.map_cons, List.map_nil, nodesL]
    omega
  | (a, v) :: t => by
    have ih := nodesL_put k x t
    rw [putP]
    split
    · simp only [List.map_cons, nodesL]
      omega
    split
    · simp only [List.map_cons, nodesL]
      omega
    · simp only [List.map_cons, nodesL]
      omega
theorem putV_nodes (m : V) (key : ByteArray) (x : V) (hl : m.keys.length = m.items.length) : nodes (putV m key x) ≤ nodes m + nodes x := by
  have h := nodesL_put key x (m.keys.zip m.items)
  rw [List.map_snd_zip (by omega)] at h
  have h2 : nodes m = 1 + nodesL m.items := by
    cases m
    rw [nodes]
    rfl
  show nodes ⟨5, 0, ⟨#[]⟩, _, _⟩ ≤ _
  rw [nodes]
  omega
theorem putV_fit (m : V) (key : ByteArray) (x : V) (hm : Fit m) (hx : Fit x) (hk : key.size ≤ 281474976710656) (hn : m.items.length ≤ 100000) (hl : m.keys.length = m.items.length) : Fit (putV m key x) := by
  have hm' := (Fit_iff m).1 hm
  have hlen : (putP (m.keys.zip m.items) key x).length ≤ m.items.length + 1 := by
    have : ∀ q : List (ByteArray × V), (putP q key x).length ≤ q.length + 1 := by
      intro q
      induction q with
      | nil => exact Nat.le_refl _
      | cons a t ih =>
        obtain ⟨a, v⟩ := a
        rw [putP]
        split
        · simp only [List.length_cons]; omega
        split
        · simp only [List.length_cons]; omega
        · simp only [List.length_cons]; omega
    have h := this (m.keys.zip m.items)
    rw [List.length_zip, hl, Nat.min_self] at h
    exact h
  refine (Fit_iff _).2 ⟨Nat.zero_le _, fun k hk' => ?_, ?_, ?_, (FitL_mem _).2 fun v hv => ?_⟩
  · obtain ⟨b, hb, rfl⟩ := List.mem_map.1 hk'
    rcases put_mem key x _ b hb with rfl | hb
    · exact hk
    · exact hm'.2.1 _ (List.of_mem_zip hb).1
  · show (List.map _ _).length ≤ _
    rw [List.length_map]
    omega
  · show (List.map _ _).length ≤ _
    rw [List.length_map]
    omega
  · obtain ⟨b, hb, rfl⟩ := List.mem_map.1 hv
    rcases put_mem key x _ b hb with rfl | hb
    · exact hx
    · exact (FitL_mem _).1 hm'.2.2.2.2 _ (List.of_mem_zip hb).2
theorem len_nodesL : ∀ l : List V, l.length ≤ nodesL l
  | [] => Nat.zero_le _
  | v :: t => by
    have h := len_nodesL t
    have h1 : 1 ≤ nodes v := by cases v; rw [nodes]; omega
    rw [List.length_cons, nodesL]
    omega
/-- Put of the program, of valid values. -/
theorem putV_any (m : V) (A3 : Option Addr) (k3 : Nat) (A4 : Option Addr) (k4 : Nat) (x : V) (B3 : Option Addr) (l3 : Nat) (B4 : Option Addr) (l4 : Nat) (key : ByteArray) (w : World) (h3 : Is (.slice A3 m.items.length k3) m.items w) (h4 : Ks (.slice A4 m.keys.length k4) m.keys w) (hx3 : Is (.slice B3 x.items.length l3) x.items w) (hx4 : Ks (.slice B4 x.keys.length l4) x.keys w)
    (hkz : key.size ≤ 281474976710656) (cm : chkE m = 0) (cx : chkE x = 0) (nm : nodes m ≤ 400) (nx : nodes x ≤ 400) (h5 : m.kind = 5) :
    Calls Tryz.prog 31 #[.agg #[.int .i64 m.kind, .int .i64 m.num, .string m.str, .slice A3 m.items.length k3, .slice A4 m.keys.length k4], .string key, .agg #[.int .i64 x.kind, .int .i64 x.num, .string x.str, .slice B3 x.items.length l3, .slice B4 x.keys.length l4]] w fun e w' =>
      ∃ S3 s3 S4 s4, e = .returned (.agg #[.int .i64 5, .int .i64 0, .string ⟨#[]⟩, .slice S3 (putV m key x).items.length s3, .slice S4 (putV m key x).items.length s4]) ∧ Is (.slice S3 (putV m key x).items.length s3) (putV m key x).items w' ∧ Ks (.slice S4 (putV m key x).items.length s4) (putV m key x).keys w' ∧ Q w w' := by
  obtain ⟨mk, mn, ms, l, ks⟩ := m
  have hl : ks.length = l.length := (valid_shape cm).2.1 h5
  have hnm : nodesL l ≤ 400 := by rw [nodes] at nm; omega
  have hll := len_nodesL l
  have hf := (Fit_iff _).1 (valid_fit cm)
  refine (put_any mk mn ms ks l key x A3 A4 B3 B4 k3 k4 l3 l4 w h3 h4 hx3 hx4 (fun _ _ => valid_srt cm) hf.2.2.2.2 hf.2.1 (valid_fit cx) hkz (by omega) (by omega) (by omega)).mono ?_
  rintro e w' ⟨q, h⟩
  rw [if_pos ⟨h5, hl⟩] at h
  obtain ⟨s3, s4, rfl, g3, g4⟩ := h
  obtain ⟨S3, c3, rfl, -⟩ := g3.shape
  obtain ⟨S4, c4, rfl, -⟩ := g4.shape
  have e4 : (putV ⟨mk, mn, ms, l, ks⟩ key x).keys.length = (putV ⟨mk, mn, ms, l, ks⟩ key x).items.length := putV_len _ _ _
  refine ⟨S3, c3, S4, c4, ?_, g3, ?_, q⟩
  · show Ending.returned (.agg #[.int .i64 5, .int .i64 0, .string ⟨#[]⟩, .slice S3 (putV ⟨mk, mn, ms, l, ks⟩ key x).items.length c3, .slice S4 (putV ⟨mk, mn, ms, l, ks⟩ key x).keys.length c4]) = _
    rw [e4]
  · rw [← e4]
    exact g4
end Go.Proofs.YtjmchjphdfbhiaaGreatDoor.val
