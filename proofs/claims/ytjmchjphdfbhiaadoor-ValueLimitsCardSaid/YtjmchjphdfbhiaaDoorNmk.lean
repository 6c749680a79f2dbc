/- Rows of nulls and strings of zeros as make makes them; the example of one key. -/
import Derived.Test.YtjmchjphdfbhiaaDoorNge
import Derived.Deep.OwnRows
import Derived.Laws.MakeOwn
import Derived.Laws.IdiomStrings
namespace Go.Proofs.YtjmchjphdfbhiaaDoor.val
open Go.RowKit
open Go.Proofs.YtjmchjphdfbhiaaDoor
open Go.Proofs.YtjmchjphdfbhiaaDoor.val.cp (Fit FitL Fit_iff FitL_cons FitL_nil FitL_mem)
def z5 : Array Value := #[.int .i64 0, .int .i64 0, .string ⟨#[]⟩, .slice none 0 0, .slice none 0 0]
theorem info_val5 : (Tryd.prog.info? 28).map (fun i => (i.zero, i.size, i.bytes)) = some (some (.agg z5), 5, 80) := by kernel_rfl
theorem info_u8 : (Tryd.prog.info? 5).map (fun i => (i.zero, i.size, i.bytes)) = some (some (.int .u8 0), 1, 1) := by kernel_rfl
theorem make_vals (q : Nat) (hq : q ≤ 100000) (w : World) :
    (Instr.makeSlice 25 (.int .u16 (q : Int)) (.int .u16 (q : Int))).run Tryd.prog w = .ok (.slice (some ⟨w.heap.size, 0, none⟩) q q) (w.alloc (.cells (madeCells z5 (q * 5)) 28)) := by
  obtain ⟨i, hi, hzz⟩ := Option.map_eq_some_iff.1 info_val5
  simp only [Prod.mk.injEq] at hzz
  obtain ⟨hz, hs, hb⟩ := hzz
  have h := run_make w 25 28 i (.agg z5) Tryd.underlying25 hi hz .u16 .u16 q q (by omega) (by omega) (by rw [hb]; omega) (by omega)
  rw [hs, show (Value.agg z5).cells = z5 from rfl] at h
  simpa using h
theorem make_bytes (q : Nat) (hq : q ≤ 100000) (w : World) :
    (Instr.makeSlice 33 (.int .u16 (q : Int)) (.int .u16 (q : Int))).run Tryd.prog w = .ok (.slice (some ⟨w.heap.size, 0, none⟩) q q) (w.alloc (.cells (madeCells #[.int .u8 0] q) 5)) :=
  run_make_row' 33 5 (.int .u8 0) 1 Tryd.underlying33 info_u8 rfl .u16 .u16 q (by omega) (by omega) w
theorem made_at (z : Array Value) (n j : Nat) (h : j < n) : (madeCells z n)[j]? = some (z[j % z.size]!) := by
  simp [madeCells, h]
/-- The row of nulls. -/
theorem nulls_row (q : Nat) (w : World) (D : Nat) (t : TypeId) (h : Bk D (madeCells z5 (q * 5)) t w) : Is (.slice (some ⟨D, 0, none⟩) q q) (List.replicate q vN) w := by
  refine ⟨_, q, by rw [List.length_replicate], by rw [List.length_replicate]; exact Nat.le_refl _, fun _ => ⟨D, 0, rfl, VL.of_at _ _ _ _ fun i hi => ?_⟩⟩
  have hi' : i < q := by rw [List.length_replicate] at hi; exact hi
  have e : (List.replicate q vN)[i] = vN := List.getElem_replicate ..
  rw [e]
  have g : ∀ t, t < 5 → w.cell? ⟨D, i * 5 + t, none⟩ = some (z5[t]!) := fun t ht => by
    rw [h.c, made_at _ _ _ (by omega), show (i * 5 + t) % z5.size = t from by show (i * 5 + t) % 5 = t; omega]
  refine ⟨.slice none 0 0, .slice none 0 0, ⟨?_, ?_, ?_, ?_, ?_, Is.nil _ _ _, Ks.nil _ _ _⟩⟩
  · rw [Nat.zero_add]; exact g 0 (by decide)
  · rw [Nat.zero_add]; exact g 1 (by decide)
  · rw [Nat.zero_add]; exact g 2 (by decide)
  · rw [Nat.zero_add]; exact g 3 (by decide)
  · rw [Nat.zero_add]; exact g 4 (by decide)
def zS (r : Nat) : ByteArray := ⟨(List.replicate r (0 : UInt8)).toArray⟩
theorem zS_size (r : Nat) : (zS r).size = r := by
  show (List.replicate r (0 : UInt8)).toArray.size = r
  simp
theorem zS_valid : ∀ r, Lib.validD (List.replicate r (0 : UInt8)) = true
  | 0 => rfl
  | r + 1 => by rw [List.replicate_succ, Lib.validD_cons _ _ (by decide), zS_valid r]
theorem zS_text (r : Nat) : textE (zS r) = if 4096 < r then 3 else 0 := by
  unfold textE
  rw [zS_size]
  have h : Lib.validD (zS r).data.toList = true := by
    show Lib.validD (List.replicate r (0 : UInt8)).toArray.toList = true
    simpa using zS_valid r
  rw [h]
  simp
/-- The bytes read back as a string. -/
theorem bytes_text (r : Nat) (w : World) (D : Nat) (t : TypeId) (h : Bk D (madeCells #[.int .u8 0] r) t w) : (convert 33 9 (.slice (some ⟨D, 0, none⟩) r r)).run Tryd.prog w = .ok (.string (zS r)) w := by
  have g := run_convert_bytes_back (P := Tryd.prog) w 33 9 5 ⟨D, 0, none⟩ r (List.replicate r (0 : UInt8)) Tryd.underlying33 Tryd.underlying5 Tryd.underlying9 (fun j hj => by
    have hj' : j < r := by simpa using hj
    have e : (List.replicate r (0 : UInt8))[j] = 0 := List.getElem_replicate ..
    rw [e]
    have c := h.c j
    rw [made_at _ _ _ hj'] at c
    have c' : w.cell? ⟨D, j, none⟩ = some (.int .u8 0) := by simpa [Nat.mod_one] using c
    by_cases h0 : j = 0
    · subst h0
      simpa [Addr.add] using c'
    · simpa [Addr.add, h0] using c')
  rw [List.length_replicate] at g
  exact g
/-- A nest in a row of its own. -/
theorem nest_row {k D p : Nat} {A B : Option Addr} {c d : Nat} {t : TypeId} {w : World} (hD : Bk D #[.int .i64 (nest k).kind, .int .i64 0, .string ⟨#[]⟩, .slice A (nest k).items.length c, .slice B 0 d] t w) (hne : D ≠ p) (hI : Is (.slice A (nest k).items.length c) (nest k).items (er p w)) :
    Is (.slice (some ⟨D, 0, none⟩) 1 1) [nest k] (er p w) := by
  have hE : Bk D #[.int .i64 (nest k).kind, .int .i64 0, .string ⟨#[]⟩, .slice A (nest k).items.length c, .slice B 0 d] t (er p w) := (er_other hne).trans hD
  refine ⟨_, 1, rfl, Nat.le_refl _, fun _ => ⟨D, 0, rfl, ?_⟩⟩
  rw [VL_cons]
  have hv := Vi.of (v := nest k) (c4 := .slice B 0 d) hI (by rw [nest_keys]; exact Ks.nil _ _ _)
  rw [nest_num, nest_str] at hv
  exact ⟨⟨_, _, _, _, _, hE.at 0 _ rfl, hE.at 1 _ rfl, hE.at 2 _ rfl, hE.at 3 _ rfl, hE.at 4 _ rfl, hv⟩, VL_nil _ _ _⟩
theorem nulls_wf (q : Nat) (h : q ≤ 100000) : Wf ⟨4, 0, ⟨#[]⟩, List.replicate q vN, []⟩ :=
  (Wf_iff _).2 ⟨(show (-9223372036854775808 : Int) ≤ 4 ∧ (4 : Int) ≤ 9223372036854775807 from by decide), (show (-9223372036854775808 : Int) ≤ 0 ∧ (0 : Int) ≤ 9223372036854775807 from by decide), Nat.zero_le _, (by show (List.replicate q vN).length ≤ maxLen; rw [List.length_replicate]; unfold maxLen; omega), Nat.zero_le _, (fun x hx => absurd hx (List.not_mem_nil)), (WfL_mem _).2 (fun x hx => by rw [(List.mem_replicate.1 hx).2]; exact wf_leaf 0 0 (by decide) (by decide))⟩
theorem nulls_fit (q : Nat) (h : q ≤ 100000) : Fit ⟨4, 0, ⟨#[]⟩, List.replicate q vN, []⟩ :=
  (Fit_iff _).2 ⟨Nat.zero_le _, (fun x hx => absurd hx (List.not_mem_nil)), (by show (List.replicate q vN).length ≤ 1000000; rw [List.length_replicate]; omega), Nat.zero_le _, (FitL_mem _).2 (fun x hx => by rw [(List.mem_replicate.1 hx).2]; exact fit_leaf 0 0)⟩
theorem key_wf (s : ByteArray) (h : s.size ≤ 100000) : Wf ⟨5, 0, ⟨#[]⟩, [vN], [s]⟩ :=
  (Wf_iff _).2 ⟨(show (-9223372036854775808 : Int) ≤ 5 ∧ (5 : Int) ≤ 9223372036854775807 from by decide), (show (-9223372036854775808 : Int) ≤ 0 ∧ (0 : Int) ≤ 9223372036854775807 from by decide), Nat.zero_le _, (show 1 ≤ maxLen from by decide), (show 1 ≤ maxLen from by decide), (fun x hx => by rw [List.mem_singleton.1 hx]; unfold maxLen; omega), (WfL_cons _ _).2 ⟨wf_leaf 0 0 (by decide) (by decide), WfL_nil⟩⟩
theorem str_wf (s : ByteArray) (h : s.size ≤ 100000) : Wf ⟨3, 0, s, [], []⟩ :=
  (Wf_iff _).2 ⟨(show (-9223372036854775808 : Int) ≤ 3 ∧ (3 : Int) ≤ 9223372036854775807 from by decide), (show (-9223372036854775808 : Int) ≤ 0 ∧ (0 : Int) ≤ 9223372036854775807 from by decide), (show s.size ≤ maxLen from by unfold maxLen; omega), Nat.zero_le _, Nat.zero_le _, (fun x hx => absurd hx (List.not_mem_nil)), WfL_nil⟩

end Go.Proofs.YtjmchjphdfbhiaaDoor.val
