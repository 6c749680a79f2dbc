/- Steps in memory; Check. -/
import Derived.Test.YthekabflbpfjoaaGreatDoorAvam
namespace Go.Proofs.YthekabflbpfjoaaGreatDoor.adr
open Go.RowKit
open Go.Proofs.YthekabflbpfjoaaGreatDoor

/-- Steps that lie behind an address and are not written. -/
def In (A : Option Addr) (ms : List St) (w : World) : Prop :=
  ms ≠ [] → ∃ b o, A = some ⟨b, o, none⟩ ∧ b < w.heap.size ∧ ∀ (i : Nat) (h : i < ms.length), w.cell? ⟨b, o + i * 4, none⟩ = some (.string ms[i].name) ∧ w.cell? ⟨b, o + i * 4 + 1, none⟩ = some (.int .i64 ms[i].key.kind) ∧
    w.cell? ⟨b, o + i * 4 + 2, none⟩ = some (.int .i64 ms[i].key.num) ∧ w.cell? ⟨b, o + i * 4 + 3, none⟩ = some (.string ms[i].key.str)
theorem In.stays {A : Option Addr} {ms : List St} {w w' : World} (h : In A ms w) (q : Q w w') : In A ms w' := fun hn => by
  obtain ⟨b, o, e, hb, hc⟩ := h hn
  refine ⟨b, o, e, Nat.lt_of_lt_of_le hb q.size, fun i hi => ?_⟩
  rw [Below.cell q (p := ⟨b, o + i * 4, none⟩) hb, Below.cell q (p := ⟨b, o + i * 4 + 1, none⟩) hb, Below.cell q (p := ⟨b, o + i * 4 + 2, none⟩) hb, Below.cell q (p := ⟨b, o + i * 4 + 3, none⟩) hb]
  exact hc i hi
theorem In.nil (A : Option Addr) (w : World) : In A [] w := fun h => absurd rfl h
theorem stCells_at : ∀ (ms : List St) (i : Nat) (h : i < ms.length), (stCells ms)[i * 4]? = some (.string ms[i].name) ∧ (stCells ms)[i * 4 + 1]? = some (.int .i64 ms[i].key.kind) ∧ (stCells ms)[i * 4 + 2]? = some (.int .i64 ms[i].key.num) ∧ (stCells ms)[i * 4 + 3]? = some (.string ms[i].key.str)
  | [], i, h => absurd h (Nat.not_lt_zero _)
  | s :: t, 0, _ => ⟨rfl, rfl, rfl, rfl⟩
  | s :: t, i + 1, h => by
    have ih := stCells_at t i (by simpa using h)
    have e : (i + 1) * 4 = i * 4 + 1 + 1 + 1 + 1 := by omega
    rw [e]
    exact ih
theorem Sr.in {B : Nat} {A : Option Addr} {n c : Nat} {ms : List St} {w : World} (h : Sr B (.slice A n c) ms w) : In A ms w := fun hne => by
  rcases h.2 with ⟨_, h2⟩ | ⟨g, cap, cur, hv, _, hc, _, _, _, ht⟩
  · exact absurd (List.eq_nil_of_length_eq_zero h2) hne
  · simp only [Value.slice.injEq] at hv
    obtain ⟨rfl, _, _⟩ := hv
    have hb := heap_lt hc
    refine ⟨g, 0, rfl, hb, fun i hi => ?_⟩
    have hat : ∀ j v, (stCells ms)[j]? = some v → w.cell? ⟨g, 0 + j, none⟩ = some v := fun j v hj => by
      unfold World.cell?
      simp only [hc]
      rw [Nat.zero_add, ← ht, List.getElem?_take] at *
      split at hj
      · simpa using hj
      · cases hj
    obtain ⟨h0, h1, h2, h3⟩ := stCells_at ms i hi
    exact ⟨hat _ _ h0, hat _ _ h1, hat _ _ h2, hat _ _ h3⟩
theorem Sr.len {B : Nat} {A : Option Addr} {n c : Nat} {ms : List St} {w : World} (h : Sr B (.slice A n c) ms w) : n = ms.length := by
  obtain ⟨a, c', e⟩ := h.shape
  simp only [Value.slice.injEq] at e
  exact e.2.1

/-- What the fields of an address are bounded by. -/
structure Ab (ms : List St) (r : Rs) : Prop where
  steps : ∀ s ∈ ms, s.name.size ≤ 1000000 ∧ Kb s.key
  type : r.type.size ≤ 1000000
  name : r.name.size ≤ 1000000
  key : Kb r.key
theorem okK_Kb {k : K} (h : okK k = true) : Kb k := by
  rcases okK_cases k h with rfl | ⟨h1, h2, h3, h4⟩ | ⟨h1, h2, h3⟩
  · exact ⟨by decide, by decide, by decide⟩
  · exact ⟨by omega, by omega, by rw [h4]; decide⟩
  · have := ((okS_iff _).1 h3).1
    exact ⟨by omega, by omega, by rw [Lib.size_eq]; omega⟩
theorem chkN_ok {n : ByteArray} {k : K} (h : chkN n k = 0) : isId n.data.toList = true ∧ okK k = true := by
  unfold chkN at h
  split at h
  · cases h
  rename_i h1
  split at h
  · cases h
  rename_i h2
  exact ⟨by rwa [Bool.not_eq_false] at h1, by rwa [Bool.not_eq_false] at h2⟩
theorem id_size {n : ByteArray} (h : isId n.data.toList = true) : n.size ≤ 64 := by
  rw [Lib.size_eq]
  exact ((isId_iff _).1 h).2.1
theorem chkS_mem : ∀ (ms : List St), chkS ms = 0 → ∀ s ∈ ms, chkN s.name s.key = 0
  | [], _, s, hs => by cases hs
  | a :: t, h, s, hs => by
    obtain ⟨h1, h2⟩ := (chkS_cons a t).1 h
    rcases List.mem_cons.1 hs with rfl | hs
    · exact h1
    · exact chkS_mem t h2 s hs
theorem chkR_ok {r : Rs} (h : chkR r = 0) : isTy r.type.data.toList = true ∧ chkN r.name r.key = 0 := by
  unfold chkR at h
  split at h
  · cases h
  · rename_i hx
    exact ⟨by rwa [Bool.not_eq_false] at hx, h⟩
theorem Ab.of {ms : List St} {r : Rs} (hs : chkS ms = 0) (hr : chkR r = 0) : Ab ms r := by
  obtain ⟨t1, t2⟩ := chkR_ok hr
  obtain ⟨n1, n2⟩ := chkN_ok t2
  refine ⟨fun s h => ?_, by have := id_size (isTy_id t1); omega, by have := id_size n1; omega, okK_Kb n2⟩
  obtain ⟨m1, m2⟩ := chkN_ok (chkS_mem ms hs s h)
  exact ⟨by have := id_size m1; omega, okK_Kb m2⟩
theorem Ab.zero : Ab [] Rs.zero := ⟨(fun s h => by cases h), by decide, by decide, ⟨by decide, by decide, by decide⟩⟩

theorem chkS_drop (ms : List St) (k : Nat) (h : k < ms.length) : chkS (ms.drop k) = if chkN ms[k].name ms[k].key = 0 then chkS (ms.drop (k + 1)) else chkN ms[k].name ms[k].key := by
  rw [List.drop_eq_getElem_cons h]
  rfl

set_option maxHeartbeats 8000000 in
theorem check_any (A : Option Addr) (n c : Nat) (ms : List St) (r : Rs) (w : World) (f : Fa w) (hn : n = ms.length) (hI : In A ms w) (hb : Ab ms r) (hlim : ms.length ≤ maxLen) :
    Calls Tryz.prog 9 #[rv (.slice A n c) r] w fun e w' => e = .returned (.int .i64 (chk ⟨ms, r⟩)) ∧ Q w w' := by
  unfold maxLen at hlim
  obtain ⟨d, ty, nm, ⟨kd, m, t⟩⟩ := r
  have cT := Lib.hid (fun w' => type_any ty w' hb.type)
  have cN : Hid (∀ w', Q w w' → Calls Tryz.prog 26 #[.string nm, .agg #[.int .i64 kd, .int .i64 m, .string t]] w' fun e w'' => e = .returned (.int .i64 (chkN nm ⟨kd, m, t⟩)) ∧ Q w' w'') := fun w' q => checkNamed_any nm ⟨kd, m, t⟩ w' (q.fa f) hb.name hb.key
  have cS : Hid (∀ (i : Nat) (h : i < ms.length) w', Q w w' → Calls Tryz.prog 26 #[.string ms[i].name, .agg #[.int .i64 ms[i].key.kind, .int .i64 ms[i].key.num, .string ms[i].key.str]] w' fun e w'' => e = .returned (.int .i64 (chkN ms[i].name ms[i].key)) ∧ Q w' w'') := fun i h w' q => checkNamed_any ms[i].name ms[i].key w' (q.fa f) (hb.steps _ (List.getElem_mem h)).1 (hb.steps _ (List.getElem_mem h)).2
  have HI := Lib.hid hI
  clear f hI hb
  unfold rv
  simp only
  have hch : chk ⟨ms, ⟨d, ty, nm, ⟨kd, m, t⟩⟩⟩ = if 16 < n then 4 else if chkS ms = 0 then (if isTy ty.data.toList = false then 7 else chkN nm ⟨kd, m, t⟩) else chkS ms := by rw [hn]; rfl
  rw [hch]
  clear hch
  generalize isTy ty.data.toList = TY at *
  generalize chkN nm ⟨kd, m, t⟩ = CN at *
  have HN := Lib.hid hn
  by_cases h16 : 16 < n
  · rw [if_pos h16]
    have h16' : 16 < (n : Int) := by omega
    clear hn HN h16 hlim
    go_enter Tryz.func9, Tryz.ntmps9
    go_wp2_with fail
    go_ret
    exact ⟨rfl, Q.alloc _ _⟩
  · rw [if_neg h16]
    have h16' : (n : Int) ≤ 16 := by omega
    clear hn h16 hlim
    obtain ⟨ANS, hANS⟩ : ∃ z, chkS ms = z := ⟨_, rfl⟩
    rw [hANS]
    have H0 := Lib.hid hANS
    clear hANS
    go_enter Tryz.func9, Tryz.ntmps9
    go_wp2_with fail
    have BB := Lib.hid (Bk.new #[.slice A n c, .bool d, .string ty, .string nm, .int .i64 kd, .int .i64 m, .string t] 27 w)
    have Q1 := Lib.hid (Q.alloc w (.cells #[.slice A n c, .bool d, .string ty, .string nm, .int .i64 kd, .int .i64 m, .string t] 27))
    generalize w.alloc (.cells #[.slice A n c, .bool d, .string ty, .string nm, .int .i64 kd, .int .i64 m, .string t] 27) = w1 at *
    go_loopw [13] (fun i wr => ∃ k : Nat, k ≤ n ∧ i = .int .i64 k ∧ Hid (Q w wr) ∧ Hid (Bk w.heap.size #[.slice A n c, .bool d, .string ty, .string nm, .int .i64 kd, .int .i64 m, .string t] 27 wr) ∧ Hid (chkS (ms.drop k) = ANS)) (fun i _ => n - (intOf i).toNat)
    case atStart => exact ⟨0, Nat.zero_le _, rfl, Q1, BB, H0⟩
    case round =>
      clear BB Q1 H0
      obtain ⟨k, hk, rfl, QQ, BB, HS⟩ := hrel
      by_cases hlt : k < n
      · have hlt2 : k < ms.length := by rw [← HN.out]; exact hlt
        obtain ⟨b, o, rfl, hbb, hcc⟩ := HI.out (by intro e; rw [e] at hlt2; cases hlt2)
        have hc2 := (HI.out.stays QQ.out) (by intro e; rw [e] at hlt2; cases hlt2)
        obtain ⟨b', o', e', _, hcc'⟩ := hc2
        simp only [Option.some.injEq, Addr.mk.injEq, and_true] at e'
        obtain ⟨rfl, rfl⟩ := e'
        obtain ⟨g0, g1, g2, g3⟩ := hcc' k hlt2
        have cK := Lib.hid (cS.out k hlt2)
        have hst := chkS_drop ms k hlt2
        clear hbb hcc hcc'
        generalize ms[k].name = sn at *
        generalize ms[k].key = sk at *
        obtain ⟨skd, sm, st⟩ := sk
        simp only at g1 g2 g3 cK
        have hz := HS.out
        rw [hst] at hz
        clear hst HS cS cT cN
        generalize chkN sn ⟨skd, sm, st⟩ = E at *
        by_cases hE : E = 0
        · rw [if_pos hE] at hz
          subst hE
          have HZ := Lib.hid hz
          clear hz
          go_wp2_with fail
          refine (cK.out (wr.alloc (.cells #[.string sn, .int .i64 skd, .int .i64 sm, .string st] 44)) (QQ.out.trans (Q.alloc _ _))).mono ?_; rintro e w4 ⟨rfl, q4⟩
          have Q4 := Lib.hid ((QQ.out.trans (Q.alloc wr (.cells #[.string sn, .int .i64 skd, .int .i64 sm, .string st] 44))).trans q4)
          have B4 := Lib.hid ((BB.out.stays (Q.alloc wr (.cells #[.string sn, .int .i64 skd, .int .i64 sm, .string st] 44))).stays q4)
          clear q4 QQ BB cK
          go_wp2_with fail
          go_roundw
          case rel => exact ⟨k + 1, hlt, by go_num, Q4, B4, HZ⟩
          case measure => simp [intOf]; omega
        · rw [if_neg hE] at hz
          subst hz
          have hE' : (E != 0) = true := by simpa using hE
          have HE := Lib.hid hE
          clear hE
          go_wp2_with fail
          refine (cK.out (wr.alloc (.cells #[.string sn, .int .i64 skd, .int .i64 sm, .string st] 44)) (QQ.out.trans (Q.alloc _ _))).mono ?_; rintro e w4 ⟨rfl, q4⟩
          have Q4 := Lib.hid ((QQ.out.trans (Q.alloc wr (.cells #[.string sn, .int .i64 skd, .int .i64 sm, .string st] 44))).trans q4)
          have B4 := Lib.hid ((BB.out.stays (Q.alloc wr (.cells #[.string sn, .int .i64 skd, .int .i64 sm, .string st] 44))).stays q4)
          clear q4 QQ BB cK
          go_wp2_with fail
          go_ret
          first | exact ⟨rfl, Q4.out⟩ | exact ⟨by rw [if_neg HE.out]; rfl, Q4.out⟩
      · obtain rfl : n = k := by omega
        have hz := HS.out
        rw [List.drop_of_length_le (by rw [HN.out]; exact Nat.le_refl _)] at hz
        have hz0 : ANS = 0 := hz.symm
        subst hz0
        have l0 := BB.out.at 0 (.slice A n c) rfl
        have l1 := BB.out.at 1 (.bool d) rfl
        have l2 := BB.out.at 2 (.string ty) rfl
        have l3 := BB.out.at 3 (.string nm) rfl
        have l4 := BB.out.at 4 (.int .i64 kd) rfl
        have l5 := BB.out.at 5 (.int .i64 m) rfl
        have l6 := BB.out.at 6 (.string t) rfl
        clear HS hz cS hlt hk
        cases TY with
        | false =>
          clear cN BB
          go_wp2_with fail
          refine (cT.out _).mono ?_; rintro e w4 ⟨rfl, rfl⟩
          go_wp2_with fail
          go_ret
          exact ⟨rfl, QQ.out⟩
        | true =>
          clear BB
          go_wp2_with fail
          refine (cT.out _).mono ?_; rintro e w4 ⟨rfl, rfl⟩
          go_wp2_with fail
          refine (cN.out _ QQ.out).mono ?_; rintro e w4 ⟨rfl, q4⟩
          have Q4 := Lib.hid (QQ.out.trans q4)
          clear q4
          go_wp2_with fail
          go_ret
          exact ⟨rfl, Q4.out⟩

end Go.Proofs.YthekabflbpfjoaaGreatDoor.adr
