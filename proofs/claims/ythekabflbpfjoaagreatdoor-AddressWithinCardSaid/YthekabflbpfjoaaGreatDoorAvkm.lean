/- The statements' function awake returns true: the examples of the chapter. -/
import Derived.Test.YthekabflbpfjoaaGreatDoorAvgm
namespace Go.Proofs.YthekabflbpfjoaaGreatDoor.adr
open Go.RowKit
open Go.Proofs.YthekabflbpfjoaaGreatDoor

def exS : St := ⟨⟨#[97]⟩, ⟨2, 0, ⟨#[120]⟩⟩⟩
def exR : Rs := ⟨false, ⟨#[115, 101, 114, 118, 101, 114]⟩, ⟨#[119, 101, 98]⟩, ⟨1, 0, ⟨#[]⟩⟩⟩
def exB : ByteArray := ⟨#[109, 111, 100, 117, 108, 101, 46, 97, 91, 34, 120, 34, 93, 46, 115, 101, 114, 118, 101, 114, 46, 119, 101, 98, 91, 48, 93]⟩
theorem okS_x : okS [120] = true := by
  rw [okS_iff]
  exact ⟨by decide, by decide +kernel⟩
theorem ex_chkS : chkS [exS] = 0 := by
  refine (chkS_cons exS []).2 ⟨?_, rfl⟩
  have h : okK exS.key = true := okK_str okS_x
  unfold chkN
  rw [h]
  rfl
theorem ex_chkR : chkR exR = 0 := by
  have h : okK exR.key = true := okK_num (by decide) (by decide)
  have ht : isTy exR.type.data.toList = true := by decide +kernel
  unfold chkR chkN
  rw [h, ht]
  decide +kernel
theorem quote_x : lit.quoteL [120] = [34, 120, 34] := by decide +kernel
theorem itoa_0 : Lib.itoa 0 = [48] := by
  unfold Lib.itoa
  rw [if_neg (by decide)]
  exact txt.dd_small 0 (by decide)
theorem ex_text : tSs [exS] ++ tR exR = exB.data.toList := by
  have e1 : fK exS.key = [91, 34, 120, 34, 93] := by
    show fK ⟨2, 0, ⟨#[120]⟩⟩ = _
    rw [fK_str okS_x]
    show 91 :: (lit.quoteL [120] ++ [93]) = _
    rw [quote_x]
    rfl
  have e2 : fK exR.key = [91, 48, 93] := by
    show fK ⟨1, 0, ⟨#[]⟩⟩ = _
    rw [fK_num (by decide) (by decide), itoa_0]
    rfl
  show (tS exS ++ (46 :: [])) ++ tR exR = _
  unfold tS tR
  rw [e1, e2]
  rfl
theorem ex_full : full exB.data.toList = some ([exS], some exR) := by
  rw [← ex_text]
  exact full_back [exS] exR ex_chkS ex_chkR
theorem ex_parse : pErr exB.data.toList = 0 ∧ pMods exB.data.toList = [exS] ∧ pRes exB.data.toList = exR := by
  unfold pErr pMods pRes
  rw [ex_full]
  exact ⟨rfl, rfl, rfl⟩
theorem ex_static : fA ⟨[exS].map bareS, bareR exR⟩ = [109, 111, 100, 117, 108, 101, 46, 97, 46, 115, 101, 114, 118, 101, 114, 46, 119, 101, 98] := by
  obtain ⟨h1, h2⟩ := bare_ok ex_chkS ex_chkR
  have hc : chk ⟨[exS].map bareS, bareR exR⟩ = 0 := by
    unfold chk
    rw [if_neg (by decide), h1, if_pos rfl]
    exact h2
  rw [fA_case, if_pos hc]
  have e1 : fK (bareS exS).key = [] := fK_zero
  have e2 : fK (bareR exR).key = [] := fK_zero
  show (tS (bareS exS) ++ (46 :: [])) ++ tR (bareR exR) = _
  unfold tS tR
  rw [e1, e2]
  rfl
theorem ex_format : fA ⟨[exS], exR⟩ = exB.data.toList := by
  have hc : chk ⟨[exS], exR⟩ = 0 := by
    unfold chk
    rw [if_neg (by decide), ex_chkS, if_pos rfl]
    exact ex_chkR
  rw [fA_case, if_pos hc]
  exact ex_text
theorem ex_bad : pErr [97, 46, 98, 91, 48, 49, 93] = 2 := by
  have hp : Lib.hasPrefix [97, 46, 98, 91, 48, 49, 93] modB = false := by decide +kernel
  have h : full [97, 46, 98, 91, 48, 49, 93] = none := by
    rw [full_res _ hp]
    have : rdR [97, 46, 98, 91, 48, 49, 93] = none := by
      cases hx : rdR [97, 46, 98, 91, 48, 49, 93] with
      | none => rfl
      | some r =>
        exfalso
        obtain ⟨h1, h2⟩ := rdR_inv _ _ hx
        have hn : rdNm [98, 91, 48, 49, 93] = none := by
          have hk : rdK [91, 48, 49, 93] = none := by
            rw [rdK_open, if_neg (by decide)]
            unfold rdN
            have hc : cutD 93 [48, 49, 93] = [48, 49] := by decide +kernel
            have he : num.pe [48, 49] = 2 := by decide +kernel
            rw [hc, he, if_neg (fun h => by cases h.1)]
          unfold rdNm
          have hw : word [98, 91, 48, 49, 93] = [98] := by decide +kernel
          rw [hw, if_pos (by decide +kernel)]
          show Option.map _ (rdK [91, 48, 49, 93]) = none
          rw [hk]
          rfl
        unfold rdR at hx
        rw [rdR'_eq] at hx
        have e0 : Lib.trimPrefix [97, 46, 98, 91, 48, 49, 93] dataB = [97, 46, 98, 91, 48, 49, 93] := by decide +kernel
        have e1 : cutD 46 [97, 46, 98, 91, 48, 49, 93] = [97] := by decide +kernel
        rw [e0, e1] at hx
        have e2 : ([97, 46, 98, 91, 48, 49, 93] : List UInt8).drop (([97] : List UInt8).length + 1) = [98, 91, 48, 49, 93] := rfl
        rw [e2, hn] at hx
        cases hx
    rw [this]
    rfl
  unfold pErr
  rw [h]
theorem ex_within : Wi exB.data.toList [109, 111, 100, 117, 108, 101, 46, 97] := by
  obtain ⟨h1, h2, h3⟩ := ex_parse
  have hc : chkS [bareS exS] = 0 := bare_chkS [exS] ex_chkS
  have hp : full [109, 111, 100, 117, 108, 101, 46, 97] = some ([bareS exS], none) := by
    have := path_back [bareS exS] (by simp) hc
    have e : tP [bareS exS] = [109, 111, 100, 117, 108, 101, 46, 97] := by
      show tS (bareS exS) = _
      unfold tS
      rw [show fK (bareS exS).key = [] from fK_zero]
      rfl
    rwa [e] at this
  refine ⟨h1, [bareS exS], none, hp, by decide, ?_⟩
  rw [h2, h3]
  refine ⟨⟨by decide, fun i hi hi' => ?_⟩, .inl rfl⟩
  have : i = 0 := by simp at hi'; omega
  subst this
  exact ⟨rfl, .inl rfl⟩
theorem ex_not : ¬ Wi exB.data.toList [115, 101, 114, 118, 101, 114, 46, 119, 101, 98] := by
  obtain ⟨h1, h2, h3⟩ := ex_parse
  have hr : chkR (bareR exR) = 0 := bare_chkR ex_chkR
  have hp : full [115, 101, 114, 118, 101, 114, 46, 119, 101, 98] = some ([], some (bareR exR)) := by
    have := full_back [] (bareR exR) rfl hr
    have e : tSs [] ++ tR (bareR exR) = [115, 101, 114, 118, 101, 114, 46, 119, 101, 98] := by
      show tR (bareR exR) = _
      unfold tR
      rw [show fK (bareR exR).key = [] from fK_zero]
      rfl
    rwa [e] at this
  rintro ⟨_, ps, x, h4, _, h5⟩
  rw [hp] at h4
  simp only [Option.some.injEq, Prod.mk.injEq] at h4
  obtain ⟨rfl, rfl⟩ := h4
  rw [h2, h3] at h5
  rcases h5.2 with h | h
  · exact absurd h (by decide)
  · exact absurd h.1 (by decide)

/-- What is known in the last line of awake. -/
def Aw (p : Nat) (A : Option Addr) (c : Nat) (w w' : World) : Prop := Q w w' ∧ Bk p #[.slice A 1 c, .bool false, .string ⟨#[115, 101, 114, 118, 101, 114]⟩, .string ⟨#[119, 101, 98]⟩, .int .i64 1, .int .i64 0, .string ⟨#[]⟩] 27 w' ∧ In A [exS] w'
theorem Aw.stays {p : Nat} {A : Option Addr} {c : Nat} {w w' w2 : World} (h : Aw p A c w w') (q : Q w' w2) : Aw p A c w w2 := ⟨h.1.trans q, h.2.1.stays q, h.2.2.stays q⟩
theorem Aw.seen {p : Nat} {A : Option Addr} {c : Nat} {w w' : World} (h : Aw p A c w w') :
    Hid (Aw p A c w w') ∧ w'.cell? ⟨p, 0, none⟩ = some (.slice A 1 c) ∧ w'.cell? ⟨p, 1, none⟩ = some (.bool false) ∧ w'.cell? ⟨p, 2, none⟩ = some (.string ⟨#[115, 101, 114, 118, 101, 114]⟩) ∧ w'.cell? ⟨p, 3, none⟩ = some (.string ⟨#[119, 101, 98]⟩) ∧ w'.cell? ⟨p, 4, none⟩ = some (.int .i64 1) ∧ w'.cell? ⟨p, 5, none⟩ = some (.int .i64 0) ∧ w'.cell? ⟨p, 6, none⟩ = some (.string ⟨#[]⟩) :=
  ⟨Lib.hid h, h.2.1.at 0 _ rfl, h.2.1.at 1 _ rfl, h.2.1.at 2 _ rfl, h.2.1.at 3 _ rfl, h.2.1.at 4 _ rfl, h.2.1.at 5 _ rfl, h.2.1.at 6 _ rfl⟩
theorem one_in (p q : Nat) (s : St) (w : World) (x0 x1 x2 x3 x4 x5 x6 : Value) (t : TypeId) (hp : q ≠ p) (hs : Bk q #[.string s.name, .int .i64 s.key.kind, .int .i64 s.key.num, .string s.key.str] t w) :
    In (some ⟨q, 0, none⟩) [s] (((((((w.setCell ⟨p, 0, none⟩ x0).setCell ⟨p, 1, none⟩ x1).setCell ⟨p, 2, none⟩ x2).setCell ⟨p, 3, none⟩ x3).setCell ⟨p, 4, none⟩ x4).setCell ⟨p, 5, none⟩ x5).setCell ⟨p, 6, none⟩ x6) := by
  have h7 := Bk.other7 hs hp x0 x1 x2 x3 x4 x5 x6
  generalize (((((((w.setCell ⟨p, 0, none⟩ x0).setCell ⟨p, 1, none⟩ x1).setCell ⟨p, 2, none⟩ x2).setCell ⟨p, 3, none⟩ x3).setCell ⟨p, 4, none⟩ x4).setCell ⟨p, 5, none⟩ x5).setCell ⟨p, 6, none⟩ x6) = W at *
  refine fun _ => ⟨q, 0, rfl, h7.lt, fun i hi => ?_⟩
  have : i = 0 := by simp at hi; omega
  subst this
  exact ⟨h7.at 0 (.string s.name) rfl, h7.at 1 (.int .i64 s.key.kind) rfl, h7.at 2 (.int .i64 s.key.num) rfl, h7.at 3 (.string s.key.str) rfl⟩
set_option maxHeartbeats 4000000 in
theorem example_any (w : World) : Calls Tryz.prog 24 #[] w fun e w' => ∃ A, e = .returned (.agg #[.slice A 1 1, .bool false, .string ⟨#[115, 101, 114, 118, 101, 114]⟩, .string ⟨#[119, 101, 98]⟩, .int .i64 1, .int .i64 0, .string ⟨#[]⟩]) ∧ In A [exS] w' ∧ Q w w' := by
  have hz := Zb.stays (Bk.new _ _ w) (Q.alloc (w.alloc (.cells #[.slice none 0 0, .bool false, .string ⟨#[]⟩, .string ⟨#[]⟩, .int .i64 0, .int .i64 0, .string ⟨#[]⟩] 27)) (.cells #[.string ⟨#[97]⟩, .int .i64 2, .int .i64 0, .string ⟨#[120]⟩] 44))
  have hs := Bk.new #[.string ⟨#[97]⟩, .int .i64 2, .int .i64 0, .string ⟨#[120]⟩] 44 (w.alloc (.cells #[.slice none 0 0, .bool false, .string ⟨#[]⟩, .string ⟨#[]⟩, .int .i64 0, .int .i64 0, .string ⟨#[]⟩] 27))
  have hq := two_alloc w (.cells #[.slice none 0 0, .bool false, .string ⟨#[]⟩, .string ⟨#[]⟩, .int .i64 0, .int .i64 0, .string ⟨#[]⟩] 27) (.cells #[.string ⟨#[97]⟩, .int .i64 2, .int .i64 0, .string ⟨#[120]⟩] 44)
  have e1 : (w.alloc (.cells #[.slice none 0 0, .bool false, .string ⟨#[]⟩, .string ⟨#[]⟩, .int .i64 0, .int .i64 0, .string ⟨#[]⟩] 27)).heap.size = w.heap.size + 1 := by simp
  rw [e1] at hs
  obtain ⟨W, hW⟩ : ∃ W, (w.alloc (.cells #[.slice none 0 0, .bool false, .string ⟨#[]⟩, .string ⟨#[]⟩, .int .i64 0, .int .i64 0, .string ⟨#[]⟩] 27)).alloc (.cells #[.string ⟨#[97]⟩, .int .i64 2, .int .i64 0, .string ⟨#[120]⟩] 44) = W := ⟨_, rfl⟩
  rw [hW] at hz hs hq
  have HI := Lib.hid (one_in w.heap.size (w.heap.size + 1) exS W (.slice (some ⟨w.heap.size + 1, 0, none⟩) 1 1) (.bool false) (.string ⟨#[115, 101, 114, 118, 101, 114]⟩) (.string ⟨#[119, 101, 98]⟩) (.int .i64 1) (.int .i64 0) (.string ⟨#[]⟩) 44 (by omega) hs)
  have QP := Lib.hid (hq.put7 (p := w.heap.size) (Nat.le_refl _) (.slice (some ⟨w.heap.size + 1, 0, none⟩) 1 1) (.bool false) (.string ⟨#[115, 101, 114, 118, 101, 114]⟩) (.string ⟨#[119, 101, 98]⟩) (.int .i64 1) (.int .i64 0) (.string ⟨#[]⟩))
  have bp := Lib.hid (Bk.put7 hz (.slice (some ⟨w.heap.size + 1, 0, none⟩) 1 1) (.bool false) (.string ⟨#[115, 101, 114, 118, 101, 114]⟩) (.string ⟨#[119, 101, 98]⟩) (.int .i64 1) (.int .i64 0) (.string ⟨#[]⟩))
  obtain ⟨a0, a1, a2, a3, a4, a5, a6, z0, z1, z2, z3, z4, z5, z6⟩ := hz.out
  clear hq hz hs e1
  go_enter Tryz.func24, Tryz.ntmps24
  go_wp2_with fail
  have y0 := bp.out.at 0 (.slice (some ⟨w.heap.size + 1, 0, none⟩) 1 1) rfl
  have y1 := bp.out.at 1 (.bool false) rfl
  have y2 := bp.out.at 2 (.string ⟨#[115, 101, 114, 118, 101, 114]⟩) rfl
  have y3 := bp.out.at 3 (.string ⟨#[119, 101, 98]⟩) rfl
  have y4 := bp.out.at 4 (.int .i64 1) rfl
  have y5 := bp.out.at 5 (.int .i64 0) rfl
  have y6 := bp.out.at 6 (.string ⟨#[]⟩) rfl
  refine bodyPost_ret (by simp [results, Tryz.results24, go_sem, y0, y1, y2, y3, y4, y5, y6]; try rfl) rfl ?_
  exact ⟨_, rfl, HI.out, QP.out⟩

set_option maxRecDepth 100000 in
set_option maxHeartbeats 16000000 in
theorem awake_true (w : World) (f : Fa w) : Calls Tryz.prog 8 #[] w fun e w' => e = .returned (.bool true) ∧ Q w w' := by
  obtain ⟨e1, e2, e3⟩ := ex_parse
  have cP : Hid (∀ w', Q w w' → Calls Tryz.prog 15 #[.string ⟨#[109, 111, 100, 117, 108, 101, 46, 97, 91, 34, 120, 34, 93, 46, 115, 101, 114, 118, 101, 114, 46, 119, 101, 98, 91, 48, 93]⟩] w' fun e w'' => ∃ A c, e = .returned (.tuple #[.agg #[.slice A 1 c, .bool false, .string ⟨#[115, 101, 114, 118, 101, 114]⟩, .string ⟨#[119, 101, 98]⟩, .int .i64 1, .int .i64 0, .string ⟨#[]⟩], .int .i64 0]) ∧ In A [exS] w'' ∧ Q w' w'') := Lib.hid (fun w' q => by
    have h := parse_any exB w' (q.fa f) (by decide)
    rw [e1, e2, e3] at h
    refine h.mono ?_
    rintro e w'' ⟨A, n, c, rfl, hv, hq⟩
    obtain rfl : n = 1 := hv.len
    exact ⟨A, c, rfl, hv.in, hq⟩)
  have cS : Hid (∀ w', Q w w' → Calls Tryz.prog 17 #[.string ⟨#[109, 111, 100, 117, 108, 101, 46, 97, 91, 34, 120, 34, 93, 46, 115, 101, 114, 118, 101, 114, 46, 119, 101, 98, 91, 48, 93]⟩] w' fun e w'' => e = .returned (.tuple #[.string ⟨#[109, 111, 100, 117, 108, 101, 46, 97, 46, 115, 101, 114, 118, 101, 114, 46, 119, 101, 98]⟩, .int .i64 0]) ∧ Q w' w'') := Lib.hid (fun w' q => by
    have h := static_any exB w' (q.fa f) (by decide)
    rw [e1, e2, e3, if_pos rfl, ex_static] at h
    exact h)
  have cB : Hid (∀ w', Q w w' → Calls Tryz.prog 15 #[.string ⟨#[97, 46, 98, 91, 48, 49, 93]⟩] w' fun e w'' => ∃ A n c, e = .returned (.tuple #[.agg #[.slice A n c, .bool false, .string ⟨#[]⟩, .string ⟨#[]⟩, .int .i64 0, .int .i64 0, .string ⟨#[]⟩], .int .i64 2]) ∧ Q w' w'') := Lib.hid (fun w' q => by
    have h := parse_any ⟨#[97, 46, 98, 91, 48, 49, 93]⟩ w' (q.fa f) (by decide)
    have e4 : (⟨#[97, 46, 98, 91, 48, 49, 93]⟩ : ByteArray).data.toList = [97, 46, 98, 91, 48, 49, 93] := rfl
    rw [e4, ex_bad] at h
    have e5 := err_zero (l := [97, 46, 98, 91, 48, 49, 93]) (by rw [ex_bad]; decide)
    rw [e5.2] at h
    refine h.mono ?_
    rintro e w'' ⟨A, n, c, rfl, _, hq⟩
    exact ⟨A, n, c, rfl, hq⟩)
  go_enter Tryz.func8, Tryz.ntmps8
  go_wp2_with fail
  refine (cP.out _ (Q.refl _)).mono ?_; rintro e w1 ⟨A, c, rfl, hi, q1⟩
  have H1 : Hid (Aw w1.heap.size A c w (w1.alloc (.cells #[.slice A 1 c, .bool false, .string ⟨#[115, 101, 114, 118, 101, 114]⟩, .string ⟨#[119, 101, 98]⟩, .int .i64 1, .int .i64 0, .string ⟨#[]⟩] 27))) := Lib.hid ⟨q1.trans (Q.alloc _ _), Bk.new _ _ _, hi.stays (Q.alloc _ _)⟩
  clear hi q1 cP
  go_wp2_with fail
  generalize w1.alloc (.cells #[.slice A 1 c, .bool false, .string ⟨#[115, 101, 114, 118, 101, 114]⟩, .string ⟨#[119, 101, 98]⟩, .int .i64 1, .int .i64 0, .string ⟨#[]⟩] 27) = w2 at *
  generalize w1.heap.size = p at *
  refine (cS.out _ H1.out.1).mono ?_; rintro e w3 ⟨rfl, q3⟩
  replace H1 := Lib.hid (H1.out.stays q3)
  clear q3 cS
  go_wp2_with fail
  refine (cB.out _ H1.out.1).mono ?_; rintro e w4 ⟨A4, n4, c4, rfl, q4⟩
  replace H1 := Lib.hid (H1.out.stays q4)
  clear q4 cB
  have H2 : Hid (Aw p A c w (w4.alloc (.cells #[.slice A4 n4 c4, .bool false, .string ⟨#[]⟩, .string ⟨#[]⟩, .int .i64 0, .int .i64 0, .string ⟨#[]⟩] 27)).drew) := Lib.hid ((H1.out.stays (Q.alloc _ _)).stays (Q.drewN _ 1))
  clear H1
  go_wp2_with fail
  generalize w4.alloc (.cells #[.slice A4 n4 c4, .bool false, .string ⟨#[]⟩, .string ⟨#[]⟩, .int .i64 0, .int .i64 0, .string ⟨#[]⟩] 27) = w5 at *
  have c1 : Hid (∀ w', Hid (Aw p A c w w') → Calls Tryz.prog 24 #[] w' fun e w'' => ∃ A', e = .returned (.agg #[.slice A' 1 1, .bool false, .string ⟨#[115, 101, 114, 118, 101, 114]⟩, .string ⟨#[119, 101, 98]⟩, .int .i64 1, .int .i64 0, .string ⟨#[]⟩]) ∧ In A' [exS] w'' ∧ Aw p A c w w'') := Lib.hid (fun w' h => (example_any w').mono fun _ _ ⟨A', he, hi, hq⟩ => ⟨A', he, hi, h.out.stays hq⟩)
  have c2 : Hid (∀ A' w', Hid (Aw p A c w w') → In A' [exS] w' → Calls Tryz.prog 11 #[.agg #[.slice A' 1 1, .bool false, .string ⟨#[115, 101, 114, 118, 101, 114]⟩, .string ⟨#[119, 101, 98]⟩, .int .i64 1, .int .i64 0, .string ⟨#[]⟩]] w' fun e w'' => e = .returned (.string ⟨#[109, 111, 100, 117, 108, 101, 46, 97, 91, 34, 120, 34, 93, 46, 115, 101, 114, 118, 101, 114, 46, 119, 101, 98, 91, 48, 93]⟩) ∧ Aw p A c w w'') := Lib.hid (fun A' w' h hi => by
    have h2 := format_any A' 1 1 [exS] exR w' (h.out.1.fa f) rfl hi (Ab.of ex_chkS ex_chkR) (by decide)
    rw [ex_format] at h2
    exact h2.mono fun _ _ ⟨he, hq⟩ => ⟨he, h.out.stays hq⟩)
  have c3 : Hid (∀ A' w', Hid (Aw p A c w w') → In A' [exS] w' → Calls Tryz.prog 19 #[.agg #[.slice A 1 c, .bool false, .string ⟨#[115, 101, 114, 118, 101, 114]⟩, .string ⟨#[119, 101, 98]⟩, .int .i64 1, .int .i64 0, .string ⟨#[]⟩], .agg #[.slice A' 1 1, .bool false, .string ⟨#[115, 101, 114, 118, 101, 114]⟩, .string ⟨#[119, 101, 98]⟩, .int .i64 1, .int .i64 0, .string ⟨#[]⟩]] w' fun e w'' => e = .returned (.bool true) ∧ Aw p A c w w'') := Lib.hid (fun A' w' h hi => by
    have h2 := same_any A A' 1 c 1 1 [exS] [exS] exR exR w' rfl rfl h.out.2.2 hi (by decide) (by decide)
    refine h2.mono ?_
    rintro e w'' ⟨B, rfl, hB, hq⟩
    rw [hB.out.2 ⟨rfl, rfl⟩]
    exact ⟨rfl, h.out.stays hq⟩)
  have c4 : Hid (∀ w', Hid (Aw p A c w w') → Calls Tryz.prog 22 #[.string ⟨#[109, 111, 100, 117, 108, 101, 46, 97, 91, 34, 120, 34, 93, 46, 115, 101, 114, 118, 101, 114, 46, 119, 101, 98, 91, 48, 93]⟩, .string ⟨#[109, 111, 100, 117, 108, 101, 46, 97]⟩] w' fun e w'' => e = .returned (.bool true) ∧ Aw p A c w w'') := Lib.hid (fun w' h => by
    have h2 := within_any exB ⟨#[109, 111, 100, 117, 108, 101, 46, 97]⟩ w' (h.out.1.fa f) (by decide) (by decide)
    refine h2.mono ?_
    rintro e w'' ⟨B, rfl, hB, hq⟩
    rw [hB.out.2 ex_within]
    exact ⟨rfl, h.out.stays hq⟩)
  have c5 : Hid (∀ w', Hid (Aw p A c w w') → Calls Tryz.prog 22 #[.string ⟨#[109, 111, 100, 117, 108, 101, 46, 97, 91, 34, 120, 34, 93, 46, 115, 101, 114, 118, 101, 114, 46, 119, 101, 98, 91, 48, 93]⟩, .string ⟨#[115, 101, 114, 118, 101, 114, 46, 119, 101, 98]⟩] w' fun e w'' => e = .returned (.bool false) ∧ Aw p A c w w'') := Lib.hid (fun w' h => by
    have h2 := within_any exB ⟨#[115, 101, 114, 118, 101, 114, 46, 119, 101, 98]⟩ w' (h.out.1.fa f) (by decide) (by decide)
    refine h2.mono ?_
    rintro e w'' ⟨B, rfl, hB, hq⟩
    cases B with
    | false => exact ⟨rfl, h.out.stays hq⟩
    | true => exact absurd (hB.out.1 rfl) ex_not)
  have c6 : Hid (∀ w', Hid (Aw p A c w w') → Calls Tryz.prog 25 #[.string ⟨#[97, 95, 49]⟩] w' fun e w'' => e = .returned (.bool true) ∧ Aw p A c w w'') := Lib.hid (fun w' h => by
    have h2 := identifier_any ⟨#[97, 95, 49]⟩ w' (by decide)
    have e4 : isId (⟨#[97, 95, 49]⟩ : ByteArray).data.toList = true := by decide +kernel
    rw [e4] at h2
    exact h2.mono fun _ _ ⟨he, hq⟩ => ⟨he, hq ▸ h.out⟩)
  have c7 : Hid (∀ w', Hid (Aw p A c w w') → Calls Tryz.prog 25 #[.string ⟨#[49, 97]⟩] w' fun e w'' => e = .returned (.bool false) ∧ Aw p A c w w'') := Lib.hid (fun w' h => by
    have h2 := identifier_any ⟨#[49, 97]⟩ w' (by decide)
    have e4 : isId (⟨#[49, 97]⟩ : ByteArray).data.toList = false := by decide +kernel
    rw [e4] at h2
    exact h2.mono fun _ _ ⟨he, hq⟩ => ⟨he, hq ▸ h.out⟩)
  have c8 : Hid (∀ w', Hid (Aw p A c w w') → Calls Tryz.prog 9 #[.agg #[.slice none 0 0, .bool false, .string ⟨#[109, 111, 100, 117, 108, 101]⟩, .string ⟨#[97]⟩, .int .i64 0, .int .i64 0, .string ⟨#[]⟩]] w' fun e w'' => e = .returned (.int .i64 7) ∧ Aw p A c w w'') := Lib.hid (fun w' h => by
    have h2 := check_any none 0 0 [] ⟨false, ⟨#[109, 111, 100, 117, 108, 101]⟩, ⟨#[97]⟩, K.zero⟩ w' (h.out.1.fa f) rfl (In.nil _ _) ⟨(fun s h => by cases h), by decide, by decide, ⟨by decide, by decide, by decide⟩⟩ (by decide)
    have e4 : chk ⟨[], ⟨false, ⟨#[109, 111, 100, 117, 108, 101]⟩, ⟨#[97]⟩, K.zero⟩⟩ = 7 := by
      have : isTy (⟨#[109, 111, 100, 117, 108, 101]⟩ : ByteArray).data.toList = false := by decide +kernel
      unfold chk
      rw [if_neg (by decide), show chkS [] = 0 from rfl, if_pos rfl]
      unfold chkR
      simp only
      rw [this]
      rfl
    rw [e4] at h2
    exact h2.mono fun _ _ ⟨he, hq⟩ => ⟨he, h.out.stays hq⟩)
  clear f e1 e2 e3
  refine Go.wp_region_held_drew (S := (fun w' => Hid (Aw p A c w w') ∧ w'.cell? ⟨p, 0, none⟩ = some (.slice A 1 c) ∧ w'.cell? ⟨p, 1, none⟩ = some (.bool false) ∧ w'.cell? ⟨p, 2, none⟩ = some (.string ⟨#[115, 101, 114, 118, 101, 114]⟩) ∧ w'.cell? ⟨p, 3, none⟩ = some (.string ⟨#[119, 101, 98]⟩) ∧ w'.cell? ⟨p, 4, none⟩ = some (.int .i64 1) ∧ w'.cell? ⟨p, 5, none⟩ = some (.int .i64 0) ∧ w'.cell? ⟨p, 6, none⟩ = some (.string ⟨#[]⟩))) (by kernel_rfl) (Aw.seen H2.out) (fun hHeld => ?_)
  clear H2
  refine Go.wpAnyH_take (i := 2) (oi := _) (v := ?_) rfl (by kernel_rfl) (by kernel_rfl) (by kernel_rfl) (fun _ _ _ h => h) (Or.inl ⟨by rfl, ?_⟩) (by assumption) ?_
  rotate_left 1
  · intro wx hSw
    go_simp <;> with_reducible rfl
  simp only [Act.put, List.getElem_toArray, List.getElem_cons_zero, List.getElem_cons_succ, List.setIfInBounds_toArray, List.set_cons_zero, List.set_cons_succ]
  refine Go.wpAnyH_ready (rs := [0]) (by kernel_rfl) (by simp) ?_
  refine Go.AllReadyH.cons rfl (fun K hK => ?_) Go.AllReadyH.nil
  rw [if_pos (by rfl)]
  go_simp
  go_at_call 24
  refine (c1.out _ hHeld.1).mono ?_
  rintro e v1 ⟨A6, rfl, hi6, h1⟩
  refine hK.out _ _ (Aw.seen h1) (fun hHeld => ?_)
  clear hK K
  refine Go.wpAnyH_ready (rs := [1]) (by kernel_rfl) (by simp) ?_
  refine Go.AllReadyH.cons rfl (fun K hK => ?_) Go.AllReadyH.nil
  rw [if_pos (by rfl)]
  go_simp
  go_at_call 11
  refine (c2.out _ _ hHeld.1 hi6).mono ?_
  rintro e v2 ⟨rfl, h2⟩
  refine hK.out _ _ (Aw.seen h2) (fun hHeld => ?_)
  clear hK K
  refine Go.wpAnyH_take (i := 3) (oi := _) (v := ?_) rfl (by kernel_rfl) (by kernel_rfl) (by kernel_rfl) (fun _ _ _ h => h) (Or.inl ⟨by rfl, ?_⟩) (by assumption) ?_
  rotate_left 1
  · intro wx hSw
    go_simp <;> with_reducible rfl
  simp only [Act.put, List.getElem_toArray, List.getElem_cons_zero, List.getElem_cons_succ, List.setIfInBounds_toArray, List.set_cons_zero, List.set_cons_succ]
  refine Go.wpAnyH_take (i := 4) (oi := _) (v := ?_) rfl (by kernel_rfl) (by kernel_rfl) (by kernel_rfl) (fun _ _ _ h => h) (Or.inl ⟨by rfl, ?_⟩) (by assumption) ?_
  rotate_left 1
  · intro wx hSw
    go_simp <;> with_reducible rfl
  simp only [Act.put, List.getElem_toArray, List.getElem_cons_zero, List.getElem_cons_succ, List.setIfInBounds_toArray, List.set_cons_zero, List.set_cons_succ]
  refine Go.wpAnyH_take (i := 5) (oi := _) (v := ?_) rfl (by kernel_rfl) (by kernel_rfl) (by kernel_rfl) (fun _ _ _ h => h) (Or.inl ⟨by rfl, ?_⟩) (by assumption) ?_
  rotate_left 1
  · intro wx hSw
    go_simp <;> with_reducible rfl
  simp only [Act.put, List.getElem_toArray, List.getElem_cons_zero, List.getElem_cons_succ, List.setIfInBounds_toArray, List.set_cons_zero, List.set_cons_succ]
  refine Go.wpAnyH_take (i := 6) (oi := _) (v := ?_) rfl (by kernel_rfl) (by kernel_rfl) (by kernel_rfl) (fun _ _ _ h => h) (Or.inl ⟨by rfl, ?_⟩) (by assumption) ?_
  rotate_left 1
  · intro wx hSw
    go_simp <;> with_reducible rfl
  simp only [Act.put, List.getElem_toArray, List.getElem_cons_zero, List.getElem_cons_succ, List.setIfInBounds_toArray, List.set_cons_zero, List.set_cons_succ]
  refine Go.wpAnyH_take (i := 7) (oi := _) (v := ?_) rfl (by kernel_rfl) (by kernel_rfl) (by kernel_rfl) (fun _ _ _ h => h) (Or.inl ⟨by rfl, ?_⟩) (by assumption) ?_
  rotate_left 1
  · intro wx hSw
    go_simp <;> with_reducible rfl
  simp only [Act.put, List.getElem_toArray, List.getElem_cons_zero, List.getElem_cons_succ, List.setIfInBounds_toArray, List.set_cons_zero, List.set_cons_succ]
  refine Go.wpAnyH_take (i := 8) (oi := _) (v := ?_) rfl (by kernel_rfl) (by kernel_rfl) (by kernel_rfl) (fun _ _ _ h => h) (Or.inl ⟨by rfl, ?_⟩) (by assumption) ?_
  rotate_left 1
  · intro wx hSw
    go_simp <;> with_reducible rfl
  simp only [Act.put, List.getElem_toArray, List.getElem_cons_zero, List.getElem_cons_succ, List.setIfInBounds_toArray, List.set_cons_zero, List.set_cons_succ]
  refine Go.wpAnyH_take (i := 9) (oi := _) (v := ?_) rfl (by kernel_rfl) (by kernel_rfl) (by kernel_rfl) (fun _ _ _ h => h) (Or.inl ⟨by rfl, ?_⟩) (by assumption) ?_
  rotate_left 1
  · intro wx hSw
    go_simp <;> with_reducible rfl
  simp only [Act.put, List.getElem_toArray, List.getElem_cons_zero, List.getElem_cons_succ, List.setIfInBounds_toArray, List.set_cons_zero, List.set_cons_succ]
  refine Go.wpAnyH_ready (rs := [10]) (by kernel_rfl) (by simp) ?_
  refine Go.AllReadyH.cons rfl (fun K hK => ?_) Go.AllReadyH.nil
  rw [if_pos (by rfl)]
  go_simp
  go_at_call 24
  refine (c1.out _ hHeld.1).mono ?_
  rintro e v3 ⟨A7, rfl, hi7, h3⟩
  refine hK.out _ _ (Aw.seen h3) (fun hHeld => ?_)
  clear hK K
  refine Go.wpAnyH_ready (rs := [11]) (by kernel_rfl) (by simp) ?_
  refine Go.AllReadyH.cons rfl (fun K hK => ?_) Go.AllReadyH.nil
  rw [if_pos (by rfl)]
  go_simp
  go_at_call 19
  refine (c3.out _ _ hHeld.1 hi7).mono ?_
  rintro e v4 ⟨rfl, h4⟩
  refine hK.out _ _ (Aw.seen h4) (fun hHeld => ?_)
  clear hK K
  refine Go.wpAnyH_take (i := 12) (oi := _) (v := ?_) rfl (by kernel_rfl) (by kernel_rfl) (by kernel_rfl) (fun _ _ _ h => h) (Or.inl ⟨by rfl, ?_⟩) (by assumption) ?_
  rotate_left 1
  · intro wx hSw
    go_simp <;> with_reducible rfl
  simp only [Act.put, List.getElem_toArray, List.getElem_cons_zero, List.getElem_cons_succ, List.setIfInBounds_toArray, List.set_cons_zero, List.set_cons_succ]
  refine Go.wpAnyH_take (i := 13) (oi := _) (v := ?_) rfl (by kernel_rfl) (by kernel_rfl) (by kernel_rfl) (fun _ _ _ h => h) (Or.inl ⟨by rfl, ?_⟩) (by assumption) ?_
  rotate_left 1
  · intro wx hSw
    go_simp <;> with_reducible rfl
  simp only [Act.put, List.getElem_toArray, List.getElem_cons_zero, List.getElem_cons_succ, List.setIfInBounds_toArray, List.set_cons_zero, List.set_cons_succ]
  refine Go.wpAnyH_take (i := 14) (oi := _) (v := ?_) rfl (by kernel_rfl) (by kernel_rfl) (by kernel_rfl) (fun _ _ _ h => h) (Or.inl ⟨by rfl, ?_⟩) (by assumption) ?_
  rotate_left 1
  · intro wx hSw
    go_simp <;> with_reducible rfl
  simp only [Act.put, List.getElem_toArray, List.getElem_cons_zero, List.getElem_cons_succ, List.setIfInBounds_toArray, List.set_cons_zero, List.set_cons_succ]
  refine Go.wpAnyH_take (i := 15) (oi := _) (v := ?_) rfl (by kernel_rfl) (by kernel_rfl) (by kernel_rfl) (fun _ _ _ h => h) (Or.inl ⟨by rfl, ?_⟩) (by assumption) ?_
  rotate_left 1
  · intro wx hSw
    go_simp <;> with_reducible rfl
  simp only [Act.put, List.getElem_toArray, List.getElem_cons_zero, List.getElem_cons_succ, List.setIfInBounds_toArray, List.set_cons_zero, List.set_cons_succ]
  refine Go.wpAnyH_take (i := 16) (oi := _) (v := ?_) rfl (by kernel_rfl) (by kernel_rfl) (by kernel_rfl) (fun _ _ _ h => h) (Or.inl ⟨by rfl, ?_⟩) (by assumption) ?_
  rotate_left 1
  · intro wx hSw
    go_simp <;> with_reducible rfl
  simp only [Act.put, List.getElem_toArray, List.getElem_cons_zero, List.getElem_cons_succ, List.setIfInBounds_toArray, List.set_cons_zero, List.set_cons_succ]
  refine Go.wpAnyH_take (i := 17) (oi := _) (v := ?_) rfl (by kernel_rfl) (by kernel_rfl) (by kernel_rfl) (fun _ _ _ h => h) (Or.inl ⟨by rfl, ?_⟩) (by assumption) ?_
  rotate_left 1
  · intro wx hSw
    go_simp <;> with_reducible rfl
  simp only [Act.put, List.getElem_toArray, List.getElem_cons_zero, List.getElem_cons_succ, List.setIfInBounds_toArray, List.set_cons_zero, List.set_cons_succ]
  refine Go.wpAnyH_take (i := 18) (oi := _) (v := ?_) rfl (by kernel_rfl) (by kernel_rfl) (by kernel_rfl) (fun _ _ _ h => h) (Or.inl ⟨by rfl, ?_⟩) (by assumption) ?_
  rotate_left 1
  · intro wx hSw
    go_simp <;> with_reducible rfl
  simp only [Act.put, List.getElem_toArray, List.getElem_cons_zero, List.getElem_cons_succ, List.setIfInBounds_toArray, List.set_cons_zero, List.set_cons_succ]
  refine Go.wpAnyH_take (i := 19) (oi := _) (v := ?_) rfl (by kernel_rfl) (by kernel_rfl) (by kernel_rfl) (fun _ _ _ h => h) (Or.inl ⟨by rfl, ?_⟩) (by assumption) ?_
  rotate_left 1
  · intro wx hSw
    go_simp <;> with_reducible rfl
  simp only [Act.put, List.getElem_toArray, List.getElem_cons_zero, List.getElem_cons_succ, List.setIfInBounds_toArray, List.set_cons_zero, List.set_cons_succ]
  refine Go.wpAnyH_take (i := 20) (oi := _) (v := ?_) rfl (by kernel_rfl) (by kernel_rfl) (by kernel_rfl) (fun _ _ _ h => h) (Or.inl ⟨by rfl, ?_⟩) (by assumption) ?_
  rotate_left 1
  · intro wx hSw
    go_simp <;> with_reducible rfl
  simp only [Act.put, List.getElem_toArray, List.getElem_cons_zero, List.getElem_cons_succ, List.setIfInBounds_toArray, List.set_cons_zero, List.set_cons_succ]
  refine Go.wpAnyH_take (i := 21) (oi := _) (v := ?_) rfl (by kernel_rfl) (by kernel_rfl) (by kernel_rfl) (fun _ _ _ h => h) (Or.inl ⟨by rfl, ?_⟩) (by assumption) ?_
  rotate_left 1
  · intro wx hSw
    go_simp <;> with_reducible rfl
  simp only [Act.put, List.getElem_toArray, List.getElem_cons_zero, List.getElem_cons_succ, List.setIfInBounds_toArray, List.set_cons_zero, List.set_cons_succ]
  refine Go.wpAnyH_take (i := 22) (oi := _) (v := ?_) rfl (by kernel_rfl) (by kernel_rfl) (by kernel_rfl) (fun _ _ _ h => h) (Or.inl ⟨by rfl, ?_⟩) (by assumption) ?_
  rotate_left 1
  · intro wx hSw
    go_simp <;> with_reducible rfl
  simp only [Act.put, List.getElem_toArray, List.getElem_cons_zero, List.getElem_cons_succ, List.setIfInBounds_toArray, List.set_cons_zero, List.set_cons_succ]
  refine Go.wpAnyH_take (i := 23) (oi := _) (v := ?_) rfl (by kernel_rfl) (by kernel_rfl) (by kernel_rfl) (fun _ _ _ h => h) (Or.inl ⟨by rfl, ?_⟩) (by assumption) ?_
  rotate_left 1
  · intro wx hSw
    go_simp <;> with_reducible rfl
  simp only [Act.put, List.getElem_toArray, List.getElem_cons_zero, List.getElem_cons_succ, List.setIfInBounds_toArray, List.set_cons_zero, List.set_cons_succ]
  refine Go.wpAnyH_take (i := 24) (oi := _) (v := ?_) rfl (by kernel_rfl) (by kernel_rfl) (by kernel_rfl) (fun _ _ _ h => h) (Or.inl ⟨by rfl, ?_⟩) (by assumption) ?_
  rotate_left 1
  · intro wx hSw
    go_simp <;> with_reducible rfl
  simp only [Act.put, List.getElem_toArray, List.getElem_cons_zero, List.getElem_cons_succ, List.setIfInBounds_toArray, List.set_cons_zero, List.set_cons_succ]
  refine Go.wpAnyH_take (i := 25) (oi := _) (v := ?_) rfl (by kernel_rfl) (by kernel_rfl) (by kernel_rfl) (fun _ _ _ h => h) (Or.inl ⟨by rfl, ?_⟩) (by assumption) ?_
  rotate_left 1
  · intro wx hSw
    go_simp <;> with_reducible rfl
  simp only [Act.put, List.getElem_toArray, List.getElem_cons_zero, List.getElem_cons_succ, List.setIfInBounds_toArray, List.set_cons_zero, List.set_cons_succ]
  refine Go.wpAnyH_take (i := 26) (oi := _) (v := ?_) rfl (by kernel_rfl) (by kernel_rfl) (by kernel_rfl) (fun _ _ _ h => h) (Or.inl ⟨by rfl, ?_⟩) (by assumption) ?_
  rotate_left 1
  · intro wx hSw
    go_simp <;> with_reducible rfl
  simp only [Act.put, List.getElem_toArray, List.getElem_cons_zero, List.getElem_cons_succ, List.setIfInBounds_toArray, List.set_cons_zero, List.set_cons_succ]
  refine Go.wpAnyH_ready (rs := [27]) (by kernel_rfl) (by simp) ?_
  refine Go.AllReadyH.cons rfl (fun K hK => ?_) Go.AllReadyH.nil
  rw [if_pos (by rfl)]
  go_simp
  go_at_call 22
  refine (c4.out _ hHeld.1).mono ?_
  rintro e v5 ⟨rfl, h5⟩
  refine hK.out _ _ (Aw.seen h5) (fun hHeld => ?_)
  clear hK K
  refine Go.wpAnyH_take (i := 28) (oi := _) (v := ?_) rfl (by kernel_rfl) (by kernel_rfl) (by kernel_rfl) (fun _ _ _ h => h) (Or.inl ⟨by rfl, ?_⟩) (by assumption) ?_
  rotate_left 1
  · intro wx hSw
    go_simp <;> with_reducible rfl
  simp only [Act.put, List.getElem_toArray, List.getElem_cons_zero, List.getElem_cons_succ, List.setIfInBounds_toArray, List.set_cons_zero, List.set_cons_succ]
  refine Go.wpAnyH_take (i := 29) (oi := _) (v := ?_) rfl (by kernel_rfl) (by kernel_rfl) (by kernel_rfl) (fun _ _ _ h => h) (Or.inl ⟨by rfl, ?_⟩) (by assumption) ?_
  rotate_left 1
  · intro wx hSw
    go_simp <;> with_reducible rfl
  simp only [Act.put, List.getElem_toArray, List.getElem_cons_zero, List.getElem_cons_succ, List.setIfInBounds_toArray, List.set_cons_zero, List.set_cons_succ]
  refine Go.wpAnyH_take (i := 30) (oi := _) (v := ?_) rfl (by kernel_rfl) (by kernel_rfl) (by kernel_rfl) (fun _ _ _ h => h) (Or.inl ⟨by rfl, ?_⟩) (by assumption) ?_
  rotate_left 1
  · intro wx hSw
    go_simp <;> with_reducible rfl
  simp only [Act.put, List.getElem_toArray, List.getElem_cons_zero, List.getElem_cons_succ, List.setIfInBounds_toArray, List.set_cons_zero, List.set_cons_succ]
  refine Go.wpAnyH_ready (rs := [31]) (by kernel_rfl) (by simp) ?_
  refine Go.AllReadyH.cons rfl (fun K hK => ?_) Go.AllReadyH.nil
  rw [if_pos (by rfl)]
  go_simp
  go_at_call 22
  refine (c5.out _ hHeld.1).mono ?_
  rintro e v6 ⟨rfl, h6⟩
  refine hK.out _ _ (Aw.seen h6) (fun hHeld => ?_)
  clear hK K
  refine Go.wpAnyH_take (i := 32) (oi := _) (v := ?_) rfl (by kernel_rfl) (by kernel_rfl) (by kernel_rfl) (fun _ _ _ h => h) (Or.inl ⟨by rfl, ?_⟩) (by assumption) ?_
  rotate_left 1
  · intro wx hSw
    go_simp <;> with_reducible rfl
  simp only [Act.put, List.getElem_toArray, List.getElem_cons_zero, List.getElem_cons_succ, List.setIfInBounds_toArray, List.set_cons_zero, List.set_cons_succ]
  refine Go.wpAnyH_take (i := 33) (oi := _) (v := ?_) rfl (by kernel_rfl) (by kernel_rfl) (by kernel_rfl) (fun _ _ _ h => h) (Or.inl ⟨by rfl, ?_⟩) (by assumption) ?_
  rotate_left 1
  · intro wx hSw
    go_simp <;> with_reducible rfl
  simp only [Act.put, List.getElem_toArray, List.getElem_cons_zero, List.getElem_cons_succ, List.setIfInBounds_toArray, List.set_cons_zero, List.set_cons_succ]
  refine Go.wpAnyH_take (i := 34) (oi := _) (v := ?_) rfl (by kernel_rfl) (by kernel_rfl) (by kernel_rfl) (fun _ _ _ h => h) (Or.inl ⟨by rfl, ?_⟩) (by assumption) ?_
  rotate_left 1
  · intro wx hSw
    go_simp <;> with_reducible rfl
  simp only [Act.put, List.getElem_toArray, List.getElem_cons_zero, List.getElem_cons_succ, List.setIfInBounds_toArray, List.set_cons_zero, List.set_cons_succ]
  refine Go.wpAnyH_ready (rs := [35]) (by kernel_rfl) (by simp) ?_
  refine Go.AllReadyH.cons rfl (fun K hK => ?_) Go.AllReadyH.nil
  rw [if_pos (by rfl)]
  go_simp
  go_at_call 25
  refine (c6.out _ hHeld.1).mono ?_
  rintro e v7 ⟨rfl, h7⟩
  refine hK.out _ _ (Aw.seen h7) (fun hHeld => ?_)
  clear hK K
  refine Go.wpAnyH_take (i := 36) (oi := _) (v := ?_) rfl (by kernel_rfl) (by kernel_rfl) (by kernel_rfl) (fun _ _ _ h => h) (Or.inl ⟨by rfl, ?_⟩) (by assumption) ?_
  rotate_left 1
  · intro wx hSw
    go_simp <;> with_reducible rfl
  simp only [Act.put, List.getElem_toArray, List.getElem_cons_zero, List.getElem_cons_succ, List.setIfInBounds_toArray, List.set_cons_zero, List.set_cons_succ]
  refine Go.wpAnyH_take (i := 37) (oi := _) (v := ?_) rfl (by kernel_rfl) (by kernel_rfl) (by kernel_rfl) (fun _ _ _ h => h) (Or.inl ⟨by rfl, ?_⟩) (by assumption) ?_
  rotate_left 1
  · intro wx hSw
    go_simp <;> with_reducible rfl
  simp only [Act.put, List.getElem_toArray, List.getElem_cons_zero, List.getElem_cons_succ, List.setIfInBounds_toArray, List.set_cons_zero, List.set_cons_succ]
  refine Go.wpAnyH_ready (rs := [38]) (by kernel_rfl) (by simp) ?_
  refine Go.AllReadyH.cons rfl (fun K hK => ?_) Go.AllReadyH.nil
  rw [if_pos (by rfl)]
  go_simp
  go_at_call 25
  refine (c7.out _ hHeld.1).mono ?_
  rintro e v8 ⟨rfl, h8⟩
  refine hK.out _ _ (Aw.seen h8) (fun hHeld => ?_)
  clear hK K
  refine Go.wpAnyH_take (i := 39) (oi := _) (v := ?_) rfl (by kernel_rfl) (by kernel_rfl) (by kernel_rfl) (fun _ _ _ h => h) (Or.inl ⟨by rfl, ?_⟩) (by assumption) ?_
  rotate_left 1
  · intro wx hSw
    go_simp <;> with_reducible rfl
  simp only [Act.put, List.getElem_toArray, List.getElem_cons_zero, List.getElem_cons_succ, List.setIfInBounds_toArray, List.set_cons_zero, List.set_cons_succ]
  refine Go.wpAnyH_take (i := 40) (oi := _) (v := ?_) rfl (by kernel_rfl) (by kernel_rfl) (by kernel_rfl) (fun _ _ _ h => h) (Or.inl ⟨by rfl, ?_⟩) (by assumption) ?_
  rotate_left 1
  · intro wx hSw
    go_simp <;> with_reducible rfl
  simp only [Act.put, List.getElem_toArray, List.getElem_cons_zero, List.getElem_cons_succ, List.setIfInBounds_toArray, List.set_cons_zero, List.set_cons_succ]
  refine Go.wpAnyH_take (i := 41) (oi := _) (v := ?_) rfl (by kernel_rfl) (by kernel_rfl) (by kernel_rfl) (fun _ _ _ h => h) (Or.inl ⟨by rfl, ?_⟩) (by assumption) ?_
  rotate_left 1
  · intro wx hSw
    go_simp <;> with_reducible rfl
  simp only [Act.put, List.getElem_toArray, List.getElem_cons_zero, List.getElem_cons_succ, List.setIfInBounds_toArray, List.set_cons_zero, List.set_cons_succ]
  refine Go.wpAnyH_take (i := 42) (oi := _) (v := ?_) rfl (by kernel_rfl) (by kernel_rfl) (by kernel_rfl) (fun _ _ _ h => h) (Or.inl ⟨by rfl, ?_⟩) (by assumption) ?_
  rotate_left 1
  · intro wx hSw
    go_simp <;> with_reducible rfl
  simp only [Act.put, List.getElem_toArray, List.getElem_cons_zero, List.getElem_cons_succ, List.setIfInBounds_toArray, List.set_cons_zero, List.set_cons_succ]
  refine Go.wpAnyH_ready (rs := [43]) (by kernel_rfl) (by simp) ?_
  refine Go.AllReadyH.cons rfl (fun K hK => ?_) Go.AllReadyH.nil
  rw [if_pos (by rfl)]
  go_simp
  go_at_call 9
  refine (c8.out _ hHeld.1).mono ?_
  rintro e v9 ⟨rfl, h9⟩
  refine hK.out _ _ (Aw.seen h9) (fun hHeld => ?_)
  clear hK K
  refine Go.wpAnyH_take (i := 44) (oi := _) (v := ?_) rfl (by kernel_rfl) (by kernel_rfl) (by kernel_rfl) (fun _ _ _ h => h) (Or.inl ⟨by rfl, ?_⟩) (by assumption) ?_
  rotate_left 1
  · intro wx hSw
    go_simp <;> with_reducible rfl
  simp only [Act.put, List.getElem_toArray, List.getElem_cons_zero, List.getElem_cons_succ, List.setIfInBounds_toArray, List.set_cons_zero, List.set_cons_succ]
  refine Go.wpAnyH_take (i := 45) (oi := _) (v := ?_) rfl (by kernel_rfl) (by kernel_rfl) (by kernel_rfl) (fun _ _ _ h => h) (Or.inl ⟨by rfl, ?_⟩) (by assumption) ?_
  rotate_left 1
  · intro wx hSw
    go_simp <;> with_reducible rfl
  simp only [Act.put, List.getElem_toArray, List.getElem_cons_zero, List.getElem_cons_succ, List.setIfInBounds_toArray, List.set_cons_zero, List.set_cons_succ]
  refine Go.wpAnyH_take (i := 46) (oi := _) (v := ?_) rfl (by kernel_rfl) (by kernel_rfl) (by kernel_rfl) (fun _ _ _ h => h) (Or.inl ⟨by rfl, ?_⟩) (by assumption) ?_
  rotate_left 1
  · intro wx hSw
    go_simp <;> with_reducible rfl
  simp only [Act.put, List.getElem_toArray, List.getElem_cons_zero, List.getElem_cons_succ, List.setIfInBounds_toArray, List.set_cons_zero]
  refine Go.wpAnyH_done (by kernel_rfl) ?_ _
  go_wp2_with fail
  go_ret
  exact ⟨rfl, hHeld.1.out.1⟩

end Go.Proofs.YthekabflbpfjoaaGreatDoor.adr
