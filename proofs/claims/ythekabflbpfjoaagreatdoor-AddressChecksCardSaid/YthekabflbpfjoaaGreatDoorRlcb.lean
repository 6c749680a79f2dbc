/- The law AddressChecks. -/
import Derived.Test.YthekabflbpfjoaaGreatDoorAvy
import Derived.Test.YthekabflbpfjoaaGreatDoorRfma
namespace Go.Proofs.YthekabflbpfjoaaGreatDoor.adr
open Go.RowKit
open Go.Proofs.YthekabflbpfjoaaGreatDoor

/-- What is known in the law's last line. -/
def Lk (A : Option Addr) (n c : Nat) (d : Bool) (ty nm : ByteArray) (kd m : Int) (t : ByteArray) (p : Nat) (w w' : World) : Prop := Q w w' ∧ Bk p #[.slice A n c, .bool d, .string ty, .string nm, .int .i64 kd, .int .i64 m, .string t] 27 w'
theorem Lk.stays {A : Option Addr} {n c : Nat} {d : Bool} {ty nm : ByteArray} {kd m : Int} {t : ByteArray} {p : Nat} {w w' w2 : World} (h : Lk A n c d ty nm kd m t p w w') (q : Q w' w2) : Lk A n c d ty nm kd m t p w w2 := ⟨h.1.trans q, h.2.stays q⟩
theorem Lk.seen {A : Option Addr} {n c : Nat} {d : Bool} {ty nm : ByteArray} {kd m : Int} {t : ByteArray} {p : Nat} {w w' : World} (h : Lk A n c d ty nm kd m t p w w') :
    Hid (Lk A n c d ty nm kd m t p w w') ∧ w'.cell? ⟨p, 0, none⟩ = some (.slice A n c) ∧ w'.cell? ⟨p, 1, none⟩ = some (.bool d) ∧ w'.cell? ⟨p, 2, none⟩ = some (.string ty) ∧ w'.cell? ⟨p, 3, none⟩ = some (.string nm) ∧ w'.cell? ⟨p, 4, none⟩ = some (.int .i64 kd) ∧ w'.cell? ⟨p, 5, none⟩ = some (.int .i64 m) ∧ w'.cell? ⟨p, 6, none⟩ = some (.string t) :=
  ⟨Lib.hid h, h.2.at 0 _ rfl, h.2.at 1 _ rfl, h.2.at 2 _ rfl, h.2.at 3 _ rfl, h.2.at 4 _ rfl, h.2.at 5 _ rfl, h.2.at 6 _ rfl⟩

set_option maxRecDepth 100000 in
set_option maxHeartbeats 8000000 in
theorem checks_any (A : Option Addr) (n c : Nat) (ms : List St) (r : Rs) (w : World) (hn : n = ms.length) (hI : In A ms w) (hm : Am ms r) (f : Fa w) :
    Calls Tryz.prog 3 #[rv (.slice A n c) r] w fun e w' => e = .returned (.bool true) ∧ Q w w' := by
  have hlim := hm.len
  have cA := wakes w f
  have cF : Hid (∀ w', Q w w' → Calls Tryz.prog 7 #[rv (.slice A n c) r] w' (FewEnds ms r w')) := Lib.hid (fun w' q => few_any A n c ms r w' hn (hI.stays q) hm)
  have cC : Hid (FewOk ms r → ∀ w', Q w w' → Calls Tryz.prog 9 #[rv (.slice A n c) r] w' fun e w'' => e = .returned (.int .i64 (chk ⟨ms, r⟩)) ∧ Q w' w'') := Lib.hid (fun fw w' q => check_any A n c ms r w' (q.fa f) hn (hI.stays q) (hm.ab fw) hlim)
  have cD : Hid (FewOk ms r → ∀ w', Q w w' → Calls Tryz.prog 10 #[rv (.slice A n c) r] w' fun e w'' => e = .returned (.int .i64 (chk ⟨ms, r⟩)) ∧ Q w' w'') := Lib.hid (fun fw w' q => refCheck_any A n c ms r w' hn (hI.stays q) (hm.ab fw) hlim)
  have cO : Hid (FewOk ms r → ∀ w', Q w w' → Calls Tryz.prog 11 #[rv (.slice A n c) r] w' fun e w'' => e = .returned (.string ⟨(fA ⟨ms, r⟩).toArray⟩) ∧ Q w' w'') := Lib.hid (fun fw w' q => format_any A n c ms r w' (q.fa f) hn (hI.stays q) (hm.ab fw) hlim)
  have cP : Hid (FewOk ms r → ∀ w', Q w w' → Calls Tryz.prog 12 #[rv (.slice A n c) r] w' fun e w'' => e = .returned (.string ⟨(fA ⟨ms, r⟩).toArray⟩) ∧ Q w' w'') := Lib.hid (fun fw w' q => refFormat_any A n c ms r w' hn (hI.stays q) (hm.ab fw) hlim)
  have cK : Hid (FewOk ms r → ∀ w', Q w w' → Calls Tryz.prog 13 #[.agg #[.int .i64 r.key.kind, .int .i64 r.key.num, .string r.key.str]] w' fun e w'' => e = .returned (.string ⟨(fK r.key).toArray⟩) ∧ Q w' w'') := Lib.hid (fun fw w' q => formatKey_any r.key w' (q.fa f) (hm.ab fw).key)
  have cL : Hid (FewOk ms r → ∀ w', Q w w' → Calls Tryz.prog 14 #[.agg #[.int .i64 r.key.kind, .int .i64 r.key.num, .string r.key.str]] w' fun e w'' => e = .returned (.string ⟨(fK r.key).toArray⟩) ∧ Q w' w'') := Lib.hid (fun fw w' _ => refFormatKey_any r.key w' (hm.ab fw).key)
  clear f hm hI hn hlim
  obtain ⟨d, ty, nm, ⟨kd, m, t⟩⟩ := r
  unfold rv at *
  simp only at *
  generalize fA ⟨ms, ⟨d, ty, nm, ⟨kd, m, t⟩⟩⟩ = FT at *
  generalize chk ⟨ms, ⟨d, ty, nm, ⟨kd, m, t⟩⟩⟩ = CT at *
  generalize fK ⟨kd, m, t⟩ = KT at *
  generalize (⟨FT.toArray⟩ : ByteArray) = FB at *
  generalize (⟨KT.toArray⟩ : ByteArray) = KB at *
  go_enter Tryz.func3, Tryz.ntmps3
  go_wp2_with fail
  refine (cF.out _ (Q.alloc _ _)).mono ?_; rintro e w1 ⟨B, rfl, hB, q1⟩
  have BB := Lib.hid ((Bk.new #[.slice A n c, .bool d, .string ty, .string nm, .int .i64 kd, .int .i64 m, .string t] 27 w).stays q1)
  have QQ := Lib.hid ((Q.alloc w (.cells #[.slice A n c, .bool d, .string ty, .string nm, .int .i64 kd, .int .i64 m, .string t] 27)).trans q1)
  clear cF q1
  cases B with
  | false =>
    clear hB cC cD cO cP cK cL
    go_wp2_with fail
    refine (cA.out _ QQ.out).mono ?_; rintro e w2 ⟨rfl, q2⟩
    go_wp2_with fail
    go_ret
    exact ⟨rfl, QQ.out.trans q2⟩
  | true =>
    have FW := Lib.hid (hB.out rfl)
    clear hB
    obtain ⟨p, hp⟩ : ∃ z, w.heap.size = z := ⟨_, rfl⟩
    rw [hp] at BB
    have H2 : Hid (Lk A n c d ty nm kd m t p w w1.drew) := Lib.hid ⟨QQ.out.trans (Q.drewN _ 1), BB.out.stays (Q.drewN _ 1)⟩
    have k1 : Hid (∀ w', Hid (Lk A n c d ty nm kd m t p w w') → Calls Tryz.prog 9 #[.agg #[.slice A n c, .bool d, .string ty, .string nm, .int .i64 kd, .int .i64 m, .string t]] w' fun e w'' => e = .returned (.int .i64 CT) ∧ Lk A n c d ty nm kd m t p w w'') := Lib.hid (fun w' h => (cC.out FW.out w' h.out.1).mono fun _ _ ⟨he, hq⟩ => ⟨he, h.out.stays hq⟩)
    have k2 : Hid (∀ w', Hid (Lk A n c d ty nm kd m t p w w') → Calls Tryz.prog 10 #[.agg #[.slice A n c, .bool d, .string ty, .string nm, .int .i64 kd, .int .i64 m, .string t]] w' fun e w'' => e = .returned (.int .i64 CT) ∧ Lk A n c d ty nm kd m t p w w'') := Lib.hid (fun w' h => (cD.out FW.out w' h.out.1).mono fun _ _ ⟨he, hq⟩ => ⟨he, h.out.stays hq⟩)
    have k3 : Hid (∀ w', Hid (Lk A n c d ty nm kd m t p w w') → Calls Tryz.prog 11 #[.agg #[.slice A n c, .bool d, .string ty, .string nm, .int .i64 kd, .int .i64 m, .string t]] w' fun e w'' => e = .returned (.string FB) ∧ Lk A n c d ty nm kd m t p w w'') := Lib.hid (fun w' h => (cO.out FW.out w' h.out.1).mono fun _ _ ⟨he, hq⟩ => ⟨he, h.out.stays hq⟩)
    have k4 : Hid (∀ w', Hid (Lk A n c d ty nm kd m t p w w') → Calls Tryz.prog 12 #[.agg #[.slice A n c, .bool d, .string ty, .string nm, .int .i64 kd, .int .i64 m, .string t]] w' fun e w'' => e = .returned (.string FB) ∧ Lk A n c d ty nm kd m t p w w'') := Lib.hid (fun w' h => (cP.out FW.out w' h.out.1).mono fun _ _ ⟨he, hq⟩ => ⟨he, h.out.stays hq⟩)
    have k5 : Hid (∀ w', Hid (Lk A n c d ty nm kd m t p w w') → Calls Tryz.prog 13 #[.agg #[.int .i64 kd, .int .i64 m, .string t]] w' fun e w'' => e = .returned (.string KB) ∧ Lk A n c d ty nm kd m t p w w'') := Lib.hid (fun w' h => (cK.out FW.out w' h.out.1).mono fun _ _ ⟨he, hq⟩ => ⟨he, h.out.stays hq⟩)
    have k6 : Hid (∀ w', Hid (Lk A n c d ty nm kd m t p w w') → Calls Tryz.prog 14 #[.agg #[.int .i64 kd, .int .i64 m, .string t]] w' fun e w'' => e = .returned (.string KB) ∧ Lk A n c d ty nm kd m t p w w'') := Lib.hid (fun w' h => (cL.out FW.out w' h.out.1).mono fun _ _ ⟨he, hq⟩ => ⟨he, h.out.stays hq⟩)
    have k7 : Hid (∀ w', Hid (Lk A n c d ty nm kd m t p w w') → Calls Tryz.prog 8 #[] w' fun e w'' => e = .returned (.bool true) ∧ Lk A n c d ty nm kd m t p w w'') := Lib.hid (fun w' h => (cA.out w' h.out.1).mono fun _ _ ⟨he, hq⟩ => ⟨he, h.out.stays hq⟩)
    clear cC cD cO cP cK cL cA BB QQ FW
    go_wp2_with fail
    refine Go.wp_region_held_drew (S := fun w' => Hid (Lk A n c d ty nm kd m t p w w') ∧ w'.cell? ⟨p, 0, none⟩ = some (.slice A n c) ∧ w'.cell? ⟨p, 1, none⟩ = some (.bool d) ∧ w'.cell? ⟨p, 2, none⟩ = some (.string ty) ∧ w'.cell? ⟨p, 3, none⟩ = some (.string nm) ∧ w'.cell? ⟨p, 4, none⟩ = some (.int .i64 kd) ∧ w'.cell? ⟨p, 5, none⟩ = some (.int .i64 m) ∧ w'.cell? ⟨p, 6, none⟩ = some (.string t)) (by kernel_rfl) (Lk.seen H2.out) (fun hHeld => ?_)
    clear H2
    refine Go.wpAnyH_take (i := 0) (oi := _) (v := ?_) rfl (by kernel_rfl) (by kernel_rfl) (by kernel_rfl) (fun _ _ _ h => h) (Or.inl ⟨by rfl, ?_⟩) (by assumption) ?_
    rotate_left 1
    · intro wx hSw
      go_simp <;> with_reducible rfl
    simp only [Act.put, List.getElem_toArray, List.getElem_cons_zero, List.setIfInBounds_toArray, List.set_cons_zero, List.set_cons_succ]
    refine Go.wpAnyH_take (i := 2) (oi := _) (v := ?_) rfl (by kernel_rfl) (by kernel_rfl) (by kernel_rfl) (fun _ _ _ h => h) (Or.inl ⟨by rfl, ?_⟩) (by assumption) ?_
    rotate_left 1
    · intro wx hSw
      go_simp <;> with_reducible rfl
    simp only [Act.put, List.getElem_toArray, List.getElem_cons_zero, List.getElem_cons_succ, List.setIfInBounds_toArray, List.set_cons_zero, List.set_cons_succ]
    refine Go.wpAnyH_ready (rs := [1]) (by kernel_rfl) (by simp) ?_
    refine Go.AllReadyH.cons rfl (fun K hK => ?_) Go.AllReadyH.nil
    rw [if_pos (by rfl)]
    go_simp
    go_at_call 9
    refine (k1.out _ hHeld.1).mono ?_
    rintro e v1 ⟨rfl, h1⟩
    refine hK.out _ _ (Lk.seen h1) (fun hHeld => ?_)
    clear hK K
    refine Go.wpAnyH_ready (rs := [3]) (by kernel_rfl) (by simp) ?_
    refine Go.AllReadyH.cons rfl (fun K hK => ?_) Go.AllReadyH.nil
    rw [if_pos (by rfl)]
    go_simp
    go_at_call 10
    refine (k2.out _ hHeld.1).mono ?_
    rintro e v2 ⟨rfl, h2⟩
    refine hK.out _ _ (Lk.seen h2) (fun hHeld => ?_)
    clear hK K
    refine Go.wpAnyH_take (i := 4) (oi := _) (v := ?_) rfl (by kernel_rfl) (by kernel_rfl) (by kernel_rfl) (fun _ _ _ h => h) (Or.inl ⟨by rfl, ?_⟩) (by assumption) ?_
    rotate_left 1
    · intro wx hSw
      go_simp <;> with_reducible rfl
    simp only [Act.put, List.getElem_toArray, List.getElem_cons_zero, List.getElem_cons_succ, List.setIfInBounds_toArray, List.set_cons_zero, List.set_cons_succ]
    refine Go.wpAnyH_take (i := 5) (oi := _) (v := ?_) rfl (by kernel_rfl) (by kernel_rfl) (by kernel_rfl) (fun _ _ _ h => h) (Or.inl ⟨by rfl, ?_⟩) (by assumption) ?_
    rotate_left 1
    · intro wx hSw
      go_simp <;> with_reducible rfl
    simp only [Act.put, List.getElem_toArray, List.getElem_cons_zero, List.getElem_cons_succ, List.setIfInBounds_toArray, List.set_cons_zero, List.set_cons_succ]
    refine Go.wpAnyH_take (i := 6) (oi := _) (v := ?_) rfl (by kernel_rfl) (by kernel_rfl) (by kernel_rfl) (fun _ _ _ h => h) (Or.inl ⟨by rfl, ?_⟩) (by assumption) ?_
    rotate_left 1
    · intro wx hSw
      go_simp <;> with_reducible rfl
    simp only [Act.put, List.getElem_toArray, List.getElem_cons_zero, List.getElem_cons_succ, List.setIfInBounds_toArray, List.set_cons_zero, List.set_cons_succ]
    refine Go.wpAnyH_take (i := 8) (oi := _) (v := ?_) rfl (by kernel_rfl) (by kernel_rfl) (by kernel_rfl) (fun _ _ _ h => h) (Or.inl ⟨by rfl, ?_⟩) (by assumption) ?_
    rotate_left 1
    · intro wx hSw
      go_simp <;> with_reducible rfl
    simp only [Act.put, List.getElem_toArray, List.getElem_cons_zero, List.getElem_cons_succ, List.setIfInBounds_toArray, List.set_cons_zero, List.set_cons_succ]
    refine Go.wpAnyH_ready (rs := [7]) (by kernel_rfl) (by simp) ?_
    refine Go.AllReadyH.cons rfl (fun K hK => ?_) Go.AllReadyH.nil
    rw [if_pos (by rfl)]
    go_simp
    go_at_call 11
    refine (k3.out _ hHeld.1).mono ?_
    rintro e v3 ⟨rfl, h3⟩
    refine hK.out _ _ (Lk.seen h3) (fun hHeld => ?_)
    clear hK K
    refine Go.wpAnyH_ready (rs := [9]) (by kernel_rfl) (by simp) ?_
    refine Go.AllReadyH.cons rfl (fun K hK => ?_) Go.AllReadyH.nil
    rw [if_pos (by rfl)]
    go_simp
    go_at_call 12
    refine (k4.out _ hHeld.1).mono ?_
    rintro e v4 ⟨rfl, h4⟩
    refine hK.out _ _ (Lk.seen h4) (fun hHeld => ?_)
    clear hK K
    refine Go.wpAnyH_take (i := 10) (oi := _) (v := ?_) rfl (by kernel_rfl) (by kernel_rfl) (by kernel_rfl) (fun _ _ _ h => h) (Or.inl ⟨by rfl, ?_⟩) (by assumption) ?_
    rotate_left 1
    · intro wx hSw
      go_simp <;> with_reducible rfl
    simp only [Act.put, List.getElem_toArray, List.getElem_cons_zero, List.getElem_cons_succ, List.setIfInBounds_toArray, List.set_cons_zero, List.set_cons_succ]
    refine Go.wpAnyH_take (i := 11) (oi := _) (v := ?_) rfl (by kernel_rfl) (by kernel_rfl) (by kernel_rfl) (fun _ _ _ h => h) (Or.inl ⟨by rfl, ?_⟩) (by assumption) ?_
    rotate_left 1
    · intro wx hSw
      go_simp <;> with_reducible rfl
    simp only [Act.put, List.getElem_toArray, List.getElem_cons_zero, List.getElem_cons_succ, List.setIfInBounds_toArray, List.set_cons_zero, List.set_cons_succ]
    refine Go.wpAnyH_take (i := 12) (oi := _) (v := ?_) rfl (by kernel_rfl) (by kernel_rfl) (by kernel_rfl) (fun _ _ _ h => h) (Or.inl ⟨by rfl, ?_⟩) (by assumption) ?_
    rotate_left 1
    · intro wx hSw
      go_simp <;> with_reducible rfl
    simp only [Act.put, List.getElem_toArray, List.getElem_cons_zero, List.getElem_cons_succ, List.setIfInBounds_toArray, List.set_cons_zero, List.set_cons_succ]
    refine Go.wpAnyH_take (i := 13) (oi := _) (v := ?_) rfl (by kernel_rfl) (by kernel_rfl) (by kernel_rfl) (fun _ _ _ h => h) (Or.inl ⟨by rfl, ?_⟩) (by assumption) ?_
    rotate_left 1
    · intro wx hSw
      go_simp <;> with_reducible rfl
    simp only [Act.put, List.getElem_toArray, List.getElem_cons_zero, List.getElem_cons_succ, List.setIfInBounds_toArray, List.set_cons_zero, List.set_cons_succ]
    refine Go.wpAnyH_take (i := 14) (oi := _) (v := ?_) rfl (by kernel_rfl) (by kernel_rfl) (by kernel_rfl) (fun _ _ _ h => h) (Or.inl ⟨by rfl, ?_⟩) (by assumption) ?_
    rotate_left 1
    · intro wx hSw
      go_simp <;> with_reducible rfl
    simp only [Act.put, List.getElem_toArray, List.getElem_cons_zero, List.getElem_cons_succ, List.setIfInBounds_toArray, List.set_cons_zero, List.set_cons_succ]
    refine Go.wpAnyH_take (i := 16) (oi := _) (v := ?_) rfl (by kernel_rfl) (by kernel_rfl) (by kernel_rfl) (fun _ _ _ h => h) (Or.inl ⟨by rfl, ?_⟩) (by assumption) ?_
    rotate_left 1
    · intro wx hSw
      go_simp <;> with_reducible rfl
    simp only [Act.put, List.getElem_toArray, List.getElem_cons_zero, List.getElem_cons_succ, List.setIfInBounds_toArray, List.set_cons_zero, List.set_cons_succ]
    refine Go.wpAnyH_take (i := 17) (oi := _) (v := ?_) rfl (by kernel_rfl) (by kernel_rfl) (by kernel_rfl) (fun _ _ _ h => h) (Or.inl ⟨by rfl, ?_⟩) (by assumption) ?_
    rotate_left 1
    · intro wx hSw
      go_simp <;> with_reducible rfl
    simp only [Act.put, List.getElem_toArray, List.getElem_cons_zero, List.getElem_cons_succ, List.setIfInBounds_toArray, List.set_cons_zero, List.set_cons_succ]
    refine Go.wpAnyH_ready (rs := [15]) (by kernel_rfl) (by simp) ?_
    refine Go.AllReadyH.cons rfl (fun K hK => ?_) Go.AllReadyH.nil
    rw [if_pos (by rfl)]
    go_simp
    go_at_call 13
    refine (k5.out _ hHeld.1).mono ?_
    rintro e v5 ⟨rfl, h5⟩
    refine hK.out _ _ (Lk.seen h5) (fun hHeld => ?_)
    clear hK K
    refine Go.wpAnyH_ready (rs := [18]) (by kernel_rfl) (by simp) ?_
    refine Go.AllReadyH.cons rfl (fun K hK => ?_) Go.AllReadyH.nil
    rw [if_pos (by rfl)]
    go_simp
    go_at_call 14
    refine (k6.out _ hHeld.1).mono ?_
    rintro e v6 ⟨rfl, h6⟩
    refine hK.out _ _ (Lk.seen h6) (fun hHeld => ?_)
    clear hK K
    refine Go.wpAnyH_take (i := 19) (oi := _) (v := ?_) rfl (by kernel_rfl) (by kernel_rfl) (by kernel_rfl) (fun _ _ _ h => h) (Or.inl ⟨by rfl, ?_⟩) (by assumption) ?_
    rotate_left 1
    · intro wx hSw
      go_simp <;> with_reducible rfl
    simp only [Act.put, List.getElem_toArray, List.getElem_cons_zero, List.getElem_cons_succ, List.setIfInBounds_toArray, List.set_cons_zero, List.set_cons_succ]
    refine Go.wpAnyH_take (i := 20) (oi := _) (v := ?_) rfl (by kernel_rfl) (by kernel_rfl) (by kernel_rfl) (fun _ _ _ h => h) (Or.inl ⟨by rfl, ?_⟩) (by assumption) ?_
    rotate_left 1
    · intro wx hSw
      go_simp <;> with_reducible rfl
    simp only [Act.put, List.getElem_toArray, List.getElem_cons_zero, List.getElem_cons_succ, List.setIfInBounds_toArray, List.set_cons_zero, List.set_cons_succ]
    refine Go.wpAnyH_take (i := 21) (oi := _) (v := ?_) rfl (by kernel_rfl) (by kernel_rfl) (by kernel_rfl) (fun _ _ _ h => h) (Or.inl ⟨by rfl, ?_⟩) (by assumption) ?_
    rotate_left 1
    · intro wx hSw
      go_simp <;> with_reducible rfl
    simp only [Act.put, List.getElem_toArray, List.getElem_cons_zero, List.getElem_cons_succ, List.setIfInBounds_toArray, List.set_cons_zero, List.set_cons_succ]
    refine Go.wpAnyH_ready (rs := [22]) (by kernel_rfl) (by simp) ?_
    refine Go.AllReadyH.cons rfl (fun K hK => ?_) Go.AllReadyH.nil
    rw [if_pos (by rfl)]
    go_simp
    go_at_call 8
    refine (k7.out _ hHeld.1).mono ?_
    rintro e v7 ⟨rfl, h7⟩
    refine hK.out _ _ (Lk.seen h7) (fun hHeld => ?_)
    clear hK K
    refine Go.wpAnyH_take (i := 23) (oi := _) (v := ?_) rfl (by kernel_rfl) (by kernel_rfl) (by kernel_rfl) (fun _ _ _ h => h) (Or.inl ⟨by rfl, ?_⟩) (by assumption) ?_
    rotate_left 1
    · intro wx hSw
      go_simp <;> with_reducible rfl
    simp only [Act.put, List.getElem_toArray, List.getElem_cons_zero, List.getElem_cons_succ, List.setIfInBounds_toArray, List.set_cons_zero, List.set_cons_succ]
    refine Go.wpAnyH_take (i := 24) (oi := _) (v := ?_) rfl (by kernel_rfl) (by kernel_rfl) (by kernel_rfl) (fun _ _ _ h => h) (Or.inl ⟨by rfl, ?_⟩) (by assumption) ?_
    rotate_left 1
    · intro wx hSw
      go_simp <;> with_reducible rfl
    simp only [Act.put, List.getElem_toArray, List.getElem_cons_zero, List.getElem_cons_succ, List.setIfInBounds_toArray, List.set_cons_zero, List.set_cons_succ]
    refine Go.wpAnyH_done (by kernel_rfl) ?_ _
    go_wp2_with fail
    go_ret
    exact ⟨rfl, hHeld.1.out.1⟩

end Go.Proofs.YthekabflbpfjoaaGreatDoor.adr
