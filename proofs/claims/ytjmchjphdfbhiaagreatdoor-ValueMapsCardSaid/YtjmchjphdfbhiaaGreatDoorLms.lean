/- The law ValueMaps, of every argument. -/
import Derived.Test.YtjmchjphdfbhiaaGreatDoorLmr
import Derived.Test.YtjmchjphdfbhiaaGreatDoorWmk
namespace Go.Proofs.YtjmchjphdfbhiaaGreatDoor.val
open Go.RowKit
open Go.Proofs.YtjmchjphdfbhiaaGreatDoor
open Go.Proofs.YtjmchjphdfbhiaaGreatDoor.lit (Fx)
open Go.Proofs.YtjmchjphdfbhiaaGreatDoor.val.cp (Fit FitL Fit_iff FitL_mem)
theorem maps_x (A4 : Option Addr) (n4 c4 : Nat) (A3 : Option Addr) (n3 c3 : Nat) (key : ByteArray) (b : V) (B3 : Option Addr) (l3 : Nat) (B4 : Option Addr) (l4 : Nat) (w : World) (_h4 : n4 ≤ maxLen) (g4 : ∃ ks : List ByteArray, ks.length = n4 ∧ Ks (.slice A4 n4 c4) ks w ∧ ∀ k ∈ ks, k.size ≤ 281474976710656) (_h3 : n3 ≤ maxLen) (g3 : ∃ l : List V, l.length = n3 ∧ Is (.slice A3 n3 c3) l w ∧ WfL l ∧ SzL l) (hk : key.size ≤ maxLen ∧ key.size ≤ 281474976710656) (hb : Va b B3 l3 B4 l4 w ∧ Sz b) (f : Fx w) :
    Calls Tryz.prog 5 #[.slice A4 n4 c4, .slice A3 n3 c3, .agg #[.string key, .int .i64 b.kind, .int .i64 b.num, .string b.str, .slice B3 b.items.length l3, .slice B4 b.keys.length l4]] w fun e w' => e = .returned (.bool true) ∧ Q w w' := by
  obtain ⟨ks, rfl, hK, hkz⟩ := g4
  obtain ⟨l, rfl, hI, hwl, hzl⟩ := g3
  have cA := Lib.hid (fun w' (q : Q w w') => awake_any w' (q.fx f))
  by_cases h40 : 40 < ks.length
  · exact maps_a _ _ _ _ _ _ _ _ _ _ _ _ _ _ _ _ w cA h40
  by_cases h41 : 40 < l.length
  · exact maps_b _ _ _ _ _ _ _ _ _ _ _ _ _ _ _ _ w cA (by omega) h41
  have cL := Lib.hid (fun w' => rlist_any A3 l.length c3 w')
  have wL : Wf ⟨4, 0, ⟨#[]⟩, l, []⟩ := (Wf_iff _).2 ⟨(show (-9223372036854775808 : Int) ≤ 4 ∧ (4 : Int) ≤ 9223372036854775807 from by decide), (show (-9223372036854775808 : Int) ≤ 0 ∧ (0 : Int) ≤ 9223372036854775807 from by decide), (show (0 : Nat) ≤ maxLen from Nat.zero_le _), (show l.length ≤ maxLen by unfold maxLen; omega), Nat.zero_le _, (fun x hx => absurd hx (List.not_mem_nil)), hwl⟩
  have zL : Sz ⟨4, 0, ⟨#[]⟩, l, []⟩ := (Sz_iff ..).2 ⟨(show (0 : Nat) ≤ 281474976710656 from Nat.zero_le _), Nat.zero_le _, (fun x hx => absurd hx (List.not_mem_nil)), hzl⟩
  have cS : Hid (∀ w', Q w w' → Calls Tryz.prog 10 #[.agg #[.int .i64 4, .int .i64 0, .string ⟨#[]⟩, .slice A3 l.length c3, .slice none 0 0], .int .i64 400] w' fun e w'' => e = .returned (.bool (smallB ⟨4, 0, ⟨#[]⟩, l, []⟩ 400)) ∧ Q w' w'') := Lib.hid (fun w' q => small_any ⟨4, 0, ⟨#[]⟩, l, []⟩ A3 c3 none 0 w' ⟨hI.stays q, Ks.nil _ _ _, wL⟩)
  have cT : Hid (∀ w', Q w w' → Calls Tryz.prog 10 #[.agg #[.int .i64 b.kind, .int .i64 b.num, .string b.str, .slice B3 b.items.length l3, .slice B4 b.keys.length l4], .int .i64 400] w' fun e w'' => e = .returned (.bool (smallB b 400)) ∧ Q w' w'') := Lib.hid (fun w' q => small_any b B3 l3 B4 l4 w' (hb.1.stays q))
  cases s1 : smallB ⟨4, 0, ⟨#[]⟩, l, []⟩ 400 with
  | false =>
    rw [s1] at cS
    exact maps_c _ _ _ _ _ _ _ _ _ _ _ _ _ _ _ _ w cA (by omega) (by omega) cL cS
  | true =>
    rw [s1] at cS
    cases s2 : smallB b 400 with
    | false =>
      rw [s2] at cT
      exact maps_d _ _ _ _ _ _ _ _ _ _ _ _ _ _ _ _ w cA (by omega) (by omega) cL cS cT
    | true =>
      rw [s2] at cT
      have hkm : ∀ k ∈ ks, k.size ≤ maxLen := fun k h => by have := hkz k h; unfold maxLen; omega
      obtain ⟨fL, nL⟩ := small_fit s1 zL
      rw [nodes] at nL
      have nb := smallB_nodes s2
      by_cases hlen : ks.length = l.length
      · cases hm : mapP [] (ks.zip l) with
        | none =>
          exact maps_e _ _ _ _ _ _ _ _ _ _ _ _ _ _ _ _ w cA (by omega) (by omega) cL cS cT 0 0 ⟨#[]⟩ none 0 0 none 0 0 8 (by decide)
            (Lib.hid (fun w' q => (map_eq ks l A4 A3 c4 c3 w' hlen (hK.stays q) (hI.stays q) ((Fit_iff _).1 fL).2.2.2.2 hkz (by omega) (by omega)).mono fun e w'' h => h.dup hlen hm))
            (Lib.hid (fun w' q => (rmap_eq ks l A4 A3 c4 c3 w' hlen (hK.stays q) (hI.stays q) hwl hkm (by omega)).mono fun e w'' h => h.dup hlen hm))
            (Lib.hid (fun w' => reqZ w'))
        | some r =>
          obtain ⟨ar, pr, lr, nr⟩ := mapR_says hm hlen
          have okr := okR_zip hkm hwl pr
          have cM := Lib.hid (fun w' (q : Q w w') => (map_eq ks l A4 A3 c4 c3 w' hlen (hK.stays q) (hI.stays q) ((Fit_iff _).1 fL).2.2.2.2 hkz (by omega) (by omega)).mono fun e w'' h => h.yes hlen hm (n := r.length) rfl)
          have cR := Lib.hid (fun w' (q : Q w w') => (rmap_eq ks l A4 A3 c4 c3 w' hlen (hK.stays q) (hI.stays q) hwl hkm (by omega)).mono fun e w'' h => h.yes hlen hm (n := r.length) rfl)
          by_cases c0 : chkE (mk5 r) = 0
          · by_cases u0 : chkE b = 0
            · exact maps_h _ _ _ _ _ _ _ _ _ _ _ _ _ _ _ _ w cA (by omega) (by omega) cL cS cT r r.length rfl (by omega) okr cM cR ar c0 (by omega) b hb.1 ⟨rfl, rfl, rfl, rfl, rfl⟩ hk.2 hk.1 u0 (by omega)
            · exact maps_g _ _ _ _ _ _ _ _ _ _ _ _ _ _ _ _ w cA (by omega) (by omega) cL cS cT r r.length rfl (by omega) okr cM cR ar c0 (by omega) b hb.1 ⟨rfl, rfl, rfl, rfl, rfl⟩ hk.1 u0
          · exact maps_f _ _ _ _ _ _ _ _ _ _ _ _ _ _ _ _ w cA (by omega) (by omega) cL cS cT r r.length rfl (by omega) okr cM cR c0
      · exact maps_e _ _ _ _ _ _ _ _ _ _ _ _ _ _ _ _ w cA (by omega) (by omega) cL cS cT 0 0 ⟨#[]⟩ none 0 0 none 0 0 1 (by decide)
          (Lib.hid (fun w' _ => (map_ne ks l A4 A3 c4 c3 w' hlen).mono fun e w'' h => h.ne hlen))
          (Lib.hid (fun w' _ => (rmap_ne ks l A4 A3 c4 c3 w' hlen).mono fun e w'' h => h.ne hlen))
          (Lib.hid (fun w' => reqZ w'))

end Go.Proofs.YtjmchjphdfbhiaaGreatDoor.val
