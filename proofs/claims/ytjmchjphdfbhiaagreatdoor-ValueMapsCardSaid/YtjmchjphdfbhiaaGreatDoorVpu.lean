/- Put: every way. -/
import Derived.Test.YtjmchjphdfbhiaaGreatDoorVpn
namespace Go.Proofs.YtjmchjphdfbhiaaGreatDoor.val
open Go.RowKit
open Go.Proofs.YtjmchjphdfbhiaaGreatDoor
open Go.Proofs.YtjmchjphdfbhiaaGreatDoor.val.cp (Fit FitL Fit_iff FitL_mem set5 set5_block set5_world set5_at)
set_option maxHeartbeats 8000000 in
set_option maxRecDepth 100000 in
/-- Not a map. -/
theorem put_no (vk vn : Int) (vs : ByteArray) (ks : List ByteArray) (l : List V) (key : ByteArray) (x : V) (A3 A4 X3 X4 : Option Addr) (k3 k4 x3 x4 : Nat) (w : World) (hno : ¬ (vk = 5 ∧ ks.length = l.length)) :
    Calls Tryz.prog 31 #[.agg #[.int .i64 vk, .int .i64 vn, .string vs, .slice A3 l.length k3, .slice A4 ks.length k4], .string key, .agg #[.int .i64 x.kind, .int .i64 x.num, .string x.str, .slice X3 x.items.length x3, .slice X4 x.keys.length x4]] w (Putted ⟨vk, vn, vs, l, ks⟩ key x w) := by
  have cM : Hid (∀ w' : World, Calls Tryz.prog 53 #[.agg #[.int .i64 vk, .int .i64 vn, .string vs, .slice A3 l.length k3, .slice A4 ks.length k4]] w' fun e w'' => e = .returned (.bool false) ∧ Q w' w'') := Lib.hid (fun w' => by
    have h := isMap_any vk vn vs A3 A4 l.length ks.length k3 k4 w'
    rw [decide_eq_false hno] at h
    exact h)
  have HR : Hid (∀ e w', Q w w' → e = .returned (.agg #[.int .i64 0, .int .i64 0, .string ⟨#[]⟩, .slice none 0 0, .slice none 0 0]) → Putted ⟨vk, vn, vs, l, ks⟩ key x w e w') := Lib.hid (fun e w' q h => ⟨q, by rw [if_neg (show ¬ ((V.mk vk vn vs l ks).kind = 5 ∧ (V.mk vk vn vs l ks).keys.length = (V.mk vk vn vs l ks).items.length) from hno)]; exact h⟩)
  clear hno
  obtain ⟨n, hn⟩ : ∃ n, l.length = n := ⟨_, rfl⟩
  obtain ⟨m, hm⟩ : ∃ n, ks.length = n := ⟨_, rfl⟩
  obtain ⟨xk, hxk⟩ : ∃ a, x.kind = a := ⟨_, rfl⟩
  obtain ⟨xn, hxn⟩ : ∃ a, x.num = a := ⟨_, rfl⟩
  obtain ⟨xs, hxs⟩ : ∃ a, x.str = a := ⟨_, rfl⟩
  obtain ⟨n5, hn5⟩ : ∃ a, x.items.length = a := ⟨_, rfl⟩
  obtain ⟨n6, hn6⟩ : ∃ a, x.keys.length = a := ⟨_, rfl⟩
  rw [hn, hm] at cM ⊢
  rw [hxk, hxn, hxs, hn5, hn6]
  clear hn hm hxk hxn hxs hn5 hn6
  obtain ⟨wa, hwa⟩ : ∃ wa, w.alloc (.cells #[.int .i64 vk, .int .i64 vn, .string vs, .slice A3 n k3, .slice A4 m k4] 26) = wa := ⟨_, rfl⟩
  obtain ⟨wb, hwb⟩ : ∃ wb, wa.alloc (.cells #[.int .i64 xk, .int .i64 xn, .string xs, .slice X3 n5 x3, .slice X4 n6 x4] 26) = wb := ⟨_, rfl⟩
  obtain ⟨wc, hwc⟩ : ∃ wc, wb.alloc (.cells #[.int .i64 0, .int .i64 0, .string ⟨#[]⟩, .slice none 0 0, .slice none 0 0] 26) = wc := ⟨_, rfl⟩
  obtain ⟨B, hB⟩ : ∃ B, w.heap.size = B := ⟨_, rfl⟩
  obtain ⟨C, hC⟩ : ∃ C, wa.heap.size = C := ⟨_, rfl⟩
  obtain ⟨P, hP⟩ : ∃ P, wb.heap.size = P := ⟨_, rfl⟩
  have qa : Q w wa := by rw [← hwa]; exact Q.box _ _
  have qb : Q wa wb := by rw [← hwb]; exact Q.box _ _
  have qc : Q wb wc := by rw [← hwc]; exact Q.box _ _
  have bB : Bk B #[.int .i64 vk, .int .i64 vn, .string vs, .slice A3 n k3, .slice A4 m k4] 26 wc := by
    have h : Bk B #[.int .i64 vk, .int .i64 vn, .string vs, .slice A3 n k3, .slice A4 m k4] 26 wa := by rw [← hwa, ← hB]; exact Bk.new _ _ _
    exact h.stays (qb.trans qc)
  have bC : Bk C #[.int .i64 xk, .int .i64 xn, .string xs, .slice X3 n5 x3, .slice X4 n6 x4] 26 wc := by
    have h : Bk C #[.int .i64 xk, .int .i64 xn, .string xs, .slice X3 n5 x3, .slice X4 n6 x4] 26 wb := by rw [← hwb, ← hC]; exact Bk.new _ _ _
    exact h.stays qc
  have bP : Bk P #[.int .i64 0, .int .i64 0, .string ⟨#[]⟩, .slice none 0 0, .slice none 0 0] 26 wc := by rw [← hwc, ← hP]; exact Bk.new _ _ _
  have b0 := bB.at 0 _ rfl
  have b1 := bB.at 1 _ rfl
  have b2 := bB.at 2 _ rfl
  have b3 := bB.at 3 _ rfl
  have b4 := bB.at 4 _ rfl
  have QC := Lib.hid ((qa.trans qb).trans qc)
  have BB := Lib.hid bB
  have BC := Lib.hid bC
  have BP := Lib.hid bP
  have QBC := Lib.hid qc
  have QAB := Lib.hid (qa.trans qb)
  have HSZ := Lib.hid (show B = w.heap.size ∧ C = B + 1 ∧ P = B + 2 ∧ wc.heap.size = B + 3 by
    rw [← hP, ← hC, ← hB, ← hwc, size_alloc, ← hwb, size_alloc, ← hwa, size_alloc]
    omega)
  clear qa qb qc bB bC bP
  go_enter Tryz.func31, Tryz.ntmps31
  go_wp2_with fail
  refine (cM.out _).mono ?_
  rintro e w1 ⟨rfl, q1⟩
  have z := BP.out.stays q1
  have u0 := z.at 0 _ rfl
  have u1 := z.at 1 _ rfl
  have u2 := z.at 2 _ rfl
  have u3 := z.at 3 _ rfl
  have u4 := z.at 4 _ rfl
  have f0 := z.frozen 0
  have f1 := z.frozen 1
  have f2 := z.frozen 2
  have f3 := z.frozen 3
  have f4 := z.frozen 4
  have hset := set5_world w1 P 0 (.int .i64 0) (.int .i64 0) (.string ⟨#[]⟩) (.slice none 0 0) (.slice none 0 0)
  have hsetb := set5_block w1 P 0 (.int .i64 0) (.int .i64 0) (.string ⟨#[]⟩) (.slice none 0 0) (.slice none 0 0)
  have bf : Bk P #[.int .i64 0, .int .i64 0, .string ⟨#[]⟩, .slice none 0 0, .slice none 0 0] 26 (set5 w1 P 0 (.int .i64 0) (.int .i64 0) (.string ⟨#[]⟩) (.slice none 0 0) (.slice none 0 0)) := ((((z.set 0 (.int .i64 0)).set 1 (.int .i64 0)).set 2 (.string ⟨#[]⟩)).set 3 (.slice none 0 0)).set 4 (.slice none 0 0)
  obtain ⟨wf, hwf⟩ : ∃ wf, set5 w1 P 0 (.int .i64 0) (.int .i64 0) (.string ⟨#[]⟩) (.slice none 0 0) (.slice none 0 0) = wf := ⟨_, rfl⟩
  rw [hwf] at hset hsetb bf
  have q6 := QC.out.trans q1
  have q7 : Q w wf := ⟨hset.1.trans q6.os, hset.2.1.trans q6.tape, hset.2.2.1.trans q6.output, by have h1 := q6.size; omega, fun j hj => by
    have := HSZ.out
    rw [hsetb j (by omega), q6.block j hj]⟩
  unfold set5 at hwf
  simp only [Nat.zero_add] at hwf
  have r0 := bf.at 0 _ rfl
  have r1 := bf.at 1 _ rfl
  have r2 := bf.at 2 _ rfl
  have r3 := bf.at 3 _ rfl
  have r4 := bf.at 4 _ rfl
  have Q7 := Lib.hid q7
  clear b0 b1 b2 b3 b4 bf z q6 q7 q1 hset hsetb hwa hwb hwc
  go_wp2_with fail
  refine bodyPost_ret (by simp [results, Tryz.results31, go_sem, r0, r1, r2, r3, r4]; try rfl) rfl ?_
  exact HR.out _ _ Q7.out rfl
/-- Put. -/
theorem put_any (vk vn : Int) (vs : ByteArray) (ks : List ByteArray) (l : List V) (key : ByteArray) (x : V) (A3 A4 X3 X4 : Option Addr) (k3 k4 x3 x4 : Nat) (w : World) (h3 : Is (.slice A3 l.length k3) l w) (h4 : Ks (.slice A4 ks.length k4) ks w) (hx3 : Is (.slice X3 x.items.length x3) x.items w) (hx4 : Ks (.slice X4 x.keys.length x4) x.keys w)
    (hs : vk = 5 → ks.length = l.length → srt ks) (hf : FitL l) (hfk : ∀ k ∈ ks, k.size ≤ 281474976710656) (hfx : Fit x) (hkz : key.size ≤ 281474976710656) (hn : nodesL l ≤ 100000) (hnx : nodes x ≤ 100000) (hn4 : ks.length ≤ 100000) :
    Calls Tryz.prog 31 #[.agg #[.int .i64 vk, .int .i64 vn, .string vs, .slice A3 l.length k3, .slice A4 ks.length k4], .string key, .agg #[.int .i64 x.kind, .int .i64 x.num, .string x.str, .slice X3 x.items.length x3, .slice X4 x.keys.length x4]] w (Putted ⟨vk, vn, vs, l, ks⟩ key x w) := by
  by_cases h : vk = 5 ∧ ks.length = l.length
  · cases hfd : fnd ks key with
    | true => exact put_some vk vn vs ks l key x A3 A4 X3 X4 k3 k4 x3 x4 w h3 h4 hx3 hx4 (hs h.1 h.2) hf hfk hfx hn hnx h.2 hn4 hfd h.1
    | false => exact put_new vk vn vs ks l key x A3 A4 X3 X4 k3 k4 x3 x4 w h3 h4 hx3 hx4 (hs h.1 h.2) hf hfk hfx hn hnx h.2 hn4 hkz hfd h.1
  · exact put_no vk vn vs ks l key x A3 A4 X3 X4 k3 k4 x3 x4 w h
end Go.Proofs.YtjmchjphdfbhiaaGreatDoor.val
