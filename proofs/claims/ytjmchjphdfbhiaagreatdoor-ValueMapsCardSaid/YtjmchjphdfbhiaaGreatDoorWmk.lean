/- The reference's makers. -/
import Derived.Test.YtjmchjphdfbhiaaGreatDoorWsr
import Derived.Test.YtjmchjphdfbhiaaGreatDoorVak
namespace Go.Proofs.YtjmchjphdfbhiaaGreatDoor.val
open Go.RowKit
open Go.Proofs.YtjmchjphdfbhiaaGreatDoor
/-- A value without items and keys, handed back. -/
def Leaf (k n : Int) (s : ByteArray) (w : World) (e : Ending) (w' : World) : Prop := ∃ A c B d, e = .returned (.agg #[.int .i64 k, .int .i64 n, .string s, .slice A 0 c, .slice B 0 d]) ∧ Q w w'
theorem Made.leaf {k n : Int} {s : ByteArray} {w : World} {e : Ending} {w' : World} (h : Made ⟨k, n, s, [], []⟩ w e w') : Leaf k n s w e w' := by
  obtain ⟨s3, s4, rfl, h3, h4, q⟩ := h
  obtain ⟨A, c, rfl, -⟩ := h3.shape
  obtain ⟨B, d, rfl, -⟩ := h4.shape
  exact ⟨A, c, B, d, rfl, q⟩
set_option maxRecDepth 100000 in
theorem rnull_any (w : World) : Calls Tryz.prog 17 #[] w (Leaf 0 0 ⟨#[]⟩ w) := by
  go_enter Tryz.func17, Tryz.ntmps17
  go_wp2_with fail
  go_returns
  exact ⟨_, _, _, _, rfl, Q.box _ _⟩
set_option maxRecDepth 100000 in
theorem runknown_any (w : World) : Calls Tryz.prog 19 #[] w (Leaf 6 0 ⟨#[]⟩ w) := by
  go_enter Tryz.func19, Tryz.ntmps19
  go_wp2_with fail
  go_returns
  exact ⟨_, _, _, _, rfl, Q.box _ _⟩
set_option maxRecDepth 100000 in
theorem rbool_any (b : Bool) (w : World) : Calls Tryz.prog 21 #[.bool b] w (Leaf 1 (if b then 1 else 0) ⟨#[]⟩ w) := by
  cases b
  · go_enter Tryz.func21, Tryz.ntmps21
    go_wp2_with fail
    go_returns
    exact ⟨_, _, _, _, rfl, Q.box _ _⟩
  · go_enter Tryz.func21, Tryz.ntmps21
    go_wp2_with fail
    go_returns
    exact ⟨_, _, _, _, rfl, Q.box _ _⟩
set_option maxRecDepth 100000 in
theorem rnumber2_any (n : Int) (w : World) : Calls Tryz.prog 23 #[.int .i64 n] w (Leaf 2 n ⟨#[]⟩ w) := by
  go_enter Tryz.func23, Tryz.ntmps23
  go_wp2_with fail
  go_returns
  exact ⟨_, _, _, _, rfl, Q.box _ _⟩
set_option maxRecDepth 100000 in
theorem rstring_any (s : ByteArray) (w : World) : Calls Tryz.prog 25 #[.string s] w (Leaf 3 0 s w) := by
  go_enter Tryz.func25, Tryz.ntmps25
  go_wp2_with fail
  go_returns
  exact ⟨_, _, _, _, rfl, Q.box _ _⟩
set_option maxRecDepth 100000 in
theorem rlist_any (A : Option Addr) (n c : Nat) (w : World) : Calls Tryz.prog 14 #[.slice A n c] w fun e w' => e = .returned (.agg #[.int .i64 4, .int .i64 0, .string ⟨#[]⟩, .slice A n c, .slice none 0 0]) ∧ Q w w' := by
  go_enter Tryz.func14, Tryz.ntmps14
  go_wp2_with fail
  go_returns
  exact ⟨rfl, Q.box _ _⟩

end Go.Proofs.YtjmchjphdfbhiaaGreatDoor.val
