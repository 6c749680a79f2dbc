/- The law ValuePuts. -/
import Derived.Test.YtjmchjphdfbhiaaGreatDoorVal
import Derived.Test.YtjmchjphdfbhiaaGreatDoorLpb
import Derived.Test.YtjmchjphdfbhiaaGreatDoorLpc
import Derived.Test.YtjmchjphdfbhiaaGreatDoorLpd
import Derived.Test.YtjmchjphdfbhiaaGreatDoorWsz
namespace Go.Proofs.YtjmchjphdfbhiaaGreatDoor.val
open Go.RowKit
open Go.Proofs.YtjmchjphdfbhiaaGreatDoor
open Go.Proofs.YtjmchjphdfbhiaaGreatDoor.lit (Fx)
open Go.Proofs.YtjmchjphdfbhiaaGreatDoor.val.cp (Fit FitL Fit_iff FitL_mem set5 set5_block set5_world set5_at)
theorem putsLaw_any (a : V) (A3 : Option Addr) (k3 : Nat) (A4 : Option Addr) (k4 : Nat) (key : ByteArray) (b : V) (B3 : Option Addr) (l3 : Nat) (B4 : Option Addr) (l4 : Nat) (other : ByteArray) (w : World) (ha : Va a A3 k3 A4 k4 w) (hb : Va b B3 l3 B4 l4 w) (hkey : key.size ≤ 281474976710656) (f : Fx w) :
    Calls Tryz.prog 9 #[vv a A3 k3 A4 k4, .agg #[.string key, .int .i64 b.kind, .int .i64 b.num, .string b.str, .slice B3 b.items.length l3, .slice B4 b.keys.length l4], .string other] w fun e w' => e = .returned (.bool true) ∧ Q w w' := by
  by_cases h : [a, b].all okV = true ∧ a.kind = 5
  rotate_left 1
  · exact puts_bad a A3 k3 A4 k4 key b B3 l3 B4 l4 other w ha hb hkey f h
  cases ho : (getV a key).isSome
  · by_cases hk : other = key
    · exact puts_eq0 a A3 k3 A4 k4 key b B3 l3 B4 l4 other w ha hb hkey f h.1 h.2 hk ho
    · exact puts_ne0 a A3 k3 A4 k4 key b B3 l3 B4 l4 other w ha hb hkey f h.1 h.2 hk ho
  · by_cases hk : other = key
    · exact puts_eq1 a A3 k3 A4 k4 key b B3 l3 B4 l4 other w ha hb hkey f h.1 h.2 hk ho
    · exact puts_ne1 a A3 k3 A4 k4 key b B3 l3 B4 l4 other w ha hb hkey f h.1 h.2 hk ho
theorem puts_x (a : V) (A3 : Option Addr) (k3 : Nat) (A4 : Option Addr) (k4 : Nat) (key : ByteArray) (b : V) (B3 : Option Addr) (l3 : Nat) (B4 : Option Addr) (l4 : Nat) (other : ByteArray) (w : World) (ha : Va a A3 k3 A4 k4 w) (hk : key.size ≤ maxLen ∧ key.size ≤ 281474976710656) (hb : Va b B3 l3 B4 l4 w ∧ Sz b) (_ho : other.size ≤ maxLen) (f : Fx w) :
    Calls Tryz.prog 9 #[.agg #[.int .i64 a.kind, .int .i64 a.num, .string a.str, .slice A3 a.items.length k3, .slice A4 a.keys.length k4], .agg #[.string key, .int .i64 b.kind, .int .i64 b.num, .string b.str, .slice B3 b.items.length l3, .slice B4 b.keys.length l4], .string other] w fun e w' => e = .returned (.bool true) ∧ Q w w' := putsLaw_any a A3 k3 A4 k4 key b B3 l3 B4 l4 other w ha hb.1 hk.2 f

end Go.Proofs.YtjmchjphdfbhiaaGreatDoor.val
