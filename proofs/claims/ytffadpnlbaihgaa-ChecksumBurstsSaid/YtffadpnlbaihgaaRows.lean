/-
  No cell of these rows narrows 'for every input' (looked for: loops, veiled, ifaces, maps, wideKeys, modest, calm, conditions, laid).
  DERIVED. THE GIVEN ROWS OF THIS SEAT. 5 by the template 'for every input the law returns true; each argument reads behind the call as it read before'; 0 by the template 'total and deterministic' (their statements: YtffadpnlbaihgaaTotals.lean).
  GIVEN WITH THE SEED: the statements are not yours to turn. If you find one false, say at which input.
  Laid BY PROGRAM, IN A SANDBOX (cutbox-rows.mjs): the forced cells as the released guide's own fill.sh prints them over the translation 4d3d611244d235df… (all of the seat's roots in one cut). By AI agents, Wed Nov 11 2026. No macro, syntax, notation, axiom, sorry.
-/
import Derived.Test.YtffadpnlbaihgaaChecked
import GoSem.Claim
import GoSem.ClaimJoined
import GoSem.ClaimMapViews
import Derived.JoinedTies
import Derived.KernelRfl
namespace Go.Proofs.Ytffadpnlbaihgaa
/- THE CELL 'sum', in the pinned program and in every row, IS THE sha256 OF THE DUMP (.gsa) THAT YtffadpnlbaihgaaProg.lean LOADS. Nothing in Lean hashes anything: it is a label: what it is worth is what the hold of that sum in a sandbox is worth. -/
noncomputable def Try.pinned : Pinned := { name := "ytffadpnlbaihgaa", sum := "4d3d611244d235dfeec6fd5893438fac217805897c5dad1ed640793ece3ef41d", checked := Try.checked }
namespace Rows
def none {H : Type} : Left H := { results := [], args := [] }

/-- 'provisionlaw03.ChecksumSums': WHATEVER THE INPUT: true; the input reads as it did. -/
def checksumSumsSpec : ChangeSpec := { name := "checksumSums", fn := fun _ => fun
  | [d1, d2] => { results := [.lit (.bool true)], args := [d1, d2] }
  | _ => none }
def checksumSumsRow : OpenClaim := { program := "ytffadpnlbaihgaa", sum := "4d3d611244d235dfeec6fd5893438fac217805897c5dad1ed640793ece3ef41d", func := "provision/provisionlaw03.ChecksumSums", spec := "checksumSums", apart := false }
def ChecksumSumsSaid : Prop := checksumSumsRow.holds Try.pinned (OpenSpec.ofChange checksumSumsSpec)

/-- ITS FALSE NEIGHBOUR: 'it returns false'. Refute it at one input. -/
def checksumSumsWrong : ChangeSpec := { name := "checksumSums", fn := fun _ => fun
  | [d1, d2] => { results := [.lit (.bool false)], args := [d1, d2] }
  | _ => none }
def ChecksumSumsWrongFalsely : Prop := checksumSumsRow.holds Try.pinned (OpenSpec.ofChange checksumSumsWrong)

/-- 'provisionlaw03.ChecksumParts': WHATEVER THE INPUT: true; the input reads as it did. -/
def checksumPartsSpec : ChangeSpec := { name := "checksumParts", fn := fun _ => fun
  | [d1, d2] => { results := [.lit (.bool true)], args := [d1, d2] }
  | _ => none }
def checksumPartsRow : OpenClaim := { program := "ytffadpnlbaihgaa", sum := "4d3d611244d235dfeec6fd5893438fac217805897c5dad1ed640793ece3ef41d", func := "provision/provisionlaw03.ChecksumParts", spec := "checksumParts", apart := false }
def ChecksumPartsSaid : Prop := checksumPartsRow.holds Try.pinned (OpenSpec.ofChange checksumPartsSpec)

/-- ITS FALSE NEIGHBOUR: 'it returns false'. Refute it at one input. -/
def checksumPartsWrong : ChangeSpec := { name := "checksumParts", fn := fun _ => fun
  | [d1, d2] => { results := [.lit (.bool false)], args := [d1, d2] }
  | _ => none }
def ChecksumPartsWrongFalsely : Prop := checksumPartsRow.holds Try.pinned (OpenSpec.ofChange checksumPartsWrong)

/-- 'provisionlaw03.ChecksumAppends': WHATEVER THE INPUT: true; the input reads as it did. -/
def checksumAppendsSpec : ChangeSpec := { name := "checksumAppends", fn := fun _ => fun
  | [d] => { results := [.lit (.bool true)], args := [d] }
  | _ => none }
def checksumAppendsRow : OpenClaim := { program := "ytffadpnlbaihgaa", sum := "4d3d611244d235dfeec6fd5893438fac217805897c5dad1ed640793ece3ef41d", func := "provision/provisionlaw03.ChecksumAppends", spec := "checksumAppends", apart := false }
def ChecksumAppendsSaid : Prop := checksumAppendsRow.holds Try.pinned (OpenSpec.ofChange checksumAppendsSpec)

/-- ITS FALSE NEIGHBOUR: 'it returns false'. Refute it at one input. -/
def checksumAppendsWrong : ChangeSpec := { name := "checksumAppends", fn := fun _ => fun
  | [d] => { results := [.lit (.bool false)], args := [d] }
  | _ => none }
def ChecksumAppendsWrongFalsely : Prop := checksumAppendsRow.holds Try.pinned (OpenSpec.ofChange checksumAppendsWrong)

/-- 'provisionlaw03.ChecksumVerifies': WHATEVER THE INPUT: true; the input reads as it did. -/
def checksumVerifiesSpec : ChangeSpec := { name := "checksumVerifies", fn := fun _ => fun
  | [d] => { results := [.lit (.bool true)], args := [d] }
  | _ => none }
def checksumVerifiesRow : OpenClaim := { program := "ytffadpnlbaihgaa", sum := "4d3d611244d235dfeec6fd5893438fac217805897c5dad1ed640793ece3ef41d", func := "provision/provisionlaw03.ChecksumVerifies", spec := "checksumVerifies", apart := false }
def ChecksumVerifiesSaid : Prop := checksumVerifiesRow.holds Try.pinned (OpenSpec.ofChange checksumVerifiesSpec)

/-- ITS FALSE NEIGHBOUR: 'it returns false'. Refute it at one input. -/
def checksumVerifiesWrong : ChangeSpec := { name := "checksumVerifies", fn := fun _ => fun
  | [d] => { results := [.lit (.bool false)], args := [d] }
  | _ => none }
def ChecksumVerifiesWrongFalsely : Prop := checksumVerifiesRow.holds Try.pinned (OpenSpec.ofChange checksumVerifiesWrong)

/-- 'provisionlaw03.ChecksumBursts': WHATEVER THE INPUT: true; the input reads as it did. -/
def checksumBurstsSpec : ChangeSpec := { name := "checksumBursts", fn := fun _ => fun
  | [d1, d2, d3] => { results := [.lit (.bool true)], args := [d1, d2, d3] }
  | _ => none }
def checksumBurstsRow : OpenClaim := { program := "ytffadpnlbaihgaa", sum := "4d3d611244d235dfeec6fd5893438fac217805897c5dad1ed640793ece3ef41d", func := "provision/provisionlaw03.ChecksumBursts", spec := "checksumBursts", apart := false }
def ChecksumBurstsSaid : Prop := checksumBurstsRow.holds Try.pinned (OpenSpec.ofChange checksumBurstsSpec)

/-- ITS FALSE NEIGHBOUR: 'it returns false'. Refute it at one input. -/
def checksumBurstsWrong : ChangeSpec := { name := "checksumBursts", fn := fun _ => fun
  | [d1, d2, d3] => { results := [.lit (.bool false)], args := [d1, d2, d3] }
  | _ => none }
def ChecksumBurstsWrongFalsely : Prop := checksumBurstsRow.holds Try.pinned (OpenSpec.ofChange checksumBurstsWrong)

/- THE SECOND FORM. 'bulk': how many values and letters a reading holds, each counted each time it is reached (what is shared counts as often as it is met; a slice's spare places count too). A statement '..UptoSaid' is the law's where the arguments, and the package variables that the reading takes, are together of bulk at most 1048576: NARROWER than '..Said'. Prove '..Said' where nothing that the law and all that it calls make is longer than what came in: it says more and counts as full. Else prove '..UptoSaid'. A law counts once. -/
mutual
def uptoBulk {H : Type} : DataW H → Nat
  | .lit (.string bytes) => bytes.length + 1
  | .lit _ => 1
  | .nil => 1
  | .ptr d => uptoBulk d + 1
  | .slice elems spare => uptoBulkAll elems + uptoBulkAll spare + 1
  | .agg parts => uptoBulkAll parts + 1
  | .iface _ d => uptoBulk d + 1
  | .map entries => uptoBulkEntries entries + 1
  | .held _ => 1
def uptoBulkAll {H : Type} : List (DataW H) → Nat
  | [] => 0
  | d :: r => uptoBulk d + uptoBulkAll r
def uptoBulkEntries {H : Type} : List (Lit × DataW H) → Nat
  | [] => 0
  | x :: r => uptoBulkEntry x + uptoBulkEntries r
def uptoBulkEntry {H : Type} : Lit × DataW H → Nat
  | (.string bytes, d) => bytes.length + uptoBulk d + 1
  | (_, d) => uptoBulk d + 1
 end
def uptoSmall : (H : Type) → List (DataW H) → Bool := fun _ ds => decide (uptoBulkAll ds ≤ 1048576)
def OpenSpec.upto (s : _root_.Go.ChangeSpec) : _root_.Go.OpenSpec := { _root_.Go.OpenSpec.ofChange s with cond := some uptoSmall }

/-- 'provisionlaw03.ChecksumSums', WHERE WHAT IT READS IS OF BULK AT MOST 1048576: true; the input reads as it did. -/
def checksumSumsUptoRow : OpenClaim := { program := "ytffadpnlbaihgaa", sum := "4d3d611244d235dfeec6fd5893438fac217805897c5dad1ed640793ece3ef41d", func := "provision/provisionlaw03.ChecksumSums", spec := "checksumSums", apart := false, narrowed := true }
def ChecksumSumsUptoSaid : Prop := checksumSumsUptoRow.holds Try.pinned (OpenSpec.upto checksumSumsSpec)

/-- 'provisionlaw03.ChecksumParts', WHERE WHAT IT READS IS OF BULK AT MOST 1048576: true; the input reads as it did. -/
def checksumPartsUptoRow : OpenClaim := { program := "ytffadpnlbaihgaa", sum := "4d3d611244d235dfeec6fd5893438fac217805897c5dad1ed640793ece3ef41d", func := "provision/provisionlaw03.ChecksumParts", spec := "checksumParts", apart := false, narrowed := true }
def ChecksumPartsUptoSaid : Prop := checksumPartsUptoRow.holds Try.pinned (OpenSpec.upto checksumPartsSpec)

/-- 'provisionlaw03.ChecksumAppends', WHERE WHAT IT READS IS OF BULK AT MOST 1048576: true; the input reads as it did. -/
def checksumAppendsUptoRow : OpenClaim := { program := "ytffadpnlbaihgaa", sum := "4d3d611244d235dfeec6fd5893438fac217805897c5dad1ed640793ece3ef41d", func := "provision/provisionlaw03.ChecksumAppends", spec := "checksumAppends", apart := false, narrowed := true }
def ChecksumAppendsUptoSaid : Prop := checksumAppendsUptoRow.holds Try.pinned (OpenSpec.upto checksumAppendsSpec)

/-- 'provisionlaw03.ChecksumVerifies', WHERE WHAT IT READS IS OF BULK AT MOST 1048576: true; the input reads as it did. -/
def checksumVerifiesUptoRow : OpenClaim := { program := "ytffadpnlbaihgaa", sum := "4d3d611244d235dfeec6fd5893438fac217805897c5dad1ed640793ece3ef41d", func := "provision/provisionlaw03.ChecksumVerifies", spec := "checksumVerifies", apart := false, narrowed := true }
def ChecksumVerifiesUptoSaid : Prop := checksumVerifiesUptoRow.holds Try.pinned (OpenSpec.upto checksumVerifiesSpec)

/-- 'provisionlaw03.ChecksumBursts', WHERE WHAT IT READS IS OF BULK AT MOST 1048576: true; the input reads as it did. -/
def checksumBurstsUptoRow : OpenClaim := { program := "ytffadpnlbaihgaa", sum := "4d3d611244d235dfeec6fd5893438fac217805897c5dad1ed640793ece3ef41d", func := "provision/provisionlaw03.ChecksumBursts", spec := "checksumBursts", apart := false, narrowed := true }
def ChecksumBurstsUptoSaid : Prop := checksumBurstsUptoRow.holds Try.pinned (OpenSpec.upto checksumBurstsSpec)

end Rows
end Go.Proofs.Ytffadpnlbaihgaa
