/-
  No cell of these rows narrows 'for every input' (looked for: loops, veiled, ifaces, maps, wideKeys, modest, calm, conditions, laid).
  DERIVED. THE GIVEN ROWS OF THIS SEAT. 6 by the template 'for every input the law returns true; each argument reads behind the call as it read before'; 0 by the template 'total and deterministic' (their statements: YtdogibjgogcdkajTotals.lean).
  GIVEN WITH THE SEED: the statements are not yours to turn. If you find one false, say at which input.
  Laid BY PROGRAM, IN A SANDBOX (cutbox-rows.mjs): the forced cells as the released guide's own fill.sh prints them over the translation 2e6ec510aed1efbb… (all of the seat's roots in one cut). By AI agents, Wed Nov 11 2026. No macro, syntax, notation, axiom, sorry.
-/
import Derived.Test.YtdogibjgogcdkajChecked
import GoSem.Claim
import GoSem.ClaimJoined
import GoSem.ClaimMapViews
import Derived.JoinedTies
import Derived.KernelRfl
namespace Go.Proofs.Ytdogibjgogcdkaj
/- THE CELL 'sum', in the pinned program and in every row, IS THE sha256 OF THE DUMP (.gsa) THAT YtdogibjgogcdkajProg.lean LOADS. Nothing in Lean hashes anything: it is a label: what it is worth is what the hold of that sum in a sandbox is worth. -/
noncomputable def Try.pinned : Pinned := { name := "ytdogibjgogcdkaj", sum := "2e6ec510aed1efbb48f3e980f6fc8022aeb249853d78200d528b64ec67b91893", checked := Try.checked }
namespace Rows
def none {H : Type} : Left H := { results := [], args := [] }

/-- 'laws.FnExactClassesOk': WHATEVER THE INPUT: true; the input reads as it did. -/
def fnExactClassesOkSpec : ChangeSpec := { name := "fnExactClassesOk", fn := fun _ => fun
  | [d] => { results := [.lit (.bool true)], args := [d] }
  | _ => none }
def fnExactClassesOkRow : OpenClaim := { program := "ytdogibjgogcdkaj", sum := "2e6ec510aed1efbb48f3e980f6fc8022aeb249853d78200d528b64ec67b91893", func := "loop.example/g00337/laws.FnExactClassesOk", spec := "fnExactClassesOk", apart := false }
def FnExactClassesOkSaid : Prop := fnExactClassesOkRow.holds Try.pinned (OpenSpec.ofChange fnExactClassesOkSpec)

/-- ITS FALSE NEIGHBOUR: 'it returns false'. Refute it at one input. -/
def fnExactClassesOkWrong : ChangeSpec := { name := "fnExactClassesOk", fn := fun _ => fun
  | [d] => { results := [.lit (.bool false)], args := [d] }
  | _ => none }
def FnExactClassesOkWrongFalsely : Prop := fnExactClassesOkRow.holds Try.pinned (OpenSpec.ofChange fnExactClassesOkWrong)

/-- 'laws.FnExactClaimed': WHATEVER THE INPUT: true; the input reads as it did. -/
def fnExactClaimedSpec : ChangeSpec := { name := "fnExactClaimed", fn := fun _ => fun
  | [d1, d2] => { results := [.lit (.bool true)], args := [d1, d2] }
  | _ => none }
def fnExactClaimedRow : OpenClaim := { program := "ytdogibjgogcdkaj", sum := "2e6ec510aed1efbb48f3e980f6fc8022aeb249853d78200d528b64ec67b91893", func := "loop.example/g00337/laws.FnExactClaimed", spec := "fnExactClaimed", inPlace := ["slices.overlaps[loop.example/g00337/impl.Entry]"], apart := false }
def FnExactClaimedSaid : Prop := fnExactClaimedRow.holds Try.pinned (OpenSpec.ofChange fnExactClaimedSpec)

/-- ITS FALSE NEIGHBOUR: 'it returns false'. Refute it at one input. -/
def fnExactClaimedWrong : ChangeSpec := { name := "fnExactClaimed", fn := fun _ => fun
  | [d1, d2] => { results := [.lit (.bool false)], args := [d1, d2] }
  | _ => none }
def FnExactClaimedWrongFalsely : Prop := fnExactClaimedRow.holds Try.pinned (OpenSpec.ofChange fnExactClaimedWrong)

/-- 'laws.FnExactReleased': WHATEVER THE INPUT: true; the input reads as it did. -/
def fnExactReleasedSpec : ChangeSpec := { name := "fnExactReleased", fn := fun _ => fun
  | [d1, d2] => { results := [.lit (.bool true)], args := [d1, d2] }
  | _ => none }
def fnExactReleasedRow : OpenClaim := { program := "ytdogibjgogcdkaj", sum := "2e6ec510aed1efbb48f3e980f6fc8022aeb249853d78200d528b64ec67b91893", func := "loop.example/g00337/laws.FnExactReleased", spec := "fnExactReleased", unfollowed := true, recurses := true, apart := false }
def FnExactReleasedSaid : Prop := fnExactReleasedRow.holds Try.pinned (OpenSpec.ofChange fnExactReleasedSpec)

/-- ITS FALSE NEIGHBOUR: 'it returns false'. Refute it at one input. -/
def fnExactReleasedWrong : ChangeSpec := { name := "fnExactReleased", fn := fun _ => fun
  | [d1, d2] => { results := [.lit (.bool false)], args := [d1, d2] }
  | _ => none }
def FnExactReleasedWrongFalsely : Prop := fnExactReleasedRow.holds Try.pinned (OpenSpec.ofChange fnExactReleasedWrong)

/-- 'laws.FnExactDraw': WHATEVER THE INPUT: true; the input reads as it did. -/
def fnExactDrawSpec : ChangeSpec := { name := "fnExactDraw", fn := fun _ => fun
  | [d] => { results := [.lit (.bool true)], args := [d] }
  | _ => none }
def fnExactDrawRow : OpenClaim := { program := "ytdogibjgogcdkaj", sum := "2e6ec510aed1efbb48f3e980f6fc8022aeb249853d78200d528b64ec67b91893", func := "loop.example/g00337/laws.FnExactDraw", spec := "fnExactDraw", apart := false }
def FnExactDrawSaid : Prop := fnExactDrawRow.holds Try.pinned (OpenSpec.ofChange fnExactDrawSpec)

/-- ITS FALSE NEIGHBOUR: 'it returns false'. Refute it at one input. -/
def fnExactDrawWrong : ChangeSpec := { name := "fnExactDraw", fn := fun _ => fun
  | [d] => { results := [.lit (.bool false)], args := [d] }
  | _ => none }
def FnExactDrawWrongFalsely : Prop := fnExactDrawRow.holds Try.pinned (OpenSpec.ofChange fnExactDrawWrong)

/-- 'laws.FnExactGraphOk': WHATEVER THE INPUT: true; the input reads as it did. -/
def fnExactGraphOkSpec : ChangeSpec := { name := "fnExactGraphOk", fn := fun _ => fun
  | [d] => { results := [.lit (.bool true)], args := [d] }
  | _ => none }
def fnExactGraphOkRow : OpenClaim := { program := "ytdogibjgogcdkaj", sum := "2e6ec510aed1efbb48f3e980f6fc8022aeb249853d78200d528b64ec67b91893", func := "loop.example/g00337/laws.FnExactGraphOk", spec := "fnExactGraphOk", unfollowed := true, recurses := true, apart := false }
def FnExactGraphOkSaid : Prop := fnExactGraphOkRow.holds Try.pinned (OpenSpec.ofChange fnExactGraphOkSpec)

/-- ITS FALSE NEIGHBOUR: 'it returns false'. Refute it at one input. -/
def fnExactGraphOkWrong : ChangeSpec := { name := "fnExactGraphOk", fn := fun _ => fun
  | [d] => { results := [.lit (.bool false)], args := [d] }
  | _ => none }
def FnExactGraphOkWrongFalsely : Prop := fnExactGraphOkRow.holds Try.pinned (OpenSpec.ofChange fnExactGraphOkWrong)

/-- 'laws.FnExactNewGraph': WHATEVER THE INPUT: true; the input reads as it did. -/
def fnExactNewGraphSpec : ChangeSpec := { name := "fnExactNewGraph", fn := fun _ => fun
  | [d] => { results := [.lit (.bool true)], args := [d] }
  | _ => none }
def fnExactNewGraphRow : OpenClaim := { program := "ytdogibjgogcdkaj", sum := "2e6ec510aed1efbb48f3e980f6fc8022aeb249853d78200d528b64ec67b91893", func := "loop.example/g00337/laws.FnExactNewGraph", spec := "fnExactNewGraph", apart := false }
def FnExactNewGraphSaid : Prop := fnExactNewGraphRow.holds Try.pinned (OpenSpec.ofChange fnExactNewGraphSpec)

/-- ITS FALSE NEIGHBOUR: 'it returns false'. Refute it at one input. -/
def fnExactNewGraphWrong : ChangeSpec := { name := "fnExactNewGraph", fn := fun _ => fun
  | [d] => { results := [.lit (.bool false)], args := [d] }
  | _ => none }
def FnExactNewGraphWrongFalsely : Prop := fnExactNewGraphRow.holds Try.pinned (OpenSpec.ofChange fnExactNewGraphWrong)

/- THE SECOND FORM. 'bulk': how many values and letters a reading holds, each counted each time it is reached (what is shared counts as often as it is met; a slice's spare places count too). A statement '..UptoSaid' is the law's where the arguments, and the package variables that the reading takes, are together of bulk at most 1048576: NARROWER than '..Said'. Prove '..Said' where nothing that the law and all that it calls make is longer than what came in: it says more and counts as full. Else prove '..UptoSaid'. A law counts once. -/
mutual
def uptoBulk {H : Type} : DataW H → Nat
  | .lit (.string bytes) => bytes.length + 1
  | .lit _ => 1
  | .nil => 1
  | .ptr d => uptoBulk d + 1
  | .slice elems spare => uptoBulkAll elems + uptoBulkAll spare + 1
  | .agg parts => uptoBulkAll parts + 1
  | .iface _ d => uptoBulk d + 1
  | .map entries => uptoBulkEntries entries + 1
  | .held _ => 1
def uptoBulkAll {H : Type} : List (DataW H) → Nat
  | [] => 0
  | d :: r => uptoBulk d + uptoBulkAll r
def uptoBulkEntries {H : Type} : List (Lit × DataW H) → Nat
  | [] => 0
  | x :: r => uptoBulkEntry x + uptoBulkEntries r
def uptoBulkEntry {H : Type} : Lit × DataW H → Nat
  | (.string bytes, d) => bytes.length + uptoBulk d + 1
  | (_, d) => uptoBulk d + 1
 end
def uptoSmall : (H : Type) → List (DataW H) → Bool := fun _ ds => decide (uptoBulkAll ds ≤ 1048576)
def OpenSpec.upto (s : _root_.Go.ChangeSpec) : _root_.Go.OpenSpec := { _root_.Go.OpenSpec.ofChange s with cond := some uptoSmall }

/-- 'laws.FnExactClassesOk', WHERE WHAT IT READS IS OF BULK AT MOST 1048576: true; the input reads as it did. -/
def fnExactClassesOkUptoRow : OpenClaim := { program := "ytdogibjgogcdkaj", sum := "2e6ec510aed1efbb48f3e980f6fc8022aeb249853d78200d528b64ec67b91893", func := "loop.example/g00337/laws.FnExactClassesOk", spec := "fnExactClassesOk", apart := false, narrowed := true }
def FnExactClassesOkUptoSaid : Prop := fnExactClassesOkUptoRow.holds Try.pinned (OpenSpec.upto fnExactClassesOkSpec)

/-- 'laws.FnExactClaimed', WHERE WHAT IT READS IS OF BULK AT MOST 1048576: true; the input reads as it did. -/
def fnExactClaimedUptoRow : OpenClaim := { program := "ytdogibjgogcdkaj", sum := "2e6ec510aed1efbb48f3e980f6fc8022aeb249853d78200d528b64ec67b91893", func := "loop.example/g00337/laws.FnExactClaimed", spec := "fnExactClaimed", inPlace := ["slices.overlaps[loop.example/g00337/impl.Entry]"], apart := false, narrowed := true }
def FnExactClaimedUptoSaid : Prop := fnExactClaimedUptoRow.holds Try.pinned (OpenSpec.upto fnExactClaimedSpec)

/-- 'laws.FnExactReleased', WHERE WHAT IT READS IS OF BULK AT MOST 1048576: true; the input reads as it did. -/
def fnExactReleasedUptoRow : OpenClaim := { program := "ytdogibjgogcdkaj", sum := "2e6ec510aed1efbb48f3e980f6fc8022aeb249853d78200d528b64ec67b91893", func := "loop.example/g00337/laws.FnExactReleased", spec := "fnExactReleased", unfollowed := true, recurses := true, apart := false, narrowed := true }
def FnExactReleasedUptoSaid : Prop := fnExactReleasedUptoRow.holds Try.pinned (OpenSpec.upto fnExactReleasedSpec)

/-- 'laws.FnExactDraw', WHERE WHAT IT READS IS OF BULK AT MOST 1048576: true; the input reads as it did. -/
def fnExactDrawUptoRow : OpenClaim := { program := "ytdogibjgogcdkaj", sum := "2e6ec510aed1efbb48f3e980f6fc8022aeb249853d78200d528b64ec67b91893", func := "loop.example/g00337/laws.FnExactDraw", spec := "fnExactDraw", apart := false, narrowed := true }
def FnExactDrawUptoSaid : Prop := fnExactDrawUptoRow.holds Try.pinned (OpenSpec.upto fnExactDrawSpec)

/-- 'laws.FnExactGraphOk', WHERE WHAT IT READS IS OF BULK AT MOST 1048576: true; the input reads as it did. -/
def fnExactGraphOkUptoRow : OpenClaim := { program := "ytdogibjgogcdkaj", sum := "2e6ec510aed1efbb48f3e980f6fc8022aeb249853d78200d528b64ec67b91893", func := "loop.example/g00337/laws.FnExactGraphOk", spec := "fnExactGraphOk", unfollowed := true, recurses := true, apart := false, narrowed := true }
def FnExactGraphOkUptoSaid : Prop := fnExactGraphOkUptoRow.holds Try.pinned (OpenSpec.upto fnExactGraphOkSpec)

/-- 'laws.FnExactNewGraph', WHERE WHAT IT READS IS OF BULK AT MOST 1048576: true; the input reads as it did. -/
def fnExactNewGraphUptoRow : OpenClaim := { program := "ytdogibjgogcdkaj", sum := "2e6ec510aed1efbb48f3e980f6fc8022aeb249853d78200d528b64ec67b91893", func := "loop.example/g00337/laws.FnExactNewGraph", spec := "fnExactNewGraph", apart := false, narrowed := true }
def FnExactNewGraphUptoSaid : Prop := fnExactNewGraphUptoRow.holds Try.pinned (OpenSpec.upto fnExactNewGraphSpec)

end Rows
end Go.Proofs.Ytdogibjgogcdkaj
