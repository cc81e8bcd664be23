/-
  No cell of these rows narrows 'for every input' (looked for: loops, veiled, ifaces, maps, wideKeys, modest, calm, conditions, laid).
  DERIVED. THE GIVEN ROWS OF THIS SEAT. 5 by the template 'for every input the law returns true; each argument reads behind the call as it read before'; 0 by the template 'total and deterministic' (their statements: YtdogibjgogcdkalTotals.lean).
  GIVEN WITH THE SEED: the statements are not yours to turn. If you find one false, say at which input.
  Laid BY PROGRAM, IN A SANDBOX (cutbox-rows.mjs): the forced cells as the released guide's own fill.sh prints them over the translation 79e2e9b616dccd05… (all of the seat's roots in one cut). By AI agents, Wed Nov 11 2026. No macro, syntax, notation, axiom, sorry.
-/
import Derived.Test.YtdogibjgogcdkalChecked
import GoSem.Claim
import GoSem.ClaimJoined
import GoSem.ClaimMapViews
import Derived.JoinedTies
import Derived.KernelRfl
namespace Go.Proofs.Ytdogibjgogcdkal
/- THE CELL 'sum', in the pinned program and in every row, IS THE sha256 OF THE DUMP (.gsa) THAT YtdogibjgogcdkalProg.lean LOADS. Nothing in Lean hashes anything: it is a label: what it is worth is what the hold of that sum in a sandbox is worth. -/
noncomputable def Try.pinned : Pinned := { name := "ytdogibjgogcdkal", sum := "79e2e9b616dccd05339b3d8aaa677d4e67195b9e252eb202911cfa66f8754a8f", checked := Try.checked }
namespace Rows
def none {H : Type} : Left H := { results := [], args := [] }

/-- 'laws.FnExactReached': WHATEVER THE INPUT: true; the input reads as it did. -/
def fnExactReachedSpec : ChangeSpec := { name := "fnExactReached", fn := fun _ => fun
  | [d] => { results := [.lit (.bool true)], args := [d] }
  | _ => none }
def fnExactReachedRow : OpenClaim := { program := "ytdogibjgogcdkal", sum := "79e2e9b616dccd05339b3d8aaa677d4e67195b9e252eb202911cfa66f8754a8f", func := "loop.example/g00337/laws.FnExactReached", spec := "fnExactReached", unfollowed := true, recurses := true, apart := false }
def FnExactReachedSaid : Prop := fnExactReachedRow.holds Try.pinned (OpenSpec.ofChange fnExactReachedSpec)

/-- ITS FALSE NEIGHBOUR: 'it returns false'. Refute it at one input. -/
def fnExactReachedWrong : ChangeSpec := { name := "fnExactReached", fn := fun _ => fun
  | [d] => { results := [.lit (.bool false)], args := [d] }
  | _ => none }
def FnExactReachedWrongFalsely : Prop := fnExactReachedRow.holds Try.pinned (OpenSpec.ofChange fnExactReachedWrong)

/-- 'laws.FnExactGrieving': WHATEVER THE INPUT: true; the input reads as it did. -/
def fnExactGrievingSpec : ChangeSpec := { name := "fnExactGrieving", fn := fun _ => fun
  | [d] => { results := [.lit (.bool true)], args := [d] }
  | _ => none }
def fnExactGrievingRow : OpenClaim := { program := "ytdogibjgogcdkal", sum := "79e2e9b616dccd05339b3d8aaa677d4e67195b9e252eb202911cfa66f8754a8f", func := "loop.example/g00337/laws.FnExactGrieving", spec := "fnExactGrieving", unfollowed := true, recurses := true, apart := false }
def FnExactGrievingSaid : Prop := fnExactGrievingRow.holds Try.pinned (OpenSpec.ofChange fnExactGrievingSpec)

/-- ITS FALSE NEIGHBOUR: 'it returns false'. Refute it at one input. -/
def fnExactGrievingWrong : ChangeSpec := { name := "fnExactGrieving", fn := fun _ => fun
  | [d] => { results := [.lit (.bool false)], args := [d] }
  | _ => none }
def FnExactGrievingWrongFalsely : Prop := fnExactGrievingRow.holds Try.pinned (OpenSpec.ofChange fnExactGrievingWrong)

/-- 'laws.FnExactMourning': WHATEVER THE INPUT: true; the input reads as it did. -/
def fnExactMourningSpec : ChangeSpec := { name := "fnExactMourning", fn := fun _ => fun
  | [d] => { results := [.lit (.bool true)], args := [d] }
  | _ => none }
def fnExactMourningRow : OpenClaim := { program := "ytdogibjgogcdkal", sum := "79e2e9b616dccd05339b3d8aaa677d4e67195b9e252eb202911cfa66f8754a8f", func := "loop.example/g00337/laws.FnExactMourning", spec := "fnExactMourning", unfollowed := true, recurses := true, apart := false }
def FnExactMourningSaid : Prop := fnExactMourningRow.holds Try.pinned (OpenSpec.ofChange fnExactMourningSpec)

/-- ITS FALSE NEIGHBOUR: 'it returns false'. Refute it at one input. -/
def fnExactMourningWrong : ChangeSpec := { name := "fnExactMourning", fn := fun _ => fun
  | [d] => { results := [.lit (.bool false)], args := [d] }
  | _ => none }
def FnExactMourningWrongFalsely : Prop := fnExactMourningRow.holds Try.pinned (OpenSpec.ofChange fnExactMourningWrong)

/-- 'laws.FnExactCollected': WHATEVER THE INPUT: true; the input reads as it did. -/
def fnExactCollectedSpec : ChangeSpec := { name := "fnExactCollected", fn := fun _ => fun
  | [d] => { results := [.lit (.bool true)], args := [d] }
  | _ => none }
def fnExactCollectedRow : OpenClaim := { program := "ytdogibjgogcdkal", sum := "79e2e9b616dccd05339b3d8aaa677d4e67195b9e252eb202911cfa66f8754a8f", func := "loop.example/g00337/laws.FnExactCollected", spec := "fnExactCollected", unfollowed := true, recurses := true, apart := false }
def FnExactCollectedSaid : Prop := fnExactCollectedRow.holds Try.pinned (OpenSpec.ofChange fnExactCollectedSpec)

/-- ITS FALSE NEIGHBOUR: 'it returns false'. Refute it at one input. -/
def fnExactCollectedWrong : ChangeSpec := { name := "fnExactCollected", fn := fun _ => fun
  | [d] => { results := [.lit (.bool false)], args := [d] }
  | _ => none }
def FnExactCollectedWrongFalsely : Prop := fnExactCollectedRow.holds Try.pinned (OpenSpec.ofChange fnExactCollectedWrong)

/-- 'laws.FnExactFreeIn': WHATEVER THE INPUT: true; the input reads as it did. -/
def fnExactFreeInSpec : ChangeSpec := { name := "fnExactFreeIn", fn := fun _ => fun
  | [d1, d2, d3] => { results := [.lit (.bool true)], args := [d1, d2, d3] }
  | _ => none }
def fnExactFreeInRow : OpenClaim := { program := "ytdogibjgogcdkal", sum := "79e2e9b616dccd05339b3d8aaa677d4e67195b9e252eb202911cfa66f8754a8f", func := "loop.example/g00337/laws.FnExactFreeIn", spec := "fnExactFreeIn", unfollowed := true, recurses := true, apart := false }
def FnExactFreeInSaid : Prop := fnExactFreeInRow.holds Try.pinned (OpenSpec.ofChange fnExactFreeInSpec)

/-- ITS FALSE NEIGHBOUR: 'it returns false'. Refute it at one input. -/
def fnExactFreeInWrong : ChangeSpec := { name := "fnExactFreeIn", fn := fun _ => fun
  | [d1, d2, d3] => { results := [.lit (.bool false)], args := [d1, d2, d3] }
  | _ => none }
def FnExactFreeInWrongFalsely : Prop := fnExactFreeInRow.holds Try.pinned (OpenSpec.ofChange fnExactFreeInWrong)

/- THE SECOND FORM. 'bulk': how many values and letters a reading holds, each counted each time it is reached (what is shared counts as often as it is met; a slice's spare places count too). A statement '..UptoSaid' is the law's where the arguments, and the package variables that the reading takes, are together of bulk at most 1048576: NARROWER than '..Said'. Prove '..Said' where nothing that the law and all that it calls make is longer than what came in: it says more and counts as full. Else prove '..UptoSaid'. A law counts once. -/
mutual
def uptoBulk {H : Type} : DataW H → Nat
  | .lit (.string bytes) => bytes.length + 1
  | .lit _ => 1
  | .nil => 1
  | .ptr d => uptoBulk d + 1
  | .slice elems spare => uptoBulkAll elems + uptoBulkAll spare + 1
  | .agg parts => uptoBulkAll parts + 1
  | .iface _ d => uptoBulk d + 1
  | .map entries => uptoBulkEntries entries + 1
  | .held _ => 1
def uptoBulkAll {H : Type} : List (DataW H) → Nat
  | [] => 0
  | d :: r => uptoBulk d + uptoBulkAll r
def uptoBulkEntries {H : Type} : List (Lit × DataW H) → Nat
  | [] => 0
  | x :: r => uptoBulkEntry x + uptoBulkEntries r
def uptoBulkEntry {H : Type} : Lit × DataW H → Nat
  | (.string bytes, d) => bytes.length + uptoBulk d + 1
  | (_, d) => uptoBulk d + 1
 end
def uptoSmall : (H : Type) → List (DataW H) → Bool := fun _ ds => decide (uptoBulkAll ds ≤ 1048576)
def OpenSpec.upto (s : _root_.Go.ChangeSpec) : _root_.Go.OpenSpec := { _root_.Go.OpenSpec.ofChange s with cond := some uptoSmall }

/-- 'laws.FnExactReached', WHERE WHAT IT READS IS OF BULK AT MOST 1048576: true; the input reads as it did. -/
def fnExactReachedUptoRow : OpenClaim := { program := "ytdogibjgogcdkal", sum := "79e2e9b616dccd05339b3d8aaa677d4e67195b9e252eb202911cfa66f8754a8f", func := "loop.example/g00337/laws.FnExactReached", spec := "fnExactReached", unfollowed := true, recurses := true, apart := false, narrowed := true }
def FnExactReachedUptoSaid : Prop := fnExactReachedUptoRow.holds Try.pinned (OpenSpec.upto fnExactReachedSpec)

/-- 'laws.FnExactGrieving', WHERE WHAT IT READS IS OF BULK AT MOST 1048576: true; the input reads as it did. -/
def fnExactGrievingUptoRow : OpenClaim := { program := "ytdogibjgogcdkal", sum := "79e2e9b616dccd05339b3d8aaa677d4e67195b9e252eb202911cfa66f8754a8f", func := "loop.example/g00337/laws.FnExactGrieving", spec := "fnExactGrieving", unfollowed := true, recurses := true, apart := false, narrowed := true }
def FnExactGrievingUptoSaid : Prop := fnExactGrievingUptoRow.holds Try.pinned (OpenSpec.upto fnExactGrievingSpec)

/-- 'laws.FnExactMourning', WHERE WHAT IT READS IS OF BULK AT MOST 1048576: true; the input reads as it did. -/
def fnExactMourningUptoRow : OpenClaim := { program := "ytdogibjgogcdkal", sum := "79e2e9b616dccd05339b3d8aaa677d4e67195b9e252eb202911cfa66f8754a8f", func := "loop.example/g00337/laws.FnExactMourning", spec := "fnExactMourning", unfollowed := true, recurses := true, apart := false, narrowed := true }
def FnExactMourningUptoSaid : Prop := fnExactMourningUptoRow.holds Try.pinned (OpenSpec.upto fnExactMourningSpec)

/-- 'laws.FnExactCollected', WHERE WHAT IT READS IS OF BULK AT MOST 1048576: true; the input reads as it did. -/
def fnExactCollectedUptoRow : OpenClaim := { program := "ytdogibjgogcdkal", sum := "79e2e9b616dccd05339b3d8aaa677d4e67195b9e252eb202911cfa66f8754a8f", func := "loop.example/g00337/laws.FnExactCollected", spec := "fnExactCollected", unfollowed := true, recurses := true, apart := false, narrowed := true }
def FnExactCollectedUptoSaid : Prop := fnExactCollectedUptoRow.holds Try.pinned (OpenSpec.upto fnExactCollectedSpec)

/-- 'laws.FnExactFreeIn', WHERE WHAT IT READS IS OF BULK AT MOST 1048576: true; the input reads as it did. -/
def fnExactFreeInUptoRow : OpenClaim := { program := "ytdogibjgogcdkal", sum := "79e2e9b616dccd05339b3d8aaa677d4e67195b9e252eb202911cfa66f8754a8f", func := "loop.example/g00337/laws.FnExactFreeIn", spec := "fnExactFreeIn", unfollowed := true, recurses := true, apart := false, narrowed := true }
def FnExactFreeInUptoSaid : Prop := fnExactFreeInUptoRow.holds Try.pinned (OpenSpec.upto fnExactFreeInSpec)

end Rows
end Go.Proofs.Ytdogibjgogcdkal
