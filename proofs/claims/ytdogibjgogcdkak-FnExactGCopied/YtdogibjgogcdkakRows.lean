/-
  No cell of these rows narrows 'for every input' (looked for: loops, veiled, ifaces, maps, wideKeys, modest, calm, conditions, laid).
  DERIVED. THE GIVEN ROWS OF THIS SEAT. 6 by the template 'for every input the law returns true; each argument reads behind the call as it read before'; 0 by the template 'total and deterministic' (their statements: YtdogibjgogcdkakTotals.lean).
  GIVEN WITH THE SEED: the statements are not yours to turn. If you find one false, say at which input.
  Laid BY PROGRAM, IN A SANDBOX (cutbox-rows.mjs): the forced cells as the released guide's own fill.sh prints them over the translation 872c116017772fb6… (all of the seat's roots in one cut). By AI agents, Wed Nov 11 2026. No macro, syntax, notation, axiom, sorry.
-/
import Derived.Test.YtdogibjgogcdkakChecked
import GoSem.Claim
import GoSem.ClaimJoined
import GoSem.ClaimMapViews
import Derived.JoinedTies
import Derived.KernelRfl
namespace Go.Proofs.Ytdogibjgogcdkak
/- THE CELL 'sum', in the pinned program and in every row, IS THE sha256 OF THE DUMP (.gsa) THAT YtdogibjgogcdkakProg.lean LOADS. Nothing in Lean hashes anything: it is a label: what it is worth is what the hold of that sum in a sandbox is worth. -/
noncomputable def Try.pinned : Pinned := { name := "ytdogibjgogcdkak", sum := "872c116017772fb69cbc76db886b649fb48f3b84cb56a5260c80a491b1ff6090", checked := Try.checked }
namespace Rows
def none {H : Type} : Left H := { results := [], args := [] }

/-- 'laws.FnExactGMade': WHATEVER THE INPUT: true; the input reads as it did. -/
def fnExactGMadeSpec : ChangeSpec := { name := "fnExactGMade", fn := fun _ => fun
  | [d1, d2, d3, d4, d5] => { results := [.lit (.bool true)], args := [d1, d2, d3, d4, d5] }
  | _ => none }
def fnExactGMadeRow : OpenClaim := { program := "ytdogibjgogcdkak", sum := "872c116017772fb69cbc76db886b649fb48f3b84cb56a5260c80a491b1ff6090", func := "loop.example/g00337/laws.FnExactGMade", spec := "fnExactGMade", unfollowed := true, recurses := true, apart := false }
def FnExactGMadeSaid : Prop := fnExactGMadeRow.holds Try.pinned (OpenSpec.ofChange fnExactGMadeSpec)

/-- ITS FALSE NEIGHBOUR: 'it returns false'. Refute it at one input. -/
def fnExactGMadeWrong : ChangeSpec := { name := "fnExactGMade", fn := fun _ => fun
  | [d1, d2, d3, d4, d5] => { results := [.lit (.bool false)], args := [d1, d2, d3, d4, d5] }
  | _ => none }
def FnExactGMadeWrongFalsely : Prop := fnExactGMadeRow.holds Try.pinned (OpenSpec.ofChange fnExactGMadeWrong)

/-- 'laws.FnExactGFetched': WHATEVER THE INPUT: true; the input reads as it did. -/
def fnExactGFetchedSpec : ChangeSpec := { name := "fnExactGFetched", fn := fun _ => fun
  | [d1, d2, d3, d4] => { results := [.lit (.bool true)], args := [d1, d2, d3, d4] }
  | _ => none }
def fnExactGFetchedRow : OpenClaim := { program := "ytdogibjgogcdkak", sum := "872c116017772fb69cbc76db886b649fb48f3b84cb56a5260c80a491b1ff6090", func := "loop.example/g00337/laws.FnExactGFetched", spec := "fnExactGFetched", unfollowed := true, recurses := true, apart := false }
def FnExactGFetchedSaid : Prop := fnExactGFetchedRow.holds Try.pinned (OpenSpec.ofChange fnExactGFetchedSpec)

/-- ITS FALSE NEIGHBOUR: 'it returns false'. Refute it at one input. -/
def fnExactGFetchedWrong : ChangeSpec := { name := "fnExactGFetched", fn := fun _ => fun
  | [d1, d2, d3, d4] => { results := [.lit (.bool false)], args := [d1, d2, d3, d4] }
  | _ => none }
def FnExactGFetchedWrongFalsely : Prop := fnExactGFetchedRow.holds Try.pinned (OpenSpec.ofChange fnExactGFetchedWrong)

/-- 'laws.FnExactGStored': WHATEVER THE INPUT: true; the input reads as it did. -/
def fnExactGStoredSpec : ChangeSpec := { name := "fnExactGStored", fn := fun _ => fun
  | [d1, d2, d3, d4] => { results := [.lit (.bool true)], args := [d1, d2, d3, d4] }
  | _ => none }
def fnExactGStoredRow : OpenClaim := { program := "ytdogibjgogcdkak", sum := "872c116017772fb69cbc76db886b649fb48f3b84cb56a5260c80a491b1ff6090", func := "loop.example/g00337/laws.FnExactGStored", spec := "fnExactGStored", unfollowed := true, recurses := true, apart := false }
def FnExactGStoredSaid : Prop := fnExactGStoredRow.holds Try.pinned (OpenSpec.ofChange fnExactGStoredSpec)

/-- ITS FALSE NEIGHBOUR: 'it returns false'. Refute it at one input. -/
def fnExactGStoredWrong : ChangeSpec := { name := "fnExactGStored", fn := fun _ => fun
  | [d1, d2, d3, d4] => { results := [.lit (.bool false)], args := [d1, d2, d3, d4] }
  | _ => none }
def FnExactGStoredWrongFalsely : Prop := fnExactGStoredRow.holds Try.pinned (OpenSpec.ofChange fnExactGStoredWrong)

/-- 'laws.FnExactGPut': WHATEVER THE INPUT: true; the input reads as it did. -/
def fnExactGPutSpec : ChangeSpec := { name := "fnExactGPut", fn := fun _ => fun
  | [d1, d2, d3] => { results := [.lit (.bool true)], args := [d1, d2, d3] }
  | _ => none }
def fnExactGPutRow : OpenClaim := { program := "ytdogibjgogcdkak", sum := "872c116017772fb69cbc76db886b649fb48f3b84cb56a5260c80a491b1ff6090", func := "loop.example/g00337/laws.FnExactGPut", spec := "fnExactGPut", unfollowed := true, recurses := true, apart := false }
def FnExactGPutSaid : Prop := fnExactGPutRow.holds Try.pinned (OpenSpec.ofChange fnExactGPutSpec)

/-- ITS FALSE NEIGHBOUR: 'it returns false'. Refute it at one input. -/
def fnExactGPutWrong : ChangeSpec := { name := "fnExactGPut", fn := fun _ => fun
  | [d1, d2, d3] => { results := [.lit (.bool false)], args := [d1, d2, d3] }
  | _ => none }
def FnExactGPutWrongFalsely : Prop := fnExactGPutRow.holds Try.pinned (OpenSpec.ofChange fnExactGPutWrong)

/-- 'laws.FnExactGCopied': WHATEVER THE INPUT: true; the input reads as it did. -/
def fnExactGCopiedSpec : ChangeSpec := { name := "fnExactGCopied", fn := fun _ => fun
  | [d1, d2, d3] => { results := [.lit (.bool true)], args := [d1, d2, d3] }
  | _ => none }
def fnExactGCopiedRow : OpenClaim := { program := "ytdogibjgogcdkak", sum := "872c116017772fb69cbc76db886b649fb48f3b84cb56a5260c80a491b1ff6090", func := "loop.example/g00337/laws.FnExactGCopied", spec := "fnExactGCopied", unfollowed := true, recurses := true, apart := false }
def FnExactGCopiedSaid : Prop := fnExactGCopiedRow.holds Try.pinned (OpenSpec.ofChange fnExactGCopiedSpec)

/-- ITS FALSE NEIGHBOUR: 'it returns false'. Refute it at one input. -/
def fnExactGCopiedWrong : ChangeSpec := { name := "fnExactGCopied", fn := fun _ => fun
  | [d1, d2, d3] => { results := [.lit (.bool false)], args := [d1, d2, d3] }
  | _ => none }
def FnExactGCopiedWrongFalsely : Prop := fnExactGCopiedRow.holds Try.pinned (OpenSpec.ofChange fnExactGCopiedWrong)

/-- 'laws.FnExactGHash': WHATEVER THE INPUT: true; the input reads as it did. -/
def fnExactGHashSpec : ChangeSpec := { name := "fnExactGHash", fn := fun _ => fun
  | [d1, d2] => { results := [.lit (.bool true)], args := [d1, d2] }
  | _ => none }
def fnExactGHashRow : OpenClaim := { program := "ytdogibjgogcdkak", sum := "872c116017772fb69cbc76db886b649fb48f3b84cb56a5260c80a491b1ff6090", func := "loop.example/g00337/laws.FnExactGHash", spec := "fnExactGHash", unfollowed := true, recurses := true, apart := false }
def FnExactGHashSaid : Prop := fnExactGHashRow.holds Try.pinned (OpenSpec.ofChange fnExactGHashSpec)

/-- ITS FALSE NEIGHBOUR: 'it returns false'. Refute it at one input. -/
def fnExactGHashWrong : ChangeSpec := { name := "fnExactGHash", fn := fun _ => fun
  | [d1, d2] => { results := [.lit (.bool false)], args := [d1, d2] }
  | _ => none }
def FnExactGHashWrongFalsely : Prop := fnExactGHashRow.holds Try.pinned (OpenSpec.ofChange fnExactGHashWrong)

/- THE SECOND FORM. 'bulk': how many values and letters a reading holds, each counted each time it is reached (what is shared counts as often as it is met; a slice's spare places count too). A statement '..UptoSaid' is the law's where the arguments, and the package variables that the reading takes, are together of bulk at most 1048576: NARROWER than '..Said'. Prove '..Said' where nothing that the law and all that it calls make is longer than what came in: it says more and counts as full. Else prove '..UptoSaid'. A law counts once. -/
mutual
def uptoBulk {H : Type} : DataW H → Nat
  | .lit (.string bytes) => bytes.length + 1
  | .lit _ => 1
  | .nil => 1
  | .ptr d => uptoBulk d + 1
  | .slice elems spare => uptoBulkAll elems + uptoBulkAll spare + 1
  | .agg parts => uptoBulkAll parts + 1
  | .iface _ d => uptoBulk d + 1
  | .map entries => uptoBulkEntries entries + 1
  | .held _ => 1
def uptoBulkAll {H : Type} : List (DataW H) → Nat
  | [] => 0
  | d :: r => uptoBulk d + uptoBulkAll r
def uptoBulkEntries {H : Type} : List (Lit × DataW H) → Nat
  | [] => 0
  | x :: r => uptoBulkEntry x + uptoBulkEntries r
def uptoBulkEntry {H : Type} : Lit × DataW H → Nat
  | (.string bytes, d) => bytes.length + uptoBulk d + 1
  | (_, d) => uptoBulk d + 1
 end
def uptoSmall : (H : Type) → List (DataW H) → Bool := fun _ ds => decide (uptoBulkAll ds ≤ 1048576)
def OpenSpec.upto (s : _root_.Go.ChangeSpec) : _root_.Go.OpenSpec := { _root_.Go.OpenSpec.ofChange s with cond := some uptoSmall }

/-- 'laws.FnExactGMade', WHERE WHAT IT READS IS OF BULK AT MOST 1048576: true; the input reads as it did. -/
def fnExactGMadeUptoRow : OpenClaim := { program := "ytdogibjgogcdkak", sum := "872c116017772fb69cbc76db886b649fb48f3b84cb56a5260c80a491b1ff6090", func := "loop.example/g00337/laws.FnExactGMade", spec := "fnExactGMade", unfollowed := true, recurses := true, apart := false, narrowed := true }
def FnExactGMadeUptoSaid : Prop := fnExactGMadeUptoRow.holds Try.pinned (OpenSpec.upto fnExactGMadeSpec)

/-- 'laws.FnExactGFetched', WHERE WHAT IT READS IS OF BULK AT MOST 1048576: true; the input reads as it did. -/
def fnExactGFetchedUptoRow : OpenClaim := { program := "ytdogibjgogcdkak", sum := "872c116017772fb69cbc76db886b649fb48f3b84cb56a5260c80a491b1ff6090", func := "loop.example/g00337/laws.FnExactGFetched", spec := "fnExactGFetched", unfollowed := true, recurses := true, apart := false, narrowed := true }
def FnExactGFetchedUptoSaid : Prop := fnExactGFetchedUptoRow.holds Try.pinned (OpenSpec.upto fnExactGFetchedSpec)

/-- 'laws.FnExactGStored', WHERE WHAT IT READS IS OF BULK AT MOST 1048576: true; the input reads as it did. -/
def fnExactGStoredUptoRow : OpenClaim := { program := "ytdogibjgogcdkak", sum := "872c116017772fb69cbc76db886b649fb48f3b84cb56a5260c80a491b1ff6090", func := "loop.example/g00337/laws.FnExactGStored", spec := "fnExactGStored", unfollowed := true, recurses := true, apart := false, narrowed := true }
def FnExactGStoredUptoSaid : Prop := fnExactGStoredUptoRow.holds Try.pinned (OpenSpec.upto fnExactGStoredSpec)

/-- 'laws.FnExactGPut', WHERE WHAT IT READS IS OF BULK AT MOST 1048576: true; the input reads as it did. -/
def fnExactGPutUptoRow : OpenClaim := { program := "ytdogibjgogcdkak", sum := "872c116017772fb69cbc76db886b649fb48f3b84cb56a5260c80a491b1ff6090", func := "loop.example/g00337/laws.FnExactGPut", spec := "fnExactGPut", unfollowed := true, recurses := true, apart := false, narrowed := true }
def FnExactGPutUptoSaid : Prop := fnExactGPutUptoRow.holds Try.pinned (OpenSpec.upto fnExactGPutSpec)

/-- 'laws.FnExactGCopied', WHERE WHAT IT READS IS OF BULK AT MOST 1048576: true; the input reads as it did. -/
def fnExactGCopiedUptoRow : OpenClaim := { program := "ytdogibjgogcdkak", sum := "872c116017772fb69cbc76db886b649fb48f3b84cb56a5260c80a491b1ff6090", func := "loop.example/g00337/laws.FnExactGCopied", spec := "fnExactGCopied", unfollowed := true, recurses := true, apart := false, narrowed := true }
def FnExactGCopiedUptoSaid : Prop := fnExactGCopiedUptoRow.holds Try.pinned (OpenSpec.upto fnExactGCopiedSpec)

/-- 'laws.FnExactGHash', WHERE WHAT IT READS IS OF BULK AT MOST 1048576: true; the input reads as it did. -/
def fnExactGHashUptoRow : OpenClaim := { program := "ytdogibjgogcdkak", sum := "872c116017772fb69cbc76db886b649fb48f3b84cb56a5260c80a491b1ff6090", func := "loop.example/g00337/laws.FnExactGHash", spec := "fnExactGHash", unfollowed := true, recurses := true, apart := false, narrowed := true }
def FnExactGHashUptoSaid : Prop := fnExactGHashUptoRow.holds Try.pinned (OpenSpec.upto fnExactGHashSpec)

end Rows
end Go.Proofs.Ytdogibjgogcdkak
