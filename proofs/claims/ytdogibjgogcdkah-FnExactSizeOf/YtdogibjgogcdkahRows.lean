/-
  No cell of these rows narrows 'for every input' (looked for: loops, veiled, ifaces, maps, wideKeys, modest, calm, conditions, laid).
  DERIVED. THE GIVEN ROWS OF THIS SEAT. 6 by the template 'for every input the law returns true; each argument reads behind the call as it read before'; 0 by the template 'total and deterministic' (their statements: YtdogibjgogcdkahTotals.lean).
  GIVEN WITH THE SEED: the statements are not yours to turn. If you find one false, say at which input.
  Laid BY PROGRAM, IN A SANDBOX (cutbox-rows.mjs): the forced cells as the released guide's own fill.sh prints them over the translation bfe59b0b6835d0a8… (all of the seat's roots in one cut). By AI agents, Wed Nov 11 2026. No macro, syntax, notation, axiom, sorry.
-/
import Derived.Test.YtdogibjgogcdkahChecked
import GoSem.Claim
import GoSem.ClaimJoined
import GoSem.ClaimMapViews
import Derived.JoinedTies
import Derived.KernelRfl
namespace Go.Proofs.Ytdogibjgogcdkah
/- THE CELL 'sum', in the pinned program and in every row, IS THE sha256 OF THE DUMP (.gsa) THAT YtdogibjgogcdkahProg.lean LOADS. Nothing in Lean hashes anything: it is a label: what it is worth is what the hold of that sum in a sandbox is worth. -/
noncomputable def Try.pinned : Pinned := { name := "ytdogibjgogcdkah", sum := "bfe59b0b6835d0a807bda129142d68760f6a97a2995277d989d764ca7d65023a", checked := Try.checked }
namespace Rows
def none {H : Type} : Left H := { results := [], args := [] }

/-- 'laws.FnExactPacked': WHATEVER THE INPUT: true; the input reads as it did. -/
def fnExactPackedSpec : ChangeSpec := { name := "fnExactPacked", fn := fun _ => fun
  | [d] => { results := [.lit (.bool true)], args := [d] }
  | _ => none }
def fnExactPackedRow : OpenClaim := { program := "ytdogibjgogcdkah", sum := "bfe59b0b6835d0a807bda129142d68760f6a97a2995277d989d764ca7d65023a", func := "loop.example/g00337/laws.FnExactPacked", spec := "fnExactPacked", apart := false }
def FnExactPackedSaid : Prop := fnExactPackedRow.holds Try.pinned (OpenSpec.ofChange fnExactPackedSpec)

/-- ITS FALSE NEIGHBOUR: 'it returns false'. Refute it at one input. -/
def fnExactPackedWrong : ChangeSpec := { name := "fnExactPacked", fn := fun _ => fun
  | [d] => { results := [.lit (.bool false)], args := [d] }
  | _ => none }
def FnExactPackedWrongFalsely : Prop := fnExactPackedRow.holds Try.pinned (OpenSpec.ofChange fnExactPackedWrong)

/-- 'laws.FnExactUnpacked': WHATEVER THE INPUT: true; the input reads as it did. -/
def fnExactUnpackedSpec : ChangeSpec := { name := "fnExactUnpacked", fn := fun _ => fun
  | [d] => { results := [.lit (.bool true)], args := [d] }
  | _ => none }
def fnExactUnpackedRow : OpenClaim := { program := "ytdogibjgogcdkah", sum := "bfe59b0b6835d0a807bda129142d68760f6a97a2995277d989d764ca7d65023a", func := "loop.example/g00337/laws.FnExactUnpacked", spec := "fnExactUnpacked", apart := false }
def FnExactUnpackedSaid : Prop := fnExactUnpackedRow.holds Try.pinned (OpenSpec.ofChange fnExactUnpackedSpec)

/-- ITS FALSE NEIGHBOUR: 'it returns false'. Refute it at one input. -/
def fnExactUnpackedWrong : ChangeSpec := { name := "fnExactUnpacked", fn := fun _ => fun
  | [d] => { results := [.lit (.bool false)], args := [d] }
  | _ => none }
def FnExactUnpackedWrongFalsely : Prop := fnExactUnpackedRow.holds Try.pinned (OpenSpec.ofChange fnExactUnpackedWrong)

/-- 'laws.FnExactSizeOf': WHATEVER THE INPUT: true; the input reads as it did. -/
def fnExactSizeOfSpec : ChangeSpec := { name := "fnExactSizeOf", fn := fun _ => fun
  | [d] => { results := [.lit (.bool true)], args := [d] }
  | _ => none }
def fnExactSizeOfRow : OpenClaim := { program := "ytdogibjgogcdkah", sum := "bfe59b0b6835d0a807bda129142d68760f6a97a2995277d989d764ca7d65023a", func := "loop.example/g00337/laws.FnExactSizeOf", spec := "fnExactSizeOf", apart := false }
def FnExactSizeOfSaid : Prop := fnExactSizeOfRow.holds Try.pinned (OpenSpec.ofChange fnExactSizeOfSpec)

/-- ITS FALSE NEIGHBOUR: 'it returns false'. Refute it at one input. -/
def fnExactSizeOfWrong : ChangeSpec := { name := "fnExactSizeOf", fn := fun _ => fun
  | [d] => { results := [.lit (.bool false)], args := [d] }
  | _ => none }
def FnExactSizeOfWrongFalsely : Prop := fnExactSizeOfRow.holds Try.pinned (OpenSpec.ofChange fnExactSizeOfWrong)

/-- 'laws.FnExactStrongFrom': WHATEVER THE INPUT: true; the input reads as it did. -/
def fnExactStrongFromSpec : ChangeSpec := { name := "fnExactStrongFrom", fn := fun _ => fun
  | [d] => { results := [.lit (.bool true)], args := [d] }
  | _ => none }
def fnExactStrongFromRow : OpenClaim := { program := "ytdogibjgogcdkah", sum := "bfe59b0b6835d0a807bda129142d68760f6a97a2995277d989d764ca7d65023a", func := "loop.example/g00337/laws.FnExactStrongFrom", spec := "fnExactStrongFrom", apart := false }
def FnExactStrongFromSaid : Prop := fnExactStrongFromRow.holds Try.pinned (OpenSpec.ofChange fnExactStrongFromSpec)

/-- ITS FALSE NEIGHBOUR: 'it returns false'. Refute it at one input. -/
def fnExactStrongFromWrong : ChangeSpec := { name := "fnExactStrongFrom", fn := fun _ => fun
  | [d] => { results := [.lit (.bool false)], args := [d] }
  | _ => none }
def FnExactStrongFromWrongFalsely : Prop := fnExactStrongFromRow.holds Try.pinned (OpenSpec.ofChange fnExactStrongFromWrong)

/-- 'laws.FnExactReadAt': WHATEVER THE INPUT: true; the input reads as it did. -/
def fnExactReadAtSpec : ChangeSpec := { name := "fnExactReadAt", fn := fun _ => fun
  | [d1, d2] => { results := [.lit (.bool true)], args := [d1, d2] }
  | _ => none }
def fnExactReadAtRow : OpenClaim := { program := "ytdogibjgogcdkah", sum := "bfe59b0b6835d0a807bda129142d68760f6a97a2995277d989d764ca7d65023a", func := "loop.example/g00337/laws.FnExactReadAt", spec := "fnExactReadAt", apart := false }
def FnExactReadAtSaid : Prop := fnExactReadAtRow.holds Try.pinned (OpenSpec.ofChange fnExactReadAtSpec)

/-- ITS FALSE NEIGHBOUR: 'it returns false'. Refute it at one input. -/
def fnExactReadAtWrong : ChangeSpec := { name := "fnExactReadAt", fn := fun _ => fun
  | [d1, d2] => { results := [.lit (.bool false)], args := [d1, d2] }
  | _ => none }
def FnExactReadAtWrongFalsely : Prop := fnExactReadAtRow.holds Try.pinned (OpenSpec.ofChange fnExactReadAtWrong)

/-- 'laws.FnExactWriteAt': WHATEVER THE INPUT: true; the input reads as it did. -/
def fnExactWriteAtSpec : ChangeSpec := { name := "fnExactWriteAt", fn := fun _ => fun
  | [d1, d2, d3] => { results := [.lit (.bool true)], args := [d1, d2, d3] }
  | _ => none }
def fnExactWriteAtRow : OpenClaim := { program := "ytdogibjgogcdkah", sum := "bfe59b0b6835d0a807bda129142d68760f6a97a2995277d989d764ca7d65023a", func := "loop.example/g00337/laws.FnExactWriteAt", spec := "fnExactWriteAt", apart := false }
def FnExactWriteAtSaid : Prop := fnExactWriteAtRow.holds Try.pinned (OpenSpec.ofChange fnExactWriteAtSpec)

/-- ITS FALSE NEIGHBOUR: 'it returns false'. Refute it at one input. -/
def fnExactWriteAtWrong : ChangeSpec := { name := "fnExactWriteAt", fn := fun _ => fun
  | [d1, d2, d3] => { results := [.lit (.bool false)], args := [d1, d2, d3] }
  | _ => none }
def FnExactWriteAtWrongFalsely : Prop := fnExactWriteAtRow.holds Try.pinned (OpenSpec.ofChange fnExactWriteAtWrong)

/- THE SECOND FORM. 'bulk': how many values and letters a reading holds, each counted each time it is reached (what is shared counts as often as it is met; a slice's spare places count too). A statement '..UptoSaid' is the law's where the arguments, and the package variables that the reading takes, are together of bulk at most 1048576: NARROWER than '..Said'. Prove '..Said' where nothing that the law and all that it calls make is longer than what came in: it says more and counts as full. Else prove '..UptoSaid'. A law counts once. -/
mutual
def uptoBulk {H : Type} : DataW H → Nat
  | .lit (.string bytes) => bytes.length + 1
  | .lit _ => 1
  | .nil => 1
  | .ptr d => uptoBulk d + 1
  | .slice elems spare => uptoBulkAll elems + uptoBulkAll spare + 1
  | .agg parts => uptoBulkAll parts + 1
  | .iface _ d => uptoBulk d + 1
  | .map entries => uptoBulkEntries entries + 1
  | .held _ => 1
def uptoBulkAll {H : Type} : List (DataW H) → Nat
  | [] => 0
  | d :: r => uptoBulk d + uptoBulkAll r
def uptoBulkEntries {H : Type} : List (Lit × DataW H) → Nat
  | [] => 0
  | x :: r => uptoBulkEntry x + uptoBulkEntries r
def uptoBulkEntry {H : Type} : Lit × DataW H → Nat
  | (.string bytes, d) => bytes.length + uptoBulk d + 1
  | (_, d) => uptoBulk d + 1
 end
def uptoSmall : (H : Type) → List (DataW H) → Bool := fun _ ds => decide (uptoBulkAll ds ≤ 1048576)
def OpenSpec.upto (s : _root_.Go.ChangeSpec) : _root_.Go.OpenSpec := { _root_.Go.OpenSpec.ofChange s with cond := some uptoSmall }

/-- 'laws.FnExactPacked', WHERE WHAT IT READS IS OF BULK AT MOST 1048576: true; the input reads as it did. -/
def fnExactPackedUptoRow : OpenClaim := { program := "ytdogibjgogcdkah", sum := "bfe59b0b6835d0a807bda129142d68760f6a97a2995277d989d764ca7d65023a", func := "loop.example/g00337/laws.FnExactPacked", spec := "fnExactPacked", apart := false, narrowed := true }
def FnExactPackedUptoSaid : Prop := fnExactPackedUptoRow.holds Try.pinned (OpenSpec.upto fnExactPackedSpec)

/-- 'laws.FnExactUnpacked', WHERE WHAT IT READS IS OF BULK AT MOST 1048576: true; the input reads as it did. -/
def fnExactUnpackedUptoRow : OpenClaim := { program := "ytdogibjgogcdkah", sum := "bfe59b0b6835d0a807bda129142d68760f6a97a2995277d989d764ca7d65023a", func := "loop.example/g00337/laws.FnExactUnpacked", spec := "fnExactUnpacked", apart := false, narrowed := true }
def FnExactUnpackedUptoSaid : Prop := fnExactUnpackedUptoRow.holds Try.pinned (OpenSpec.upto fnExactUnpackedSpec)

/-- 'laws.FnExactSizeOf', WHERE WHAT IT READS IS OF BULK AT MOST 1048576: true; the input reads as it did. -/
def fnExactSizeOfUptoRow : OpenClaim := { program := "ytdogibjgogcdkah", sum := "bfe59b0b6835d0a807bda129142d68760f6a97a2995277d989d764ca7d65023a", func := "loop.example/g00337/laws.FnExactSizeOf", spec := "fnExactSizeOf", apart := false, narrowed := true }
def FnExactSizeOfUptoSaid : Prop := fnExactSizeOfUptoRow.holds Try.pinned (OpenSpec.upto fnExactSizeOfSpec)

/-- 'laws.FnExactStrongFrom', WHERE WHAT IT READS IS OF BULK AT MOST 1048576: true; the input reads as it did. -/
def fnExactStrongFromUptoRow : OpenClaim := { program := "ytdogibjgogcdkah", sum := "bfe59b0b6835d0a807bda129142d68760f6a97a2995277d989d764ca7d65023a", func := "loop.example/g00337/laws.FnExactStrongFrom", spec := "fnExactStrongFrom", apart := false, narrowed := true }
def FnExactStrongFromUptoSaid : Prop := fnExactStrongFromUptoRow.holds Try.pinned (OpenSpec.upto fnExactStrongFromSpec)

/-- 'laws.FnExactReadAt', WHERE WHAT IT READS IS OF BULK AT MOST 1048576: true; the input reads as it did. -/
def fnExactReadAtUptoRow : OpenClaim := { program := "ytdogibjgogcdkah", sum := "bfe59b0b6835d0a807bda129142d68760f6a97a2995277d989d764ca7d65023a", func := "loop.example/g00337/laws.FnExactReadAt", spec := "fnExactReadAt", apart := false, narrowed := true }
def FnExactReadAtUptoSaid : Prop := fnExactReadAtUptoRow.holds Try.pinned (OpenSpec.upto fnExactReadAtSpec)

/-- 'laws.FnExactWriteAt', WHERE WHAT IT READS IS OF BULK AT MOST 1048576: true; the input reads as it did. -/
def fnExactWriteAtUptoRow : OpenClaim := { program := "ytdogibjgogcdkah", sum := "bfe59b0b6835d0a807bda129142d68760f6a97a2995277d989d764ca7d65023a", func := "loop.example/g00337/laws.FnExactWriteAt", spec := "fnExactWriteAt", apart := false, narrowed := true }
def FnExactWriteAtUptoSaid : Prop := fnExactWriteAtUptoRow.holds Try.pinned (OpenSpec.upto fnExactWriteAtSpec)

end Rows
end Go.Proofs.Ytdogibjgogcdkah
