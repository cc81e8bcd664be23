/-
  No cell of these rows narrows 'for every input' (looked for: loops, veiled, ifaces, maps, wideKeys, modest, calm, conditions, laid).
  DERIVED. THE GIVEN ROWS OF THIS SEAT. 4 by the template 'for every input the law returns true; each argument reads behind the call as it read before'; 0 by the template 'total and deterministic' (their statements: YtemlagfaaibenaaGreatTotals.lean).
  GIVEN WITH THE SEED: the statements are not yours to turn. If you find one false, say at which input.
  Laid BY PROGRAM, IN A SANDBOX (cutbox-rows.mjs): the forced cells as the released guide's own fill.sh prints them over the translation a76c330aa114ce2a… (all of the seat's roots in one cut). By AI agents, Wed Nov 11 2026. No macro, syntax, notation, axiom, sorry.
-/
import Derived.Test.YtemlagfaaibenaaGreatChecked
import GoSem.Claim
import GoSem.ClaimJoined
import GoSem.ClaimMapViews
import Derived.JoinedTies
import Derived.KernelRfl
namespace Go.Proofs.YtemlagfaaibenaaGreat
/- THE CELL 'sum', in the pinned program and in every row, IS THE sha256 OF THE DUMP (.gsa) THAT YtemlagfaaibenaaGreatProg.lean LOADS. Nothing in Lean hashes anything: it is a label: what it is worth is what the hold of that sum in a sandbox is worth. -/
noncomputable def Tryz.pinned : Pinned := { name := "ytemlagfaaibenaagreat", sum := "a76c330aa114ce2aa7f051c4f7a355adc826b357596dbf6fa8b9ed59b3d536ba", checked := Tryz.checked }
namespace Rows
def none {H : Type} : Left H := { results := [], args := [] }

/-- 'laws.FnExactHashOf': WHATEVER THE INPUT: true; the input reads as it did. -/
def fnExactHashOfSpec : ChangeSpec := { name := "fnExactHashOf", fn := fun _ => fun
  | [d1, d2] => { results := [.lit (.bool true)], args := [d1, d2] }
  | _ => none }
def fnExactHashOfRow : OpenClaim := { program := "ytemlagfaaibenaagreat", sum := "a76c330aa114ce2aa7f051c4f7a355adc826b357596dbf6fa8b9ed59b3d536ba", func := "loop.example/g00337/laws.FnExactHashOf", spec := "fnExactHashOf", unfollowed := true, recurses := true, plainKeys := false, apart := false }
def FnExactHashOfSaid : Prop := fnExactHashOfRow.holds Tryz.pinned (OpenSpec.ofChange fnExactHashOfSpec)

/-- ITS FALSE NEIGHBOUR: 'it returns false'. Refute it at one input. -/
def fnExactHashOfWrong : ChangeSpec := { name := "fnExactHashOf", fn := fun _ => fun
  | [d1, d2] => { results := [.lit (.bool false)], args := [d1, d2] }
  | _ => none }
def FnExactHashOfWrongFalsely : Prop := fnExactHashOfRow.holds Tryz.pinned (OpenSpec.ofChange fnExactHashOfWrong)

/-- 'laws.FnExactClassOf': WHATEVER THE INPUT: true; the input reads as it did. -/
def fnExactClassOfSpec : ChangeSpec := { name := "fnExactClassOf", fn := fun _ => fun
  | [d1, d2] => { results := [.lit (.bool true)], args := [d1, d2] }
  | _ => none }
def fnExactClassOfRow : OpenClaim := { program := "ytemlagfaaibenaagreat", sum := "a76c330aa114ce2aa7f051c4f7a355adc826b357596dbf6fa8b9ed59b3d536ba", func := "loop.example/g00337/laws.FnExactClassOf", spec := "fnExactClassOf", unfollowed := true, recurses := true, plainKeys := false, apart := false }
def FnExactClassOfSaid : Prop := fnExactClassOfRow.holds Tryz.pinned (OpenSpec.ofChange fnExactClassOfSpec)

/-- ITS FALSE NEIGHBOUR: 'it returns false'. Refute it at one input. -/
def fnExactClassOfWrong : ChangeSpec := { name := "fnExactClassOf", fn := fun _ => fun
  | [d1, d2] => { results := [.lit (.bool false)], args := [d1, d2] }
  | _ => none }
def FnExactClassOfWrongFalsely : Prop := fnExactClassOfRow.holds Tryz.pinned (OpenSpec.ofChange fnExactClassOfWrong)

/-- 'laws.FnExactCompacted': WHATEVER THE INPUT: true; the input reads as it did. -/
def fnExactCompactedSpec : ChangeSpec := { name := "fnExactCompacted", fn := fun _ => fun
  | [d] => { results := [.lit (.bool true)], args := [d] }
  | _ => none }
def fnExactCompactedRow : OpenClaim := { program := "ytemlagfaaibenaagreat", sum := "a76c330aa114ce2aa7f051c4f7a355adc826b357596dbf6fa8b9ed59b3d536ba", func := "loop.example/g00337/laws.FnExactCompacted", spec := "fnExactCompacted", unfollowed := true, recurses := true, plainKeys := false, apart := false }
def FnExactCompactedSaid : Prop := fnExactCompactedRow.holds Tryz.pinned (OpenSpec.ofChange fnExactCompactedSpec)

/-- ITS FALSE NEIGHBOUR: 'it returns false'. Refute it at one input. -/
def fnExactCompactedWrong : ChangeSpec := { name := "fnExactCompacted", fn := fun _ => fun
  | [d] => { results := [.lit (.bool false)], args := [d] }
  | _ => none }
def FnExactCompactedWrongFalsely : Prop := fnExactCompactedRow.holds Tryz.pinned (OpenSpec.ofChange fnExactCompactedWrong)

/-- 'laws.FnExactReplaced': WHATEVER THE INPUT: true; the input reads as it did. -/
def fnExactReplacedSpec : ChangeSpec := { name := "fnExactReplaced", fn := fun _ => fun
  | [d1, d2, d3] => { results := [.lit (.bool true)], args := [d1, d2, d3] }
  | _ => none }
def fnExactReplacedRow : OpenClaim := { program := "ytemlagfaaibenaagreat", sum := "a76c330aa114ce2aa7f051c4f7a355adc826b357596dbf6fa8b9ed59b3d536ba", func := "loop.example/g00337/laws.FnExactReplaced", spec := "fnExactReplaced", unfollowed := true, recurses := true, plainKeys := false, apart := false }
def FnExactReplacedSaid : Prop := fnExactReplacedRow.holds Tryz.pinned (OpenSpec.ofChange fnExactReplacedSpec)

/-- ITS FALSE NEIGHBOUR: 'it returns false'. Refute it at one input. -/
def fnExactReplacedWrong : ChangeSpec := { name := "fnExactReplaced", fn := fun _ => fun
  | [d1, d2, d3] => { results := [.lit (.bool false)], args := [d1, d2, d3] }
  | _ => none }
def FnExactReplacedWrongFalsely : Prop := fnExactReplacedRow.holds Tryz.pinned (OpenSpec.ofChange fnExactReplacedWrong)

/- THE SECOND FORM. 'bulk': how many values and letters a reading holds, each counted each time it is reached (what is shared counts as often as it is met; a slice's spare places count too). A statement '..UptoSaid' is the law's where the arguments, and the package variables that the reading takes, are together of bulk at most 1048576: NARROWER than '..Said'. Prove '..Said' where nothing that the law and all that it calls make is longer than what came in: it says more and counts as full. Else prove '..UptoSaid'. A law counts once. -/
mutual
def uptoBulk {H : Type} : DataW H → Nat
  | .lit (.string bytes) => bytes.length + 1
  | .lit _ => 1
  | .nil => 1
  | .ptr d => uptoBulk d + 1
  | .slice elems spare => uptoBulkAll elems + uptoBulkAll spare + 1
  | .agg parts => uptoBulkAll parts + 1
  | .iface _ d => uptoBulk d + 1
  | .map entries => uptoBulkEntries entries + 1
  | .held _ => 1
def uptoBulkAll {H : Type} : List (DataW H) → Nat
  | [] => 0
  | d :: r => uptoBulk d + uptoBulkAll r
def uptoBulkEntries {H : Type} : List (Lit × DataW H) → Nat
  | [] => 0
  | x :: r => uptoBulkEntry x + uptoBulkEntries r
def uptoBulkEntry {H : Type} : Lit × DataW H → Nat
  | (.string bytes, d) => bytes.length + uptoBulk d + 1
  | (_, d) => uptoBulk d + 1
 end
def uptoSmall : (H : Type) → List (DataW H) → Bool := fun _ ds => decide (uptoBulkAll ds ≤ 1048576)
def OpenSpec.upto (s : _root_.Go.ChangeSpec) : _root_.Go.OpenSpec := { _root_.Go.OpenSpec.ofChange s with cond := some uptoSmall }

/-- 'laws.FnExactHashOf', WHERE WHAT IT READS IS OF BULK AT MOST 1048576: true; the input reads as it did. -/
def fnExactHashOfUptoRow : OpenClaim := { program := "ytemlagfaaibenaagreat", sum := "a76c330aa114ce2aa7f051c4f7a355adc826b357596dbf6fa8b9ed59b3d536ba", func := "loop.example/g00337/laws.FnExactHashOf", spec := "fnExactHashOf", unfollowed := true, recurses := true, plainKeys := false, apart := false, narrowed := true }
def FnExactHashOfUptoSaid : Prop := fnExactHashOfUptoRow.holds Tryz.pinned (OpenSpec.upto fnExactHashOfSpec)

/-- 'laws.FnExactClassOf', WHERE WHAT IT READS IS OF BULK AT MOST 1048576: true; the input reads as it did. -/
def fnExactClassOfUptoRow : OpenClaim := { program := "ytemlagfaaibenaagreat", sum := "a76c330aa114ce2aa7f051c4f7a355adc826b357596dbf6fa8b9ed59b3d536ba", func := "loop.example/g00337/laws.FnExactClassOf", spec := "fnExactClassOf", unfollowed := true, recurses := true, plainKeys := false, apart := false, narrowed := true }
def FnExactClassOfUptoSaid : Prop := fnExactClassOfUptoRow.holds Tryz.pinned (OpenSpec.upto fnExactClassOfSpec)

/-- 'laws.FnExactCompacted', WHERE WHAT IT READS IS OF BULK AT MOST 1048576: true; the input reads as it did. -/
def fnExactCompactedUptoRow : OpenClaim := { program := "ytemlagfaaibenaagreat", sum := "a76c330aa114ce2aa7f051c4f7a355adc826b357596dbf6fa8b9ed59b3d536ba", func := "loop.example/g00337/laws.FnExactCompacted", spec := "fnExactCompacted", unfollowed := true, recurses := true, plainKeys := false, apart := false, narrowed := true }
def FnExactCompactedUptoSaid : Prop := fnExactCompactedUptoRow.holds Tryz.pinned (OpenSpec.upto fnExactCompactedSpec)

/-- 'laws.FnExactReplaced', WHERE WHAT IT READS IS OF BULK AT MOST 1048576: true; the input reads as it did. -/
def fnExactReplacedUptoRow : OpenClaim := { program := "ytemlagfaaibenaagreat", sum := "a76c330aa114ce2aa7f051c4f7a355adc826b357596dbf6fa8b9ed59b3d536ba", func := "loop.example/g00337/laws.FnExactReplaced", spec := "fnExactReplaced", unfollowed := true, recurses := true, plainKeys := false, apart := false, narrowed := true }
def FnExactReplacedUptoSaid : Prop := fnExactReplacedUptoRow.holds Tryz.pinned (OpenSpec.upto fnExactReplacedSpec)

end Rows
end Go.Proofs.YtemlagfaaibenaaGreat
