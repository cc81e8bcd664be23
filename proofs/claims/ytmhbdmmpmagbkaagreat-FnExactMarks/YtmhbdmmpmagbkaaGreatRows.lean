/-
  No cell of these rows narrows 'for every input' (looked for: loops, veiled, ifaces, maps, wideKeys, modest, calm, conditions, laid).
  DERIVED. THE GIVEN ROWS OF THIS SEAT. 6 by the template 'for every input the law returns true; each argument reads behind the call as it read before'; 0 by the template 'total and deterministic' (their statements: YtmhbdmmpmagbkaaGreatTotals.lean).
  GIVEN WITH THE SEED: the statements are not yours to turn. If you find one false, say at which input.
  Laid BY PROGRAM, IN A SANDBOX (cutbox-rows.mjs): the forced cells as the released guide's own fill.sh prints them over the translation 3af4343da6a051cd… (all of the seat's roots in one cut). By AI agents, Wed Nov 11 2026. No macro, syntax, notation, axiom, sorry.
-/
import Derived.Test.YtmhbdmmpmagbkaaGreatChecked
import GoSem.Claim
import GoSem.ClaimJoined
import GoSem.ClaimMapViews
import Derived.JoinedTies
import Derived.KernelRfl
namespace Go.Proofs.YtmhbdmmpmagbkaaGreat
/- THE CELL 'sum', in the pinned program and in every row, IS THE sha256 OF THE DUMP (.gsa) THAT YtmhbdmmpmagbkaaGreatProg.lean LOADS. Nothing in Lean hashes anything: it is a label: what it is worth is what the hold of that sum in a sandbox is worth. -/
noncomputable def Tryz.pinned : Pinned := { name := "ytmhbdmmpmagbkaagreat", sum := "3af4343da6a051cd80ec453c03715c0c84ec47ad2c2621ca98245610a785f45b", checked := Tryz.checked }
namespace Rows
def none {H : Type} : Left H := { results := [], args := [] }

/-- 'laws.FnExactShown': WHATEVER THE INPUT: true; the input reads as it did. -/
def fnExactShownSpec : ChangeSpec := { name := "fnExactShown", fn := fun _ => fun
  | [d] => { results := [.lit (.bool true)], args := [d] }
  | _ => none }
def fnExactShownRow : OpenClaim := { program := "ytmhbdmmpmagbkaagreat", sum := "3af4343da6a051cd80ec453c03715c0c84ec47ad2c2621ca98245610a785f45b", func := "loop.example/g00337/laws.FnExactShown", spec := "fnExactShown", unfollowed := true, recurses := true, apart := false }
def FnExactShownSaid : Prop := fnExactShownRow.holds Tryz.pinned (OpenSpec.ofChange fnExactShownSpec)

/-- ITS FALSE NEIGHBOUR: 'it returns false'. Refute it at one input. -/
def fnExactShownWrong : ChangeSpec := { name := "fnExactShown", fn := fun _ => fun
  | [d] => { results := [.lit (.bool false)], args := [d] }
  | _ => none }
def FnExactShownWrongFalsely : Prop := fnExactShownRow.holds Tryz.pinned (OpenSpec.ofChange fnExactShownWrong)

/-- 'laws.FnExactScavenged': WHATEVER THE INPUT: true; the input reads as it did. -/
def fnExactScavengedSpec : ChangeSpec := { name := "fnExactScavenged", fn := fun _ => fun
  | [d] => { results := [.lit (.bool true)], args := [d] }
  | _ => none }
def fnExactScavengedRow : OpenClaim := { program := "ytmhbdmmpmagbkaagreat", sum := "3af4343da6a051cd80ec453c03715c0c84ec47ad2c2621ca98245610a785f45b", func := "loop.example/g00337/laws.FnExactScavenged", spec := "fnExactScavenged", unfollowed := true, recurses := true, apart := false }
def FnExactScavengedSaid : Prop := fnExactScavengedRow.holds Tryz.pinned (OpenSpec.ofChange fnExactScavengedSpec)

/-- ITS FALSE NEIGHBOUR: 'it returns false'. Refute it at one input. -/
def fnExactScavengedWrong : ChangeSpec := { name := "fnExactScavenged", fn := fun _ => fun
  | [d] => { results := [.lit (.bool false)], args := [d] }
  | _ => none }
def FnExactScavengedWrongFalsely : Prop := fnExactScavengedRow.holds Tryz.pinned (OpenSpec.ofChange fnExactScavengedWrong)

/-- 'laws.FnExactCarried': WHATEVER THE INPUT: true; the input reads as it did. -/
def fnExactCarriedSpec : ChangeSpec := { name := "fnExactCarried", fn := fun _ => fun
  | [d] => { results := [.lit (.bool true)], args := [d] }
  | _ => none }
def fnExactCarriedRow : OpenClaim := { program := "ytmhbdmmpmagbkaagreat", sum := "3af4343da6a051cd80ec453c03715c0c84ec47ad2c2621ca98245610a785f45b", func := "loop.example/g00337/laws.FnExactCarried", spec := "fnExactCarried", unfollowed := true, recurses := true, apart := false }
def FnExactCarriedSaid : Prop := fnExactCarriedRow.holds Tryz.pinned (OpenSpec.ofChange fnExactCarriedSpec)

/-- ITS FALSE NEIGHBOUR: 'it returns false'. Refute it at one input. -/
def fnExactCarriedWrong : ChangeSpec := { name := "fnExactCarried", fn := fun _ => fun
  | [d] => { results := [.lit (.bool false)], args := [d] }
  | _ => none }
def FnExactCarriedWrongFalsely : Prop := fnExactCarriedRow.holds Tryz.pinned (OpenSpec.ofChange fnExactCarriedWrong)

/-- 'laws.FnExactMarks': WHATEVER THE INPUT: true; the input reads as it did. -/
def fnExactMarksSpec : ChangeSpec := { name := "fnExactMarks", fn := fun _ => fun
  | [d] => { results := [.lit (.bool true)], args := [d] }
  | _ => none }
def fnExactMarksRow : OpenClaim := { program := "ytmhbdmmpmagbkaagreat", sum := "3af4343da6a051cd80ec453c03715c0c84ec47ad2c2621ca98245610a785f45b", func := "loop.example/g00337/laws.FnExactMarks", spec := "fnExactMarks", inPlace := ["slices.overlaps[int64]"], unfollowed := true, recurses := true, apart := false }
def FnExactMarksSaid : Prop := fnExactMarksRow.holds Tryz.pinned (OpenSpec.ofChange fnExactMarksSpec)

/-- ITS FALSE NEIGHBOUR: 'it returns false'. Refute it at one input. -/
def fnExactMarksWrong : ChangeSpec := { name := "fnExactMarks", fn := fun _ => fun
  | [d] => { results := [.lit (.bool false)], args := [d] }
  | _ => none }
def FnExactMarksWrongFalsely : Prop := fnExactMarksRow.holds Tryz.pinned (OpenSpec.ofChange fnExactMarksWrong)

/-- 'laws.FnExactGarbage': WHATEVER THE INPUT: true; the input reads as it did. -/
def fnExactGarbageSpec : ChangeSpec := { name := "fnExactGarbage", fn := fun _ => fun
  | [d] => { results := [.lit (.bool true)], args := [d] }
  | _ => none }
def fnExactGarbageRow : OpenClaim := { program := "ytmhbdmmpmagbkaagreat", sum := "3af4343da6a051cd80ec453c03715c0c84ec47ad2c2621ca98245610a785f45b", func := "loop.example/g00337/laws.FnExactGarbage", spec := "fnExactGarbage", inPlace := ["slices.overlaps[int64]"], unfollowed := true, recurses := true, apart := false }
def FnExactGarbageSaid : Prop := fnExactGarbageRow.holds Tryz.pinned (OpenSpec.ofChange fnExactGarbageSpec)

/-- ITS FALSE NEIGHBOUR: 'it returns false'. Refute it at one input. -/
def fnExactGarbageWrong : ChangeSpec := { name := "fnExactGarbage", fn := fun _ => fun
  | [d] => { results := [.lit (.bool false)], args := [d] }
  | _ => none }
def FnExactGarbageWrongFalsely : Prop := fnExactGarbageRow.holds Tryz.pinned (OpenSpec.ofChange fnExactGarbageWrong)

/-- 'laws.FnExactLiveWords': WHATEVER THE INPUT: true; the input reads as it did. -/
def fnExactLiveWordsSpec : ChangeSpec := { name := "fnExactLiveWords", fn := fun _ => fun
  | [d] => { results := [.lit (.bool true)], args := [d] }
  | _ => none }
def fnExactLiveWordsRow : OpenClaim := { program := "ytmhbdmmpmagbkaagreat", sum := "3af4343da6a051cd80ec453c03715c0c84ec47ad2c2621ca98245610a785f45b", func := "loop.example/g00337/laws.FnExactLiveWords", spec := "fnExactLiveWords", inPlace := ["slices.overlaps[int64]"], unfollowed := true, recurses := true, apart := false }
def FnExactLiveWordsSaid : Prop := fnExactLiveWordsRow.holds Tryz.pinned (OpenSpec.ofChange fnExactLiveWordsSpec)

/-- ITS FALSE NEIGHBOUR: 'it returns false'. Refute it at one input. -/
def fnExactLiveWordsWrong : ChangeSpec := { name := "fnExactLiveWords", fn := fun _ => fun
  | [d] => { results := [.lit (.bool false)], args := [d] }
  | _ => none }
def FnExactLiveWordsWrongFalsely : Prop := fnExactLiveWordsRow.holds Tryz.pinned (OpenSpec.ofChange fnExactLiveWordsWrong)

/- THE SECOND FORM. 'bulk': how many values and letters a reading holds, each counted each time it is reached (what is shared counts as often as it is met; a slice's spare places count too). A statement '..UptoSaid' is the law's where the arguments, and the package variables that the reading takes, are together of bulk at most 1048576: NARROWER than '..Said'. Prove '..Said' where nothing that the law and all that it calls make is longer than what came in: it says more and counts as full. Else prove '..UptoSaid'. A law counts once. -/
mutual
def uptoBulk {H : Type} : DataW H → Nat
  | .lit (.string bytes) => bytes.length + 1
  | .lit _ => 1
  | .nil => 1
  | .ptr d => uptoBulk d + 1
  | .slice elems spare => uptoBulkAll elems + uptoBulkAll spare + 1
  | .agg parts => uptoBulkAll parts + 1
  | .iface _ d => uptoBulk d + 1
  | .map entries => uptoBulkEntries entries + 1
  | .held _ => 1
def uptoBulkAll {H : Type} : List (DataW H) → Nat
  | [] => 0
  | d :: r => uptoBulk d + uptoBulkAll r
def uptoBulkEntries {H : Type} : List (Lit × DataW H) → Nat
  | [] => 0
  | x :: r => uptoBulkEntry x + uptoBulkEntries r
def uptoBulkEntry {H : Type} : Lit × DataW H → Nat
  | (.string bytes, d) => bytes.length + uptoBulk d + 1
  | (_, d) => uptoBulk d + 1
 end
def uptoSmall : (H : Type) → List (DataW H) → Bool := fun _ ds => decide (uptoBulkAll ds ≤ 1048576)
def OpenSpec.upto (s : _root_.Go.ChangeSpec) : _root_.Go.OpenSpec := { _root_.Go.OpenSpec.ofChange s with cond := some uptoSmall }

/-- 'laws.FnExactShown', WHERE WHAT IT READS IS OF BULK AT MOST 1048576: true; the input reads as it did. -/
def fnExactShownUptoRow : OpenClaim := { program := "ytmhbdmmpmagbkaagreat", sum := "3af4343da6a051cd80ec453c03715c0c84ec47ad2c2621ca98245610a785f45b", func := "loop.example/g00337/laws.FnExactShown", spec := "fnExactShown", unfollowed := true, recurses := true, apart := false, narrowed := true }
def FnExactShownUptoSaid : Prop := fnExactShownUptoRow.holds Tryz.pinned (OpenSpec.upto fnExactShownSpec)

/-- 'laws.FnExactScavenged', WHERE WHAT IT READS IS OF BULK AT MOST 1048576: true; the input reads as it did. -/
def fnExactScavengedUptoRow : OpenClaim := { program := "ytmhbdmmpmagbkaagreat", sum := "3af4343da6a051cd80ec453c03715c0c84ec47ad2c2621ca98245610a785f45b", func := "loop.example/g00337/laws.FnExactScavenged", spec := "fnExactScavenged", unfollowed := true, recurses := true, apart := false, narrowed := true }
def FnExactScavengedUptoSaid : Prop := fnExactScavengedUptoRow.holds Tryz.pinned (OpenSpec.upto fnExactScavengedSpec)

/-- 'laws.FnExactCarried', WHERE WHAT IT READS IS OF BULK AT MOST 1048576: true; the input reads as it did. -/
def fnExactCarriedUptoRow : OpenClaim := { program := "ytmhbdmmpmagbkaagreat", sum := "3af4343da6a051cd80ec453c03715c0c84ec47ad2c2621ca98245610a785f45b", func := "loop.example/g00337/laws.FnExactCarried", spec := "fnExactCarried", unfollowed := true, recurses := true, apart := false, narrowed := true }
def FnExactCarriedUptoSaid : Prop := fnExactCarriedUptoRow.holds Tryz.pinned (OpenSpec.upto fnExactCarriedSpec)

/-- 'laws.FnExactMarks', WHERE WHAT IT READS IS OF BULK AT MOST 1048576: true; the input reads as it did. -/
def fnExactMarksUptoRow : OpenClaim := { program := "ytmhbdmmpmagbkaagreat", sum := "3af4343da6a051cd80ec453c03715c0c84ec47ad2c2621ca98245610a785f45b", func := "loop.example/g00337/laws.FnExactMarks", spec := "fnExactMarks", inPlace := ["slices.overlaps[int64]"], unfollowed := true, recurses := true, apart := false, narrowed := true }
def FnExactMarksUptoSaid : Prop := fnExactMarksUptoRow.holds Tryz.pinned (OpenSpec.upto fnExactMarksSpec)

/-- 'laws.FnExactGarbage', WHERE WHAT IT READS IS OF BULK AT MOST 1048576: true; the input reads as it did. -/
def fnExactGarbageUptoRow : OpenClaim := { program := "ytmhbdmmpmagbkaagreat", sum := "3af4343da6a051cd80ec453c03715c0c84ec47ad2c2621ca98245610a785f45b", func := "loop.example/g00337/laws.FnExactGarbage", spec := "fnExactGarbage", inPlace := ["slices.overlaps[int64]"], unfollowed := true, recurses := true, apart := false, narrowed := true }
def FnExactGarbageUptoSaid : Prop := fnExactGarbageUptoRow.holds Tryz.pinned (OpenSpec.upto fnExactGarbageSpec)

/-- 'laws.FnExactLiveWords', WHERE WHAT IT READS IS OF BULK AT MOST 1048576: true; the input reads as it did. -/
def fnExactLiveWordsUptoRow : OpenClaim := { program := "ytmhbdmmpmagbkaagreat", sum := "3af4343da6a051cd80ec453c03715c0c84ec47ad2c2621ca98245610a785f45b", func := "loop.example/g00337/laws.FnExactLiveWords", spec := "fnExactLiveWords", inPlace := ["slices.overlaps[int64]"], unfollowed := true, recurses := true, apart := false, narrowed := true }
def FnExactLiveWordsUptoSaid : Prop := fnExactLiveWordsUptoRow.holds Tryz.pinned (OpenSpec.upto fnExactLiveWordsSpec)

end Rows
end Go.Proofs.YtmhbdmmpmagbkaaGreat
