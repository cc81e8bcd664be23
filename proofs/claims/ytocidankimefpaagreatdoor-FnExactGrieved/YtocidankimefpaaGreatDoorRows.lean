/-
  NARROWER THAN 'FOR EVERY INPUT', by the rows' own cells (each row's printed sentence says how): FnExactGrieved: ifaces, laid · FnExactSwept: ifaces, laid.
  DERIVED. THE GIVEN ROWS OF THIS SEAT. 2 by the template 'for every input the law returns true; each argument reads behind the call as it read before'; 0 by the template 'total and deterministic' (their statements: YtocidankimefpaaGreatDoorTotals.lean).
  GIVEN WITH THE SEED: the statements are not yours to turn. If you find one false, say at which input.
  Laid BY PROGRAM, IN A SANDBOX (cutbox-rows.mjs): the forced cells as the released guide's own fill.sh prints them over the translation 6339c6b4795172e5… (all of the seat's roots in one cut). By AI agents, Wed Nov 11 2026. No macro, syntax, notation, axiom, sorry.
-/
import Derived.Test.YtocidankimefpaaGreatDoorChecked
import GoSem.Claim
import GoSem.ClaimJoined
import GoSem.ClaimMapViews
import Derived.JoinedTies
import Derived.KernelRfl
namespace Go.Proofs.YtocidankimefpaaGreatDoor
/- THE CELL 'sum', in the pinned program and in every row, IS THE sha256 OF THE DUMP (.gsa) THAT YtocidankimefpaaGreatDoorProg.lean LOADS. Nothing in Lean hashes anything: it is a label: what it is worth is what the hold of that sum in a sandbox is worth. -/
noncomputable def Tryz.pinned : Pinned := { name := "ytocidankimefpaagreatdoor", sum := "6339c6b4795172e55411036efe9fddb3904360c28d5607a12610fe4c44f5ff1e", checked := Tryz.checked }
namespace Rows
def none {H : Type} : Left H := { results := [], args := [] }

/- WHAT THE LISTED PACKAGE-LEVEL VARIABLES READ AS WHEN THE CALL BEGINS. Each datum BY PROGRAM (the guide's laid-datum.mjs) off the statement by which the dump's own 'gosem.cut.vars' lays the variable. In a bare row this is a premise. The card (YtocidankimefpaaGreatDoorCards.lean) ties it to the program's text. -/
def laid_loop_example_g00337_impl_errWrongHeap {H : Type} : DataW H := .iface "*errors.errorString" (.ptr (.agg [.lit (.string [116, 104, 101, 32, 104, 101, 97, 112, 32, 105, 115, 32, 110, 111, 116, 32, 114, 105, 103, 104, 116])]))
def laid_loop_example_g00337_impl_errNotKept {H : Type} : DataW H := .iface "*errors.errorString" (.ptr (.agg [.lit (.string [110, 111, 98, 111, 100, 121, 32, 101, 108, 115, 101, 32, 107, 101, 101, 112, 115, 32, 119, 104, 97, 116, 32, 105, 115, 32, 108, 101, 100, 32, 116, 111])]))

/-- 'laws.FnExactGrieved': WHATEVER THE INPUT: true; the input reads as it did. -/
def fnExactGrievedSpec : ChangeSpec := { name := "fnExactGrieved", vars := ["loop.example/g00337/impl.errWrongHeap"], fn := fun _ => fun
  | [d, g1] => { results := [.lit (.bool true)], args := [d], vars := [g1] }
  | _ => none }
def fnExactGrievedRow : OpenClaim := { program := "ytocidankimefpaagreatdoor", sum := "6339c6b4795172e55411036efe9fddb3904360c28d5607a12610fe4c44f5ff1e", func := "loop.example/g00337/laws.FnExactGrieved", spec := "fnExactGrieved", inPlace := ["internal/reflectlite.TypeOf"], unfollowed := true, recurses := true, named := ["loop.example/g00337/impl.errWrongHeap"], ifaces := true, apart := false, laid := [("loop.example/g00337/impl.errWrongHeap", laid_loop_example_g00337_impl_errWrongHeap)] }
def FnExactGrievedSaid : Prop := fnExactGrievedRow.holds Tryz.pinned (OpenSpec.ofChange fnExactGrievedSpec)

/-- ITS FALSE NEIGHBOUR: 'it returns false'. Refute it at one input. -/
def fnExactGrievedWrong : ChangeSpec := { name := "fnExactGrieved", vars := ["loop.example/g00337/impl.errWrongHeap"], fn := fun _ => fun
  | [d, g1] => { results := [.lit (.bool false)], args := [d], vars := [g1] }
  | _ => none }
def FnExactGrievedWrongFalsely : Prop := fnExactGrievedRow.holds Tryz.pinned (OpenSpec.ofChange fnExactGrievedWrong)

/-- 'laws.FnExactSwept': WHATEVER THE INPUT: true; the input reads as it did. -/
def fnExactSweptSpec : ChangeSpec := { name := "fnExactSwept", vars := ["loop.example/g00337/impl.errNotKept"], fn := fun _ => fun
  | [d, g1] => { results := [.lit (.bool true)], args := [d], vars := [g1] }
  | _ => none }
def fnExactSweptRow : OpenClaim := { program := "ytocidankimefpaagreatdoor", sum := "6339c6b4795172e55411036efe9fddb3904360c28d5607a12610fe4c44f5ff1e", func := "loop.example/g00337/laws.FnExactSwept", spec := "fnExactSwept", inPlace := ["slices.overlaps[int64]"], unfollowed := true, recurses := true, named := ["loop.example/g00337/impl.errNotKept"], ifaces := true, apart := false, laid := [("loop.example/g00337/impl.errNotKept", laid_loop_example_g00337_impl_errNotKept)] }
def FnExactSweptSaid : Prop := fnExactSweptRow.holds Tryz.pinned (OpenSpec.ofChange fnExactSweptSpec)

/-- ITS FALSE NEIGHBOUR: 'it returns false'. Refute it at one input. -/
def fnExactSweptWrong : ChangeSpec := { name := "fnExactSwept", vars := ["loop.example/g00337/impl.errNotKept"], fn := fun _ => fun
  | [d, g1] => { results := [.lit (.bool false)], args := [d], vars := [g1] }
  | _ => none }
def FnExactSweptWrongFalsely : Prop := fnExactSweptRow.holds Tryz.pinned (OpenSpec.ofChange fnExactSweptWrong)

/- THE SECOND FORM. 'bulk': how many values and letters a reading holds, each counted each time it is reached (what is shared counts as often as it is met; a slice's spare places count too). A statement '..UptoSaid' is the law's where the arguments, and the package variables that the reading takes, are together of bulk at most 1048576: NARROWER than '..Said'. Prove '..Said' where nothing that the law and all that it calls make is longer than what came in: it says more and counts as full. Else prove '..UptoSaid'. A law counts once. -/
mutual
def uptoBulk {H : Type} : DataW H → Nat
  | .lit (.string bytes) => bytes.length + 1
  | .lit _ => 1
  | .nil => 1
  | .ptr d => uptoBulk d + 1
  | .slice elems spare => uptoBulkAll elems + uptoBulkAll spare + 1
  | .agg parts => uptoBulkAll parts + 1
  | .iface _ d => uptoBulk d + 1
  | .map entries => uptoBulkEntries entries + 1
  | .held _ => 1
def uptoBulkAll {H : Type} : List (DataW H) → Nat
  | [] => 0
  | d :: r => uptoBulk d + uptoBulkAll r
def uptoBulkEntries {H : Type} : List (Lit × DataW H) → Nat
  | [] => 0
  | x :: r => uptoBulkEntry x + uptoBulkEntries r
def uptoBulkEntry {H : Type} : Lit × DataW H → Nat
  | (.string bytes, d) => bytes.length + uptoBulk d + 1
  | (_, d) => uptoBulk d + 1
 end
def uptoSmall : (H : Type) → List (DataW H) → Bool := fun _ ds => decide (uptoBulkAll ds ≤ 1048576)
def OpenSpec.upto (s : _root_.Go.ChangeSpec) : _root_.Go.OpenSpec := { _root_.Go.OpenSpec.ofChange s with cond := some uptoSmall }

/-- 'laws.FnExactGrieved', WHERE WHAT IT READS IS OF BULK AT MOST 1048576: true; the input reads as it did. -/
def fnExactGrievedUptoRow : OpenClaim := { program := "ytocidankimefpaagreatdoor", sum := "6339c6b4795172e55411036efe9fddb3904360c28d5607a12610fe4c44f5ff1e", func := "loop.example/g00337/laws.FnExactGrieved", spec := "fnExactGrieved", inPlace := ["internal/reflectlite.TypeOf"], unfollowed := true, recurses := true, named := ["loop.example/g00337/impl.errWrongHeap"], ifaces := true, apart := false, laid := [("loop.example/g00337/impl.errWrongHeap", laid_loop_example_g00337_impl_errWrongHeap)], narrowed := true }
def FnExactGrievedUptoSaid : Prop := fnExactGrievedUptoRow.holds Tryz.pinned (OpenSpec.upto fnExactGrievedSpec)

/-- 'laws.FnExactSwept', WHERE WHAT IT READS IS OF BULK AT MOST 1048576: true; the input reads as it did. -/
def fnExactSweptUptoRow : OpenClaim := { program := "ytocidankimefpaagreatdoor", sum := "6339c6b4795172e55411036efe9fddb3904360c28d5607a12610fe4c44f5ff1e", func := "loop.example/g00337/laws.FnExactSwept", spec := "fnExactSwept", inPlace := ["slices.overlaps[int64]"], unfollowed := true, recurses := true, named := ["loop.example/g00337/impl.errNotKept"], ifaces := true, apart := false, laid := [("loop.example/g00337/impl.errNotKept", laid_loop_example_g00337_impl_errNotKept)], narrowed := true }
def FnExactSweptUptoSaid : Prop := fnExactSweptUptoRow.holds Tryz.pinned (OpenSpec.upto fnExactSweptSpec)

end Rows
end Go.Proofs.YtocidankimefpaaGreatDoor
