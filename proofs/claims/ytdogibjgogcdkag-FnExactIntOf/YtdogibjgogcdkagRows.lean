/-
  No cell of these rows narrows 'for every input' (looked for: loops, veiled, ifaces, maps, wideKeys, modest, calm, conditions, laid).
  DERIVED. THE GIVEN ROWS OF THIS SEAT. 6 by the template 'for every input the law returns true; each argument reads behind the call as it read before'; 0 by the template 'total and deterministic' (their statements: YtdogibjgogcdkagTotals.lean).
  GIVEN WITH THE SEED: the statements are not yours to turn. If you find one false, say at which input.
  Laid BY PROGRAM, IN A SANDBOX (cutbox-rows.mjs): the forced cells as the released guide's own fill.sh prints them over the translation 202391295c331060… (all of the seat's roots in one cut). By AI agents, Wed Nov 11 2026. No macro, syntax, notation, axiom, sorry.
-/
import Derived.Test.YtdogibjgogcdkagChecked
import GoSem.Claim
import GoSem.ClaimJoined
import GoSem.ClaimMapViews
import Derived.JoinedTies
import Derived.KernelRfl
namespace Go.Proofs.Ytdogibjgogcdkag
/- THE CELL 'sum', in the pinned program and in every row, IS THE sha256 OF THE DUMP (.gsa) THAT YtdogibjgogcdkagProg.lean LOADS. Nothing in Lean hashes anything: it is a label: what it is worth is what the hold of that sum in a sandbox is worth. -/
noncomputable def Try.pinned : Pinned := { name := "ytdogibjgogcdkag", sum := "202391295c331060f0767dda8d680f8b07f9071818c0efe95408408f6446e8e4", checked := Try.checked }
namespace Rows
def none {H : Type} : Left H := { results := [], args := [] }

/-- 'laws.FnExactWordOk': WHATEVER THE INPUT: true; the input reads as it did. -/
def fnExactWordOkSpec : ChangeSpec := { name := "fnExactWordOk", fn := fun _ => fun
  | [d] => { results := [.lit (.bool true)], args := [d] }
  | _ => none }
def fnExactWordOkRow : OpenClaim := { program := "ytdogibjgogcdkag", sum := "202391295c331060f0767dda8d680f8b07f9071818c0efe95408408f6446e8e4", func := "loop.example/g00337/laws.FnExactWordOk", spec := "fnExactWordOk", unfollowed := true, recurses := true, apart := false }
def FnExactWordOkSaid : Prop := fnExactWordOkRow.holds Try.pinned (OpenSpec.ofChange fnExactWordOkSpec)

/-- ITS FALSE NEIGHBOUR: 'it returns false'. Refute it at one input. -/
def fnExactWordOkWrong : ChangeSpec := { name := "fnExactWordOk", fn := fun _ => fun
  | [d] => { results := [.lit (.bool false)], args := [d] }
  | _ => none }
def FnExactWordOkWrongFalsely : Prop := fnExactWordOkRow.holds Try.pinned (OpenSpec.ofChange fnExactWordOkWrong)

/-- 'laws.FnExactOfInt': WHATEVER THE INPUT: true; the input reads as it did. -/
def fnExactOfIntSpec : ChangeSpec := { name := "fnExactOfInt", fn := fun _ => fun
  | [d] => { results := [.lit (.bool true)], args := [d] }
  | _ => none }
def fnExactOfIntRow : OpenClaim := { program := "ytdogibjgogcdkag", sum := "202391295c331060f0767dda8d680f8b07f9071818c0efe95408408f6446e8e4", func := "loop.example/g00337/laws.FnExactOfInt", spec := "fnExactOfInt", apart := false }
def FnExactOfIntSaid : Prop := fnExactOfIntRow.holds Try.pinned (OpenSpec.ofChange fnExactOfIntSpec)

/-- ITS FALSE NEIGHBOUR: 'it returns false'. Refute it at one input. -/
def fnExactOfIntWrong : ChangeSpec := { name := "fnExactOfInt", fn := fun _ => fun
  | [d] => { results := [.lit (.bool false)], args := [d] }
  | _ => none }
def FnExactOfIntWrongFalsely : Prop := fnExactOfIntRow.holds Try.pinned (OpenSpec.ofChange fnExactOfIntWrong)

/-- 'laws.FnExactOfAddr': WHATEVER THE INPUT: true; the input reads as it did. -/
def fnExactOfAddrSpec : ChangeSpec := { name := "fnExactOfAddr", fn := fun _ => fun
  | [d] => { results := [.lit (.bool true)], args := [d] }
  | _ => none }
def fnExactOfAddrRow : OpenClaim := { program := "ytdogibjgogcdkag", sum := "202391295c331060f0767dda8d680f8b07f9071818c0efe95408408f6446e8e4", func := "loop.example/g00337/laws.FnExactOfAddr", spec := "fnExactOfAddr", apart := false }
def FnExactOfAddrSaid : Prop := fnExactOfAddrRow.holds Try.pinned (OpenSpec.ofChange fnExactOfAddrSpec)

/-- ITS FALSE NEIGHBOUR: 'it returns false'. Refute it at one input. -/
def fnExactOfAddrWrong : ChangeSpec := { name := "fnExactOfAddr", fn := fun _ => fun
  | [d] => { results := [.lit (.bool false)], args := [d] }
  | _ => none }
def FnExactOfAddrWrongFalsely : Prop := fnExactOfAddrRow.holds Try.pinned (OpenSpec.ofChange fnExactOfAddrWrong)

/-- 'laws.FnExactIntOf': WHATEVER THE INPUT: true; the input reads as it did. -/
def fnExactIntOfSpec : ChangeSpec := { name := "fnExactIntOf", fn := fun _ => fun
  | [d] => { results := [.lit (.bool true)], args := [d] }
  | _ => none }
def fnExactIntOfRow : OpenClaim := { program := "ytdogibjgogcdkag", sum := "202391295c331060f0767dda8d680f8b07f9071818c0efe95408408f6446e8e4", func := "loop.example/g00337/laws.FnExactIntOf", spec := "fnExactIntOf", unfollowed := true, recurses := true, apart := false }
def FnExactIntOfSaid : Prop := fnExactIntOfRow.holds Try.pinned (OpenSpec.ofChange fnExactIntOfSpec)

/-- ITS FALSE NEIGHBOUR: 'it returns false'. Refute it at one input. -/
def fnExactIntOfWrong : ChangeSpec := { name := "fnExactIntOf", fn := fun _ => fun
  | [d] => { results := [.lit (.bool false)], args := [d] }
  | _ => none }
def FnExactIntOfWrongFalsely : Prop := fnExactIntOfRow.holds Try.pinned (OpenSpec.ofChange fnExactIntOfWrong)

/-- 'laws.FnExactAddrOf': WHATEVER THE INPUT: true; the input reads as it did. -/
def fnExactAddrOfSpec : ChangeSpec := { name := "fnExactAddrOf", fn := fun _ => fun
  | [d] => { results := [.lit (.bool true)], args := [d] }
  | _ => none }
def fnExactAddrOfRow : OpenClaim := { program := "ytdogibjgogcdkag", sum := "202391295c331060f0767dda8d680f8b07f9071818c0efe95408408f6446e8e4", func := "loop.example/g00337/laws.FnExactAddrOf", spec := "fnExactAddrOf", unfollowed := true, recurses := true, apart := false }
def FnExactAddrOfSaid : Prop := fnExactAddrOfRow.holds Try.pinned (OpenSpec.ofChange fnExactAddrOfSpec)

/-- ITS FALSE NEIGHBOUR: 'it returns false'. Refute it at one input. -/
def fnExactAddrOfWrong : ChangeSpec := { name := "fnExactAddrOf", fn := fun _ => fun
  | [d] => { results := [.lit (.bool false)], args := [d] }
  | _ => none }
def FnExactAddrOfWrongFalsely : Prop := fnExactAddrOfRow.holds Try.pinned (OpenSpec.ofChange fnExactAddrOfWrong)

/-- 'laws.FnExactHeadOk': WHATEVER THE INPUT: true; the input reads as it did. -/
def fnExactHeadOkSpec : ChangeSpec := { name := "fnExactHeadOk", fn := fun _ => fun
  | [d] => { results := [.lit (.bool true)], args := [d] }
  | _ => none }
def fnExactHeadOkRow : OpenClaim := { program := "ytdogibjgogcdkag", sum := "202391295c331060f0767dda8d680f8b07f9071818c0efe95408408f6446e8e4", func := "loop.example/g00337/laws.FnExactHeadOk", spec := "fnExactHeadOk", apart := false }
def FnExactHeadOkSaid : Prop := fnExactHeadOkRow.holds Try.pinned (OpenSpec.ofChange fnExactHeadOkSpec)

/-- ITS FALSE NEIGHBOUR: 'it returns false'. Refute it at one input. -/
def fnExactHeadOkWrong : ChangeSpec := { name := "fnExactHeadOk", fn := fun _ => fun
  | [d] => { results := [.lit (.bool false)], args := [d] }
  | _ => none }
def FnExactHeadOkWrongFalsely : Prop := fnExactHeadOkRow.holds Try.pinned (OpenSpec.ofChange fnExactHeadOkWrong)

/- THE SECOND FORM. 'bulk': how many values and letters a reading holds, each counted each time it is reached (what is shared counts as often as it is met; a slice's spare places count too). A statement '..UptoSaid' is the law's where the arguments, and the package variables that the reading takes, are together of bulk at most 1048576: NARROWER than '..Said'. Prove '..Said' where nothing that the law and all that it calls make is longer than what came in: it says more and counts as full. Else prove '..UptoSaid'. A law counts once. -/
mutual
def uptoBulk {H : Type} : DataW H → Nat
  | .lit (.string bytes) => bytes.length + 1
  | .lit _ => 1
  | .nil => 1
  | .ptr d => uptoBulk d + 1
  | .slice elems spare => uptoBulkAll elems + uptoBulkAll spare + 1
  | .agg parts => uptoBulkAll parts + 1
  | .iface _ d => uptoBulk d + 1
  | .map entries => uptoBulkEntries entries + 1
  | .held _ => 1
def uptoBulkAll {H : Type} : List (DataW H) → Nat
  | [] => 0
  | d :: r => uptoBulk d + uptoBulkAll r
def uptoBulkEntries {H : Type} : List (Lit × DataW H) → Nat
  | [] => 0
  | x :: r => uptoBulkEntry x + uptoBulkEntries r
def uptoBulkEntry {H : Type} : Lit × DataW H → Nat
  | (.string bytes, d) => bytes.length + uptoBulk d + 1
  | (_, d) => uptoBulk d + 1
 end
def uptoSmall : (H : Type) → List (DataW H) → Bool := fun _ ds => decide (uptoBulkAll ds ≤ 1048576)
def OpenSpec.upto (s : _root_.Go.ChangeSpec) : _root_.Go.OpenSpec := { _root_.Go.OpenSpec.ofChange s with cond := some uptoSmall }

/-- 'laws.FnExactWordOk', WHERE WHAT IT READS IS OF BULK AT MOST 1048576: true; the input reads as it did. -/
def fnExactWordOkUptoRow : OpenClaim := { program := "ytdogibjgogcdkag", sum := "202391295c331060f0767dda8d680f8b07f9071818c0efe95408408f6446e8e4", func := "loop.example/g00337/laws.FnExactWordOk", spec := "fnExactWordOk", unfollowed := true, recurses := true, apart := false, narrowed := true }
def FnExactWordOkUptoSaid : Prop := fnExactWordOkUptoRow.holds Try.pinned (OpenSpec.upto fnExactWordOkSpec)

/-- 'laws.FnExactOfInt', WHERE WHAT IT READS IS OF BULK AT MOST 1048576: true; the input reads as it did. -/
def fnExactOfIntUptoRow : OpenClaim := { program := "ytdogibjgogcdkag", sum := "202391295c331060f0767dda8d680f8b07f9071818c0efe95408408f6446e8e4", func := "loop.example/g00337/laws.FnExactOfInt", spec := "fnExactOfInt", apart := false, narrowed := true }
def FnExactOfIntUptoSaid : Prop := fnExactOfIntUptoRow.holds Try.pinned (OpenSpec.upto fnExactOfIntSpec)

/-- 'laws.FnExactOfAddr', WHERE WHAT IT READS IS OF BULK AT MOST 1048576: true; the input reads as it did. -/
def fnExactOfAddrUptoRow : OpenClaim := { program := "ytdogibjgogcdkag", sum := "202391295c331060f0767dda8d680f8b07f9071818c0efe95408408f6446e8e4", func := "loop.example/g00337/laws.FnExactOfAddr", spec := "fnExactOfAddr", apart := false, narrowed := true }
def FnExactOfAddrUptoSaid : Prop := fnExactOfAddrUptoRow.holds Try.pinned (OpenSpec.upto fnExactOfAddrSpec)

/-- 'laws.FnExactIntOf', WHERE WHAT IT READS IS OF BULK AT MOST 1048576: true; the input reads as it did. -/
def fnExactIntOfUptoRow : OpenClaim := { program := "ytdogibjgogcdkag", sum := "202391295c331060f0767dda8d680f8b07f9071818c0efe95408408f6446e8e4", func := "loop.example/g00337/laws.FnExactIntOf", spec := "fnExactIntOf", unfollowed := true, recurses := true, apart := false, narrowed := true }
def FnExactIntOfUptoSaid : Prop := fnExactIntOfUptoRow.holds Try.pinned (OpenSpec.upto fnExactIntOfSpec)

/-- 'laws.FnExactAddrOf', WHERE WHAT IT READS IS OF BULK AT MOST 1048576: true; the input reads as it did. -/
def fnExactAddrOfUptoRow : OpenClaim := { program := "ytdogibjgogcdkag", sum := "202391295c331060f0767dda8d680f8b07f9071818c0efe95408408f6446e8e4", func := "loop.example/g00337/laws.FnExactAddrOf", spec := "fnExactAddrOf", unfollowed := true, recurses := true, apart := false, narrowed := true }
def FnExactAddrOfUptoSaid : Prop := fnExactAddrOfUptoRow.holds Try.pinned (OpenSpec.upto fnExactAddrOfSpec)

/-- 'laws.FnExactHeadOk', WHERE WHAT IT READS IS OF BULK AT MOST 1048576: true; the input reads as it did. -/
def fnExactHeadOkUptoRow : OpenClaim := { program := "ytdogibjgogcdkag", sum := "202391295c331060f0767dda8d680f8b07f9071818c0efe95408408f6446e8e4", func := "loop.example/g00337/laws.FnExactHeadOk", spec := "fnExactHeadOk", apart := false, narrowed := true }
def FnExactHeadOkUptoSaid : Prop := fnExactHeadOkUptoRow.holds Try.pinned (OpenSpec.upto fnExactHeadOkSpec)

end Rows
end Go.Proofs.Ytdogibjgogcdkag
