/-
  No cell of these rows narrows 'for every input' (looked for: loops, veiled, ifaces, maps, wideKeys, modest, calm, conditions, laid).
  DERIVED. THE GIVEN ROWS OF THIS SEAT. 6 by the template 'for every input the law returns true; each argument reads behind the call as it read before'; 0 by the template 'total and deterministic' (their statements: YtdogibjgogcdkaiTotals.lean).
  GIVEN WITH THE SEED: the statements are not yours to turn. If you find one false, say at which input.
  Laid BY PROGRAM, IN A SANDBOX (cutbox-rows.mjs): the forced cells as the released guide's own fill.sh prints them over the translation 45fa1dfcff1c601a… (all of the seat's roots in one cut). By AI agents, Wed Nov 11 2026. No macro, syntax, notation, axiom, sorry.
-/
import Derived.Test.YtdogibjgogcdkaiChecked
import GoSem.Claim
import GoSem.ClaimJoined
import GoSem.ClaimMapViews
import Derived.JoinedTies
import Derived.KernelRfl
namespace Go.Proofs.Ytdogibjgogcdkai
/- THE CELL 'sum', in the pinned program and in every row, IS THE sha256 OF THE DUMP (.gsa) THAT YtdogibjgogcdkaiProg.lean LOADS. Nothing in Lean hashes anything: it is a label: what it is worth is what the hold of that sum in a sandbox is worth. -/
noncomputable def Try.pinned : Pinned := { name := "ytdogibjgogcdkai", sum := "45fa1dfcff1c601ab3b25014fff11d033213a0b3b03257af42954c3135bdb30d", checked := Try.checked }
namespace Rows
def none {H : Type} : Left H := { results := [], args := [] }

/-- 'laws.FnExactFilled': WHATEVER THE INPUT: true; the input reads as it did. -/
def fnExactFilledSpec : ChangeSpec := { name := "fnExactFilled", fn := fun _ => fun
  | [d1, d2, d3, d4] => { results := [.lit (.bool true)], args := [d1, d2, d3, d4] }
  | _ => none }
def fnExactFilledRow : OpenClaim := { program := "ytdogibjgogcdkai", sum := "45fa1dfcff1c601ab3b25014fff11d033213a0b3b03257af42954c3135bdb30d", func := "loop.example/g00337/laws.FnExactFilled", spec := "fnExactFilled", apart := false }
def FnExactFilledSaid : Prop := fnExactFilledRow.holds Try.pinned (OpenSpec.ofChange fnExactFilledSpec)

/-- ITS FALSE NEIGHBOUR: 'it returns false'. Refute it at one input. -/
def fnExactFilledWrong : ChangeSpec := { name := "fnExactFilled", fn := fun _ => fun
  | [d1, d2, d3, d4] => { results := [.lit (.bool false)], args := [d1, d2, d3, d4] }
  | _ => none }
def FnExactFilledWrongFalsely : Prop := fnExactFilledRow.holds Try.pinned (OpenSpec.ofChange fnExactFilledWrong)

/-- 'laws.FnExactMoved': WHATEVER THE INPUT: true; the input reads as it did. -/
def fnExactMovedSpec : ChangeSpec := { name := "fnExactMoved", fn := fun _ => fun
  | [d1, d2, d3, d4] => { results := [.lit (.bool true)], args := [d1, d2, d3, d4] }
  | _ => none }
def fnExactMovedRow : OpenClaim := { program := "ytdogibjgogcdkai", sum := "45fa1dfcff1c601ab3b25014fff11d033213a0b3b03257af42954c3135bdb30d", func := "loop.example/g00337/laws.FnExactMoved", spec := "fnExactMoved", apart := false }
def FnExactMovedSaid : Prop := fnExactMovedRow.holds Try.pinned (OpenSpec.ofChange fnExactMovedSpec)

/-- ITS FALSE NEIGHBOUR: 'it returns false'. Refute it at one input. -/
def fnExactMovedWrong : ChangeSpec := { name := "fnExactMoved", fn := fun _ => fun
  | [d1, d2, d3, d4] => { results := [.lit (.bool false)], args := [d1, d2, d3, d4] }
  | _ => none }
def FnExactMovedWrongFalsely : Prop := fnExactMovedRow.holds Try.pinned (OpenSpec.ofChange fnExactMovedWrong)

/-- 'laws.FnExactChunkAt': WHATEVER THE INPUT: true; the input reads as it did. -/
def fnExactChunkAtSpec : ChangeSpec := { name := "fnExactChunkAt", fn := fun _ => fun
  | [d1, d2] => { results := [.lit (.bool true)], args := [d1, d2] }
  | _ => none }
def fnExactChunkAtRow : OpenClaim := { program := "ytdogibjgogcdkai", sum := "45fa1dfcff1c601ab3b25014fff11d033213a0b3b03257af42954c3135bdb30d", func := "loop.example/g00337/laws.FnExactChunkAt", spec := "fnExactChunkAt", apart := false }
def FnExactChunkAtSaid : Prop := fnExactChunkAtRow.holds Try.pinned (OpenSpec.ofChange fnExactChunkAtSpec)

/-- ITS FALSE NEIGHBOUR: 'it returns false'. Refute it at one input. -/
def fnExactChunkAtWrong : ChangeSpec := { name := "fnExactChunkAt", fn := fun _ => fun
  | [d1, d2] => { results := [.lit (.bool false)], args := [d1, d2] }
  | _ => none }
def FnExactChunkAtWrongFalsely : Prop := fnExactChunkAtRow.holds Try.pinned (OpenSpec.ofChange fnExactChunkAtWrong)

/-- 'laws.FnExactWalk': WHATEVER THE INPUT: true; the input reads as it did. -/
def fnExactWalkSpec : ChangeSpec := { name := "fnExactWalk", fn := fun _ => fun
  | [d1, d2, d3] => { results := [.lit (.bool true)], args := [d1, d2, d3] }
  | _ => none }
def fnExactWalkRow : OpenClaim := { program := "ytdogibjgogcdkai", sum := "45fa1dfcff1c601ab3b25014fff11d033213a0b3b03257af42954c3135bdb30d", func := "loop.example/g00337/laws.FnExactWalk", spec := "fnExactWalk", unfollowed := true, recurses := true, apart := false }
def FnExactWalkSaid : Prop := fnExactWalkRow.holds Try.pinned (OpenSpec.ofChange fnExactWalkSpec)

/-- ITS FALSE NEIGHBOUR: 'it returns false'. Refute it at one input. -/
def fnExactWalkWrong : ChangeSpec := { name := "fnExactWalk", fn := fun _ => fun
  | [d1, d2, d3] => { results := [.lit (.bool false)], args := [d1, d2, d3] }
  | _ => none }
def FnExactWalkWrongFalsely : Prop := fnExactWalkRow.holds Try.pinned (OpenSpec.ofChange fnExactWalkWrong)

/-- 'laws.FnExactObjectAt': WHATEVER THE INPUT: true; the input reads as it did. -/
def fnExactObjectAtSpec : ChangeSpec := { name := "fnExactObjectAt", fn := fun _ => fun
  | [d1, d2] => { results := [.lit (.bool true)], args := [d1, d2] }
  | _ => none }
def fnExactObjectAtRow : OpenClaim := { program := "ytdogibjgogcdkai", sum := "45fa1dfcff1c601ab3b25014fff11d033213a0b3b03257af42954c3135bdb30d", func := "loop.example/g00337/laws.FnExactObjectAt", spec := "fnExactObjectAt", apart := false }
def FnExactObjectAtSaid : Prop := fnExactObjectAtRow.holds Try.pinned (OpenSpec.ofChange fnExactObjectAtSpec)

/-- ITS FALSE NEIGHBOUR: 'it returns false'. Refute it at one input. -/
def fnExactObjectAtWrong : ChangeSpec := { name := "fnExactObjectAt", fn := fun _ => fun
  | [d1, d2] => { results := [.lit (.bool false)], args := [d1, d2] }
  | _ => none }
def FnExactObjectAtWrongFalsely : Prop := fnExactObjectAtRow.holds Try.pinned (OpenSpec.ofChange fnExactObjectAtWrong)

/-- 'laws.FnExactPutObject': WHATEVER THE INPUT: true; the input reads as it did. -/
def fnExactPutObjectSpec : ChangeSpec := { name := "fnExactPutObject", fn := fun _ => fun
  | [d1, d2, d3, d4] => { results := [.lit (.bool true)], args := [d1, d2, d3, d4] }
  | _ => none }
def fnExactPutObjectRow : OpenClaim := { program := "ytdogibjgogcdkai", sum := "45fa1dfcff1c601ab3b25014fff11d033213a0b3b03257af42954c3135bdb30d", func := "loop.example/g00337/laws.FnExactPutObject", spec := "fnExactPutObject", unfollowed := true, recurses := true, apart := false }
def FnExactPutObjectSaid : Prop := fnExactPutObjectRow.holds Try.pinned (OpenSpec.ofChange fnExactPutObjectSpec)

/-- ITS FALSE NEIGHBOUR: 'it returns false'. Refute it at one input. -/
def fnExactPutObjectWrong : ChangeSpec := { name := "fnExactPutObject", fn := fun _ => fun
  | [d1, d2, d3, d4] => { results := [.lit (.bool false)], args := [d1, d2, d3, d4] }
  | _ => none }
def FnExactPutObjectWrongFalsely : Prop := fnExactPutObjectRow.holds Try.pinned (OpenSpec.ofChange fnExactPutObjectWrong)

/- THE SECOND FORM. 'bulk': how many values and letters a reading holds, each counted each time it is reached (what is shared counts as often as it is met; a slice's spare places count too). A statement '..UptoSaid' is the law's where the arguments, and the package variables that the reading takes, are together of bulk at most 1048576: NARROWER than '..Said'. Prove '..Said' where nothing that the law and all that it calls make is longer than what came in: it says more and counts as full. Else prove '..UptoSaid'. A law counts once. -/
mutual
def uptoBulk {H : Type} : DataW H → Nat
  | .lit (.string bytes) => bytes.length + 1
  | .lit _ => 1
  | .nil => 1
  | .ptr d => uptoBulk d + 1
  | .slice elems spare => uptoBulkAll elems + uptoBulkAll spare + 1
  | .agg parts => uptoBulkAll parts + 1
  | .iface _ d => uptoBulk d + 1
  | .map entries => uptoBulkEntries entries + 1
  | .held _ => 1
def uptoBulkAll {H : Type} : List (DataW H) → Nat
  | [] => 0
  | d :: r => uptoBulk d + uptoBulkAll r
def uptoBulkEntries {H : Type} : List (Lit × DataW H) → Nat
  | [] => 0
  | x :: r => uptoBulkEntry x + uptoBulkEntries r
def uptoBulkEntry {H : Type} : Lit × DataW H → Nat
  | (.string bytes, d) => bytes.length + uptoBulk d + 1
  | (_, d) => uptoBulk d + 1
 end
def uptoSmall : (H : Type) → List (DataW H) → Bool := fun _ ds => decide (uptoBulkAll ds ≤ 1048576)
def OpenSpec.upto (s : _root_.Go.ChangeSpec) : _root_.Go.OpenSpec := { _root_.Go.OpenSpec.ofChange s with cond := some uptoSmall }

/-- 'laws.FnExactFilled', WHERE WHAT IT READS IS OF BULK AT MOST 1048576: true; the input reads as it did. -/
def fnExactFilledUptoRow : OpenClaim := { program := "ytdogibjgogcdkai", sum := "45fa1dfcff1c601ab3b25014fff11d033213a0b3b03257af42954c3135bdb30d", func := "loop.example/g00337/laws.FnExactFilled", spec := "fnExactFilled", apart := false, narrowed := true }
def FnExactFilledUptoSaid : Prop := fnExactFilledUptoRow.holds Try.pinned (OpenSpec.upto fnExactFilledSpec)

/-- 'laws.FnExactMoved', WHERE WHAT IT READS IS OF BULK AT MOST 1048576: true; the input reads as it did. -/
def fnExactMovedUptoRow : OpenClaim := { program := "ytdogibjgogcdkai", sum := "45fa1dfcff1c601ab3b25014fff11d033213a0b3b03257af42954c3135bdb30d", func := "loop.example/g00337/laws.FnExactMoved", spec := "fnExactMoved", apart := false, narrowed := true }
def FnExactMovedUptoSaid : Prop := fnExactMovedUptoRow.holds Try.pinned (OpenSpec.upto fnExactMovedSpec)

/-- 'laws.FnExactChunkAt', WHERE WHAT IT READS IS OF BULK AT MOST 1048576: true; the input reads as it did. -/
def fnExactChunkAtUptoRow : OpenClaim := { program := "ytdogibjgogcdkai", sum := "45fa1dfcff1c601ab3b25014fff11d033213a0b3b03257af42954c3135bdb30d", func := "loop.example/g00337/laws.FnExactChunkAt", spec := "fnExactChunkAt", apart := false, narrowed := true }
def FnExactChunkAtUptoSaid : Prop := fnExactChunkAtUptoRow.holds Try.pinned (OpenSpec.upto fnExactChunkAtSpec)

/-- 'laws.FnExactWalk', WHERE WHAT IT READS IS OF BULK AT MOST 1048576: true; the input reads as it did. -/
def fnExactWalkUptoRow : OpenClaim := { program := "ytdogibjgogcdkai", sum := "45fa1dfcff1c601ab3b25014fff11d033213a0b3b03257af42954c3135bdb30d", func := "loop.example/g00337/laws.FnExactWalk", spec := "fnExactWalk", unfollowed := true, recurses := true, apart := false, narrowed := true }
def FnExactWalkUptoSaid : Prop := fnExactWalkUptoRow.holds Try.pinned (OpenSpec.upto fnExactWalkSpec)

/-- 'laws.FnExactObjectAt', WHERE WHAT IT READS IS OF BULK AT MOST 1048576: true; the input reads as it did. -/
def fnExactObjectAtUptoRow : OpenClaim := { program := "ytdogibjgogcdkai", sum := "45fa1dfcff1c601ab3b25014fff11d033213a0b3b03257af42954c3135bdb30d", func := "loop.example/g00337/laws.FnExactObjectAt", spec := "fnExactObjectAt", apart := false, narrowed := true }
def FnExactObjectAtUptoSaid : Prop := fnExactObjectAtUptoRow.holds Try.pinned (OpenSpec.upto fnExactObjectAtSpec)

/-- 'laws.FnExactPutObject', WHERE WHAT IT READS IS OF BULK AT MOST 1048576: true; the input reads as it did. -/
def fnExactPutObjectUptoRow : OpenClaim := { program := "ytdogibjgogcdkai", sum := "45fa1dfcff1c601ab3b25014fff11d033213a0b3b03257af42954c3135bdb30d", func := "loop.example/g00337/laws.FnExactPutObject", spec := "fnExactPutObject", unfollowed := true, recurses := true, apart := false, narrowed := true }
def FnExactPutObjectUptoSaid : Prop := fnExactPutObjectUptoRow.holds Try.pinned (OpenSpec.upto fnExactPutObjectSpec)

end Rows
end Go.Proofs.Ytdogibjgogcdkai
