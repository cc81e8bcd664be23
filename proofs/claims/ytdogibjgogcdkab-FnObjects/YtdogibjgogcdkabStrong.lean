/-
  StrongFrom, of the program and of the specification.
  Made from the template Strong.
-/
import Derived.Test.YtdogibjgogcdkabHeadOk
namespace Go.Proofs.Ytdogibjgogcdkab.heads
open Go.RowKit
set_option maxRecDepth 100000

/-- The first slot that keeps what it leads to. -/
def sf (s f : Int) : Int := if f = 0 then 0 else s

end Go.Proofs.Ytdogibjgogcdkab.heads
