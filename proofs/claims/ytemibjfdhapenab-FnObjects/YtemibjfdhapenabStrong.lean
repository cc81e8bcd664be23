/-
  StrongFrom, of the program and of the specification.
  Made from the template Strong.
-/
import Derived.Test.YtemibjfdhapenabHeadOk
namespace Go.Proofs.Ytemibjfdhapenab.heads
open Go.RowKit

/-- The first slot that keeps what it leads to. -/
def sf (s f : Int) : Int := if f = 0 then 0 else s

end Go.Proofs.Ytemibjfdhapenab.heads
