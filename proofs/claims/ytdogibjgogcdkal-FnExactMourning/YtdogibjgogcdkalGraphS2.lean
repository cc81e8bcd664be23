/-
  Chapter 6 as the specification has it: a right root, a right new object.
  Made from the template GraphS2.
-/
import Derived.Test.YtdogibjgogcdkalGraphD
namespace Go.Proofs.Ytdogibjgogcdkal.gr
open Go.RowKit rows heads
set_option maxRecDepth 100000

/-- Is a new object of this kind right? -/
def newOk (cls fmt slots : Int) : Bool := inR 0 2 fmt && hok slots fmt cls 0 false false
end Go.Proofs.Ytdogibjgogcdkal.gr
