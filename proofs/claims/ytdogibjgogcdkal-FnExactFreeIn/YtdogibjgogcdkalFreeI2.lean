/-
  Chapter 8 as the program has it: Freed.
  Made from the template FreeI2.
-/
import Derived.Test.YtdogibjgogcdkalFreeI1
import Derived.Test.YtdogibjgogcdkalWalkIChunk
import Derived.Test.YtdogibjgogcdkalRowsICopy
namespace Go.Proofs.Ytdogibjgogcdkal.walks
open Go.RowKit rows heads words
set_option maxRecDepth 100000

end Go.Proofs.Ytdogibjgogcdkal.walks
