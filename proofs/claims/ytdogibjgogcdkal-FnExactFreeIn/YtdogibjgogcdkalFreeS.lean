/-
  Chapter 8 as the specification has it: a free chunk written, what is freed.
  Made from the template FreeS.
-/
import Derived.Test.YtdogibjgogcdkalFreeD
import Derived.Test.YtdogibjgogcdkalObjS2
import Derived.Test.YtdogibjgogcdkalPutS2
namespace Go.Proofs.Ytdogibjgogcdkal.walks
open Go.RowKit rows heads words
set_option maxRecDepth 100000

end Go.Proofs.Ytdogibjgogcdkal.walks
