/-
  Chapter 8 as the program has it: Freed.
  Made from the template FreeI2.
-/
import Derived.Test.YtfajnnibkcnkaalFreeI1
import Derived.Test.YtfajnnibkcnkaalWalkIChunk
import Derived.Test.YtfajnnibkcnkaalRowsICopy
namespace Go.Proofs.Ytfajnnibkcnkaal.walks
open Go.RowKit rows heads words
set_option maxRecDepth 100000

end Go.Proofs.Ytfajnnibkcnkaal.walks
