/-
  Chapter 8 as the program has it: Freed.
  Made from the template FreeI2.
-/
import Derived.Test.YtlfnjdgkpocanaaFreeI1
import Derived.Test.YtlfnjdgkpocanaaWalkIChunk
import Derived.Test.YtlfnjdgkpocanaaM4
namespace Go.Proofs.Ytlfnjdgkpocanaa.walks
open Go.RowKit rows heads words
set_option maxRecDepth 100000

end Go.Proofs.Ytlfnjdgkpocanaa.walks
