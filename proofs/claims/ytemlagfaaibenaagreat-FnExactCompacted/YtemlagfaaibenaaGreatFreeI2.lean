/-
  Chapter 8 as the program has it: Freed.
  Made from the template FreeI2.
-/
import Derived.Test.YtemlagfaaibenaaGreatM6
import Derived.Test.YtemlagfaaibenaaGreatWalkIChunk
import Derived.Test.YtemlagfaaibenaaGreatM2
namespace Go.Proofs.YtemlagfaaibenaaGreat.walks
open Go.RowKit rows heads words
set_option maxRecDepth 100000
end Go.Proofs.YtemlagfaaibenaaGreat.walks
