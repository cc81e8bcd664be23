/-
  Chapter 8 as the program has it: Freed.
  Made from the template FreeI2.
-/
import Derived.Test.YthfhjgkpabkeaaaGreatM6
import Derived.Test.YthfhjgkpabkeaaaGreatWalkIChunk
import Derived.Test.YthfhjgkpabkeaaaGreatM2
namespace Go.Proofs.YthfhjgkpabkeaaaGreat.walks
open Go.RowKit rows heads words
set_option maxRecDepth 100000
end Go.Proofs.YthfhjgkpabkeaaaGreat.walks
