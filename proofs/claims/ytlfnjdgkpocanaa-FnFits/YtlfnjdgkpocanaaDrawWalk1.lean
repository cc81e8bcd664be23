/-
  The draws of chapter 4: places; the arguments of ChunkAt, Walk and ObjectAt.
  Made from the template DrawWalk1.
-/
import Derived.Test.YtlfnjdgkpocanaaDrawL4
namespace Go.Proofs.Ytlfnjdgkpocanaa.draw
open Go.RowKit rows heads words walks
set_option maxRecDepth 100000

end Go.Proofs.Ytlfnjdgkpocanaa.draw
