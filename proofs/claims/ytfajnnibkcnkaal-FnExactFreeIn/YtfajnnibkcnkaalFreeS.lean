/-
  Chapter 8 as the specification has it: a free chunk written, what is freed.
  Made from the template FreeS.
-/
import Derived.Test.YtfajnnibkcnkaalFreeD
import Derived.Test.YtfajnnibkcnkaalObjS2
import Derived.Test.YtfajnnibkcnkaalPutS2
namespace Go.Proofs.Ytfajnnibkcnkaal.walks
open Go.RowKit rows heads words
set_option maxRecDepth 100000

end Go.Proofs.Ytfajnnibkcnkaal.walks
