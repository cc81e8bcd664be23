/-
  Chapter 5 as the specification has it: ClassesOk.
  Made from the template ClassS.
-/
import Derived.Test.YtfbopegdldoocaaGreatClassD
namespace Go.Proofs.YtfbopegdldoocaaGreat.ents
open Go.RowKit rows heads

end Go.Proofs.YtfbopegdldoocaaGreat.ents
