/-
  Chapter 5 as the specification has it: ClassesOk.
  Made from the template ClassS.
-/
import Derived.Test.YtmhbdmmpmagbkaaGreatClassD
namespace Go.Proofs.YtmhbdmmpmagbkaaGreat.ents
open Go.RowKit rows heads

end Go.Proofs.YtmhbdmmpmagbkaaGreat.ents
