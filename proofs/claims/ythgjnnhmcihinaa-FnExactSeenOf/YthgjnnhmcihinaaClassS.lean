/-
  Chapter 5 as the specification has it: ClassesOk.
  Made from the template ClassS.
-/
import Derived.Test.YthgjnnhmcihinaaClassD
namespace Go.Proofs.Ythgjnnhmcihinaa.ents
open Go.RowKit rows heads

end Go.Proofs.Ythgjnnhmcihinaa.ents
