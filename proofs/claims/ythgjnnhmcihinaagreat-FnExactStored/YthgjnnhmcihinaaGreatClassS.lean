/-
  Chapter 5 as the specification has it: ClassesOk.
  Made from the template ClassS.
-/
import Derived.Test.YthgjnnhmcihinaaGreatClassD
namespace Go.Proofs.YthgjnnhmcihinaaGreat.ents
open Go.RowKit rows heads

end Go.Proofs.YthgjnnhmcihinaaGreat.ents
