/-
  Chapter 5 as the specification has it: ClassesOk.
  Made from the template ClassS.
-/
import Derived.Test.YtdogibjgogcdkamClassD
namespace Go.Proofs.Ytdogibjgogcdkam.ents
open Go.RowKit rows heads

end Go.Proofs.Ytdogibjgogcdkam.ents
