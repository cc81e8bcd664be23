/-
  WordOk, the program's and the specification's: one contract each.
  Made from the template WordOk.
-/
import Derived.Test.YtlfnjdgkpocanaaWords
import Derived.Below
namespace Go.Proofs.Ytlfnjdgkpocanaa.words
open Go.RowKit

def isW (n : Int) : Bool := n == 2 || isI n || isA n

end Go.Proofs.Ytlfnjdgkpocanaa.words
