/-
  Chapter 6: a root copied onto another, in the graph that a pointer leads to; by the specification and by the program.
  Made from the template GraphEd1.
-/
import Derived.Test.YtkiognecebgaiaaGreatDoorM10
import Derived.Test.YtkiognecebgaiaaGreatDoorGraphIAt
import Derived.Deep.RegionLaw
namespace Go.Proofs.YtkiognecebgaiaaGreatDoor.gr
open Go.RowKit rows heads
set_option maxRecDepth 100000
end Go.Proofs.YtkiognecebgaiaaGreatDoor.gr
