/-
  Chapter 6 as the program has it: the object to which a root leads, and GHash.
  Made from the template GraphIAt.
-/
import Derived.Test.YtkiognecebgaiaaGreatDoorM10
namespace Go.Proofs.YtkiognecebgaiaaGreatDoor.gr
open Go.RowKit rows heads
set_option maxRecDepth 100000
end Go.Proofs.YtkiognecebgaiaaGreatDoor.gr
