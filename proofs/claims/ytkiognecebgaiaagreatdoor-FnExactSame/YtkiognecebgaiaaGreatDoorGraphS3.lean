/-
  Chapter 6 as the specification has it: the hash of the object to which a root leads.
  Made from the template GraphS3.
-/
import Derived.Test.YtkiognecebgaiaaGreatDoorM6
import Derived.Test.YtkiognecebgaiaaGreatDoorGraphS
namespace Go.Proofs.YtkiognecebgaiaaGreatDoor.gr
open Go.RowKit rows heads
set_option maxRecDepth 100000
abbrev rootAt (G:Gr) (x:Int):Rf:=G.roots.getD x.toNat refD
end Go.Proofs.YtkiognecebgaiaaGreatDoor.gr
