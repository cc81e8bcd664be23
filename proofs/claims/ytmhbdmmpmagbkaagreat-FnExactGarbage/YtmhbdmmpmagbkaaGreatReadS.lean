/-
  Chapter 3 as the specification has it: ReadAt.
  Made from the template ReadS.
-/
import Derived.Test.YtmhbdmmpmagbkaaGreatRowsS
namespace Go.Proofs.YtmhbdmmpmagbkaaGreat.rows
open Go.RowKit

/-- Is there such a place? -/
def atOk (xs : List Int) (i : Int) : Bool := decide (0 ≤ i ∧ i < xs.length)
theorem atOk_true {xs : List Int} {i : Int} (h : atOk xs i = true) : 0 ≤ i ∧ i < xs.length := by simpa [atOk] using h

def okAt (xs : List Int) (i : Int) : Bool := rowOk xs && atOk xs i
def readAt (xs : List Int) (i : Int) : Int := if okAt xs i = true then xs.getD i.toNat 0 else 0
def writeAt (xs : List Int) (i x : Int) : List Int := if okAt xs i = true then xs.set i.toNat x else if rowOk xs = true then xs else []

end Go.Proofs.YtmhbdmmpmagbkaaGreat.rows
