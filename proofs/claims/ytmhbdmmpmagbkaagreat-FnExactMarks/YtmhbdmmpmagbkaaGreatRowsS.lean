/-
  Chapter 3 as the specification has it: is it a row?
  Made from the template RowsS.
-/
import Derived.Test.YtmhbdmmpmagbkaaGreatInts
import Derived.Laws.AppendOwnNone
namespace Go.Proofs.YtmhbdmmpmagbkaaGreat.rows
open Go.RowKit

/-- Is it a row? -/
def rowOk (xs : List Int) : Bool := decide (xs.length ≤ 1000)
theorem rowOk_true {xs : List Int} (h : rowOk xs = true) : xs.length ≤ 1000 := by simpa [rowOk] using h
theorem rowOk_false {xs : List Int} (h : rowOk xs = false) : 1000 < xs.length := by simpa [rowOk] using h

end Go.Proofs.YtmhbdmmpmagbkaaGreat.rows
