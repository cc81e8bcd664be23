/-
  Chapter 3 as the specification has it: Filled.
  Made from the template FilledS.
-/
import Derived.Test.YtmhbdmmpmagbkaaGreatRowsS
import Derived.Test.YtmhbdmmpmagbkaaGreatCopied
namespace Go.Proofs.YtmhbdmmpmagbkaaGreat.rows
open Go.RowKit

/-- The k numbers from f on are x. -/
def fill (xs : List Int) (f k : Nat) (x : Int) : List Int := xs.take f ++ List.replicate k x ++ xs.drop (f + k)
theorem fill_zero (xs : List Int) (f : Nat) (x : Int) : fill xs f 0 x = xs := by simp [fill]
theorem fill_length {xs : List Int} {f k : Nat} {x : Int} (h : f + k ≤ xs.length) : (fill xs f k x).length = xs.length := by simp [fill]; omega
theorem fill_set {xs : List Int} {f k : Nat} {x : Int} (h : f + k < xs.length) : (fill xs f k x).set (f + k) x = fill xs f (k + 1) x := by
  apply List.ext_getElem?
  intro i
  simp only [fill, List.getElem?_set, List.getElem?_append, List.length_take, List.getElem?_take, List.getElem?_replicate, List.length_append, List.length_replicate, List.getElem?_drop, List.length_drop]
  grind

def fillOk (xs : List Int) (f t : Int) : Bool := rowOk xs && decide (0 ≤ f ∧ f ≤ t ∧ t ≤ xs.length)
def filled (xs : List Int) (f t x : Int) : List Int := if fillOk xs f t = true then fill xs f.toNat (t - f).toNat x else if rowOk xs = true then xs else []

end Go.Proofs.YtmhbdmmpmagbkaaGreat.rows
