/-
  Chapter 6 as the specification has it: a right root, a right new object.
  Made from the template GraphS2.
-/
import Derived.Test.YthldaifnlnbpgaaGraphD
namespace Go.Proofs.Ythldaifnlnbpgaa.gr
open Go.RowKit rows heads
set_option maxRecDepth 100000

theorem l6Root_any (x : Int) (w : World) :
    Calls Try.prog 34 #[.int .i64 x] w fun e w' => e = .returned (.bool (inR 0 5 x)) ∧ w' = w := by
  go_enter Try.func34, Try.ntmps34
  go_wp2_with (go_at_call 31; refine (l1In_any _ _ _ _).mono ?_; rintro e w3 ⟨rfl, hw3⟩; rw [hw3]; clear hw3 w3)
  go_ret
  exact ⟨rfl, rfl⟩

/-- Is a new object of this kind right? -/
def newOk (cls fmt slots : Int) : Bool := inR 0 2 fmt && hok slots fmt cls 0 false false
end Go.Proofs.Ythldaifnlnbpgaa.gr
