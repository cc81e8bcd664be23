/-
  Chapter 6 as the specification has it: a right root, a right new object.
  Made from the template GraphS2.
-/
import Derived.Test.YtdogibjgogcdkabGraphD
namespace Go.Proofs.Ytdogibjgogcdkab.gr
open Go.RowKit rows heads
set_option maxRecDepth 100000

theorem l6Root_any (x : Int) (w : World) :
    Calls Try.prog 140 #[.int .i64 x] w fun e w' => e = .returned (.bool (inR 0 5 x)) ∧ w' = w := by
  go_enter Try.func140, Try.ntmps140
  go_wp2_with (go_at_call 93; refine (l1In_any _ _ _ _).mono ?_; rintro e w3 ⟨rfl, hw3⟩; rw [hw3]; clear hw3 w3)
  go_ret
  exact ⟨rfl, rfl⟩

/-- Is a new object of this kind right? -/
def newOk (cls fmt slots : Int) : Bool := inR 0 2 fmt && hok slots fmt cls 0 false false
theorem l6New_any (cls fmt slots : Int) (w : World) :
    Calls Try.prog 141 #[.int .i64 cls, .int .i64 fmt, .int .i64 slots] w fun e w' => e = .returned (.bool (newOk cls fmt slots)) ∧ Below w.heap.size w w' := by
  have H := sHeadOk_any slots fmt cls 0 false false w
  have B : Below w.heap.size w (w.alloc (heads.hb slots fmt cls 0 false false)) := (Below.refl _ w).alloc (Nat.le_refl _) _
  have HB : Hid _ := B
  clear B
  cases d : inR 0 2 fmt
  · have e : newOk cls fmt slots = false := by unfold newOk; rw [d]; rfl
    rw [e]
    clear H
    go_enter Try.func141, Try.ntmps141
    go_wp2_with (go_at_call 93; refine (l1In_any _ _ _ _).mono ?_; rintro e w3 ⟨rfl, hw3⟩; rw [hw3]; clear hw3 w3)
    go_ret
    exact ⟨rfl, Below.refl _ _⟩
  · have e : newOk cls fmt slots = hok slots fmt cls 0 false false := by unfold newOk; rw [d]; rfl
    rw [e]
    generalize hok slots fmt cls 0 false false = y at *
    clear e
    go_enter Try.func141, Try.ntmps141
    go_wp2_with (first
      | (go_at_call 93; refine (l1In_any _ _ _ _).mono ?_; rintro e w3 ⟨rfl, hw3⟩; rw [hw3]; clear hw3 w3)
      | (go_at_call 71; refine H.mono ?_; clear H; rintro e w3 ⟨rfl, hw3⟩; rw [hw3]; clear hw3 w3))
    go_ret
    exact ⟨rfl, HB⟩
end Go.Proofs.Ytdogibjgogcdkab.gr
