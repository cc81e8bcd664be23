/-
  Chapter 3 as the specification has it: ReadAt.
  Made from the template ReadS.
-/
import Derived.Test.YtdogibjgogcdkabRowsS
namespace Go.Proofs.Ytdogibjgogcdkab.rows
open Go.RowKit

/-- Is there such a place? -/
def atOk (xs : List Int) (i : Int) : Bool := decide (0 ≤ i ∧ i < xs.length)
theorem atOk_true {xs : List Int} {i : Int} (h : atOk xs i = true) : 0 ≤ i ∧ i < xs.length := by simpa [atOk] using h

theorem l3At_any {w : World} {v : Value} {xs : List Int} (h : IntsAt w v xs) (i : Int) :
    Calls Try.prog 72 #[v, .int .i64 i] w fun e w' => e = .returned (.bool (atOk xs i)) ∧ w' = w := by
  obtain ⟨a, cap, rfl, hlc, hcm, _, hc⟩ := h
  clear hc
  by_cases h1 : 0 ≤ i
  · by_cases h2 : i < (xs.length : Int)
    all_goals
      go_enter Try.func72, Try.ntmps72
      go_wp2
      go_ret
      exact ⟨by simp [atOk]; omega, rfl⟩
  · go_enter Try.func72, Try.ntmps72
    go_wp2
    go_ret
    exact ⟨by simp [atOk]; omega, rfl⟩

def okAt (xs : List Int) (i : Int) : Bool := rowOk xs && atOk xs i
def readAt (xs : List Int) (i : Int) : Int := if okAt xs i = true then xs.getD i.toNat 0 else 0
def writeAt (xs : List Int) (i x : Int) : List Int := if okAt xs i = true then xs.set i.toNat x else if rowOk xs = true then xs else []

end Go.Proofs.Ytdogibjgogcdkab.rows
