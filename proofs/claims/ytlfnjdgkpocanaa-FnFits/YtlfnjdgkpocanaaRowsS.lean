/-
  Chapter 3 as the specification has it: is it a row?
  Made from the template RowsS.
-/
import Derived.Test.YtlfnjdgkpocanaaInts
import Derived.Laws.AppendOwnNone
namespace Go.Proofs.Ytlfnjdgkpocanaa.rows
open Go.RowKit

/-- Is it a row? -/
def rowOk (xs : List Int) : Bool := decide (xs.length ≤ 1000)
theorem rowOk_true {xs : List Int} (h : rowOk xs = true) : xs.length ≤ 1000 := by simpa [rowOk] using h
theorem rowOk_false {xs : List Int} (h : rowOk xs = false) : 1000 < xs.length := by simpa [rowOk] using h

theorem l3Row_any {w : World} {v : Value} {xs : List Int} (h : IntsAt w v xs) :
    Calls Try.prog 51 #[v] w fun e w' => e = .returned (.bool (rowOk xs)) ∧ w' = w := by
  obtain ⟨a, cap, rfl, hlc, hcm, _, hc⟩ := h
  clear hc
  by_cases h1 : xs.length ≤ 1000
  · have h2 : (xs.length : Int) ≤ 1000 := by omega
    go_enter Try.func51, Try.ntmps51
    go_wp2
    go_ret
    exact ⟨by simp [rowOk, h1], rfl⟩
  · have h2 : ¬ (xs.length : Int) ≤ 1000 := by omega
    go_enter Try.func51, Try.ntmps51
    go_wp2
    go_ret
    exact ⟨by simp [rowOk]; omega, rfl⟩
end Go.Proofs.Ytlfnjdgkpocanaa.rows
