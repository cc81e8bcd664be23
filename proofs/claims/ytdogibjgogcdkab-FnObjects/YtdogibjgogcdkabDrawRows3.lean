/-
  The draws of chapter 3, at their end: the arguments of Filled and of Moved.
  Made from the template DrawRows3.
-/
import Derived.Test.YtdogibjgogcdkabDrawRows2
namespace Go.Proofs.Ytdogibjgogcdkab.draw
open Go.RowKit rows
set_option maxRecDepth 100000

theorem l1Min_any (a b : Int) (w : World) :
    Calls Try.prog 56 #[.int .i64 a, .int .i64 b] w fun e w' => e = .returned (.int .i64 (min a b)) ∧ w' = w := by
  by_cases h : a < b
  all_goals
    go_enter Try.func56, Try.ntmps56
    go_wp2
    go_ret
    exact ⟨by first | (rw [Int.min_eq_left (by omega)]; rfl) | (rw [Int.min_eq_right (by omega)]; rfl), rfl⟩
end Go.Proofs.Ytdogibjgogcdkab.draw
