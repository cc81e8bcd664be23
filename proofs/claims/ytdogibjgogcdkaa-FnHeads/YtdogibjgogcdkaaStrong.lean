/-
  StrongFrom, of the program and of the specification.
  Made from the template Strong.
-/
import Derived.Test.YtdogibjgogcdkaaHeadOk
namespace Go.Proofs.Ytdogibjgogcdkaa.heads
open Go.RowKit
set_option maxRecDepth 100000

/-- The first slot that keeps what it leads to. -/
def sf (s f : Int) : Int := if f = 0 then 0 else s

theorem strongFrom_any (s f c h : Int) (p m : Bool) (w : World) :
    Calls Try.prog 33 #[hv s f c h p m] w fun e w' => e = .returned (.int .i64 (sf s f)) ∧ w' = w.alloc (hb s f c h p m) := by
  by_cases h0 : f = 0
  all_goals
    go_enter Try.func33, Try.ntmps33
    go_wp2
    go_ret
    exact ⟨by simp [sf, h0], by first | rfl | simp [hb, h0]⟩

theorem sStrongFrom_any (s f c h : Int) (p m : Bool) (w : World) :
    Calls Try.prog 34 #[hv s f c h p m] w fun e w' => e = .returned (.int .i64 (sf s f)) ∧ w' = w.alloc (hb s f c h p m) := by
  by_cases h0 : f = 0
  all_goals
    go_enter Try.func34, Try.ntmps34
    go_wp2
    go_ret
    exact ⟨by simp [sf, h0], by first | rfl | simp [hb, h0]⟩
end Go.Proofs.Ytdogibjgogcdkaa.heads
