/-
  A head of the laws made a head of the program, field by field: the three blocks that it makes.
  Made from the template ToHead.
-/
import Derived.Test.YtdogibjgogcdkaiHeadOk
namespace Go.Proofs.Ytdogibjgogcdkai.heads
open Go.RowKit

/-- The block in which a head of the laws lies. -/
abbrev lb (s f c h : Int) (p m : Bool) : Obj := .cells #[.int .i64 s, .int .i64 f, .int .i64 c, .int .i64 h, .bool p, .bool m] 38

theorem toHead_any (s f c h : Int) (p m : Bool) (w : World) :
    Calls Try.prog 25 #[hv s f c h p m] w fun e w' => e = .returned (hv s f c h p m) ∧ w' = ((w.alloc (lb s f c h p m)).alloc (hb s f c h p m)).alloc (hb s f c h p m) := by
  go_enter Try.func25, Try.ntmps25
  go_wp2
  exact bodyPost_ret (v := hv s f c h p m) (by simp [results, Try.results25, go_sem, hv]) rfl ⟨rfl, rfl⟩
end Go.Proofs.Ytdogibjgogcdkai.heads
