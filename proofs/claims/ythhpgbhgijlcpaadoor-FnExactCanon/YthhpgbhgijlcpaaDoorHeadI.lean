/-
  What the program asks of an object's head.
  Made from the template HeadI.
-/
import Derived.Test.YthhpgbhgijlcpaaDoorM3
import Derived.Below
namespace Go.Proofs.YthhpgbhgijlcpaaDoor.heads
open Go.RowKit
set_option maxRecDepth 100000

/-- Is this the head of an object with slots of its own? -/
def fok (s f c g : Int) (p m : Bool) : Bool := decide (f ≤ 2) && hok s f c g p m

set_option maxHeartbeats 1000000 in
theorem objectHeadOk_any (s f c g : Int) (p m : Bool) (w : World) :
    Calls Tryd.prog 48 #[hv s f c g p m] w fun e w' => e = .returned (.bool (fok s f c g p m)) ∧ Below w.heap.size w w' := by
  have B0 : Below w.heap.size w (w.alloc (hb s f c g p m)) := (Below.refl _ w).alloc (Nat.le_refl _) _
  have B1 : Below w.heap.size w ((w.alloc (hb s f c g p m)).alloc (hb s f c g p m)) := ((Below.refl _ w).alloc (Nat.le_refl _) _).alloc (by simp) _
  have HO := headOk_any s f c g p m
  have HB0 : Hid _ := B0
  have HB1 : Hid _ := B1
  clear B0 B1
  unfold fok
  generalize hok s f c g p m = o at *
  go_enter Tryd.func48, Tryd.ntmps48
  by_cases hf : f ≤ 2
  · go_wp2_with (go_at_call 58; refine (HO _).mono ?_; rintro e w1 ⟨rfl, rfl⟩)
    go_ret
    exact ⟨by simp [hf], HB1⟩
  · clear HO
    go_wp2
    go_ret
    exact ⟨by simp; intro h; omega, HB0⟩
end Go.Proofs.YthhpgbhgijlcpaaDoor.heads
