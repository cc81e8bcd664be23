/-
  SizeOf, of the program and of the specification.
  Made from the template Size.
-/
import Derived.Test.YtmhbdmmpmagbkaaGreatHeadOk
namespace Go.Proofs.YtmhbdmmpmagbkaaGreat.heads
open Go.RowKit

/-- How many words an object takes. -/
def sz (n : Int) : Int := if inR 0 20 n = true then n + 1 + (n + 1) % 2 else 0

theorem sizeOf_any (n : Int) (w : World) :
    Calls Tryz.prog 143 #[.int .i64 n] w fun e w' => e = .returned (.int .i64 (sz n)) ∧ w' = w := by
  have ev : ∀ (k : Int) (w : World), 0 ≤ k → k ≤ 100 → Calls Tryz.prog 162 #[.int .i64 k] w fun e w' => e = .returned (.int .i64 (k + k % 2)) ∧ w' = w := by
    intro k w k0 k1
    go_enter Tryz.func162, Tryz.ntmps162
    go_wp2
    go_ret
    exact ⟨rfl, rfl⟩
  cases i : inR 0 20 n
  · go_enter Tryz.func143, Tryz.ntmps143
    go_wp2_with (go_at_call 161; refine (slotsInRange_any _ _).mono ?_; rintro e w' ⟨rfl, rfl⟩)
    go_ret
    exact ⟨by simp [sz, i], rfl⟩
  · obtain ⟨b1, b2⟩ := inR_true i
    go_enter Tryz.func143, Tryz.ntmps143
    go_wp2_with (first | (go_at_call 161; refine (slotsInRange_any _ _).mono ?_; rintro e w' ⟨rfl, rfl⟩) | (go_at_call 162; refine (ev _ _ (by omega) (by omega)).mono ?_; rintro e w' ⟨rfl, rfl⟩))
    go_ret
    exact ⟨by simp [sz, i], rfl⟩

end Go.Proofs.YtmhbdmmpmagbkaaGreat.heads
