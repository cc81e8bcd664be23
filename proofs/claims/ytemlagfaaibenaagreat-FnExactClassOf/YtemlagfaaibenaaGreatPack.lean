/-
  Packed, of the program and of the specification.
  Made from the template Pack.
-/
import Derived.Test.YtemlagfaaibenaaGreatHeadOk
namespace Go.Proofs.YtemlagfaaibenaaGreat.heads
open Go.RowKit

/-- What a head is packed as. -/
def pk (s f c h : Int) (p m : Bool) : Int := s + f * 64 + c * 512 + h * 65536 + (if p then 4294967296 else 0) + (if m then 8589934592 else 0)
/-- .. and -1 where it is no head. -/
def pkd (s f c h : Int) (p m : Bool) : Int := if hok s f c h p m = true then pk s f c h p m else -1

theorem packed_any (s f c h : Int) (p m : Bool) (w : World) :
    Calls Tryz.prog 80 #[hv s f c h p m] w fun e w' => e = .returned (.int .i64 (pkd s f c h p m)) ∧ w' = (w.alloc (hb s f c h p m)).alloc (hb s f c h p m) := by
  cases hk : hok s f c h p m
  · go_enter Tryz.func80, Tryz.ntmps80
    go_wp2_with (go_at_call 110; refine (headOk_any _ _ _ _ _ _ _).mono ?_; rintro e w' ⟨rfl, rfl⟩)
    go_ret
    exact ⟨by simp [pkd, hk], rfl⟩
  · obtain ⟨b1, b2, b3, b4, b5, b6, b7, b8⟩ := hok_true hk
    cases p <;> cases m
    all_goals
      go_enter Tryz.func80, Tryz.ntmps80
      go_wp2_with (go_at_call 110; refine (headOk_any _ _ _ _ _ _ _).mono ?_; rintro e w' ⟨rfl, rfl⟩)
      go_ret
      exact ⟨by simp [pkd, pk, hk], rfl⟩
theorem l2Packed_ok (s f c h : Int) (p m : Bool) (w : World) (hk : hok s f c h p m = true) :
    Calls Tryz.prog 92 #[hv s f c h p m] w fun e w' => e = .returned (.int .i64 (pk s f c h p m)) ∧ w' = w.alloc (hb s f c h p m) := by
  obtain ⟨b1, b2, b3, b4, b5, b6, b7, b8⟩ := hok_true hk
  clear hk
  cases p <;> cases m
  all_goals
    go_enter Tryz.func92, Tryz.ntmps92
    go_wp2
    go_ret
    exact ⟨by simp [pk]; omega, rfl⟩

end Go.Proofs.YtemlagfaaibenaaGreat.heads
