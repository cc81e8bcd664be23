/-
  Packed, of the program and of the specification.
  Made from the template Pack.
-/
import Derived.Test.YtdogibjgogcdkahHeadOk
namespace Go.Proofs.Ytdogibjgogcdkah.heads
open Go.RowKit

/-- What a head is packed as. -/
def pk (s f c h : Int) (p m : Bool) : Int := s + f * 64 + c * 512 + h * 65536 + (if p then 4294967296 else 0) + (if m then 8589934592 else 0)
/-- .. and -1 where it is no head. -/
def pkd (s f c h : Int) (p m : Bool) : Int := if hok s f c h p m = true then pk s f c h p m else -1

theorem packed_any (s f c h : Int) (p m : Bool) (w : World) :
    Calls Try.prog 11 #[hv s f c h p m] w fun e w' => e = .returned (.int .i64 (pkd s f c h p m)) ∧ w' = (w.alloc (hb s f c h p m)).alloc (hb s f c h p m) := by
  cases hk : hok s f c h p m
  · go_enter Try.func11, Try.ntmps11
    go_wp2_with (go_at_call 29; refine (headOk_any _ _ _ _ _ _ _).mono ?_; rintro e w' ⟨rfl, rfl⟩)
    go_ret
    exact ⟨by simp [pkd, hk], rfl⟩
  · obtain ⟨b1, b2, b3, b4, b5, b6, b7, b8⟩ := hok_true hk
    cases p <;> cases m
    all_goals
      go_enter Try.func11, Try.ntmps11
      go_wp2_with (go_at_call 29; refine (headOk_any _ _ _ _ _ _ _).mono ?_; rintro e w' ⟨rfl, rfl⟩)
      go_ret
      exact ⟨by simp [pkd, pk, hk], rfl⟩
theorem l2Packed_ok (s f c h : Int) (p m : Bool) (w : World) (hk : hok s f c h p m = true) :
    Calls Try.prog 28 #[hv s f c h p m] w fun e w' => e = .returned (.int .i64 (pk s f c h p m)) ∧ w' = w.alloc (hb s f c h p m) := by
  obtain ⟨b1, b2, b3, b4, b5, b6, b7, b8⟩ := hok_true hk
  clear hk
  cases p <;> cases m
  all_goals
    go_enter Try.func28, Try.ntmps28
    go_wp2
    go_ret
    exact ⟨by simp [pk]; omega, rfl⟩

theorem sPacked_no (s f c h : Int) (p m : Bool) (w : World) (hk : hok s f c h p m = false) :
    Calls Try.prog 9 #[hv s f c h p m] w fun e w' => e = .returned (.int .i64 (pkd s f c h p m)) ∧ w' = (w.alloc (hb s f c h p m)).alloc (hb s f c h p m) := by
  go_enter Try.func9, Try.ntmps9
  go_wp2_with (go_at_call 27; refine (sHeadOk_any _ _ _ _ _ _ _).mono ?_; rintro e w' ⟨rfl, rfl⟩)
  go_ret
  exact ⟨by simp [pkd, hk], rfl⟩

theorem sPacked_yes (s f c h : Int) (p m : Bool) (w : World) (hk : hok s f c h p m = true) :
    Calls Try.prog 9 #[hv s f c h p m] w fun e w' => e = .returned (.int .i64 (pkd s f c h p m)) ∧ w' = ((w.alloc (hb s f c h p m)).alloc (hb s f c h p m)).alloc (hb s f c h p m) := by
  go_enter Try.func9, Try.ntmps9
  go_wp2_with (first | (go_at_call 27; refine (sHeadOk_any _ _ _ _ _ _ _).mono ?_; rintro e w' ⟨rfl, rfl⟩) | (go_at_call 28; refine (l2Packed_ok _ _ _ _ _ _ _ hk).mono ?_; rintro e w' ⟨rfl, rfl⟩))
  go_ret
  exact ⟨by simp [pkd, hk], rfl⟩

theorem sPacked_any (s f c h : Int) (p m : Bool) (w : World) :
    Calls Try.prog 9 #[hv s f c h p m] w fun e w' => e = .returned (.int .i64 (pkd s f c h p m)) ∧ Below w.heap.size w w' := by
  cases hk : hok s f c h p m
  · refine (sPacked_no s f c h p m w hk).mono ?_
    rintro e w' ⟨rfl, rfl⟩
    exact ⟨rfl, ((Below.refl _ _).alloc (Nat.le_refl _) _).alloc (by simp) _⟩
  · refine (sPacked_yes s f c h p m w hk).mono ?_
    rintro e w' ⟨rfl, rfl⟩
    exact ⟨rfl, (((Below.refl _ _).alloc (Nat.le_refl _) _).alloc (by simp) _).alloc (by simp; omega) _⟩
end Go.Proofs.Ytdogibjgogcdkah.heads
