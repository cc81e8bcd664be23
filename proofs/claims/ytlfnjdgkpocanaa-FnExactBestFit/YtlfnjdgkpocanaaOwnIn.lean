/-
  Who owns which block: what is owned stays where another's block is written.
  Made from the template OwnIn.
-/
import Derived.Test.YtlfnjdgkpocanaaInts
namespace Go.Proofs.Ytlfnjdgkpocanaa.rows
open Go.RowKit
set_option maxRecDepth 100000

/-- The blocks of v lie from lo on and below hi. -/
def In (lo hi : Nat) (v : Value) : Prop := ∀ k, v.ownBlock = some k → lo ≤ k ∧ k < hi

theorem own_in {w : World} {base : Nat} {v : Value} {xs : List Int} (h : Own w base v xs) : In base w.heap.size v := fun k e => World.ownsRow.lt h k e
theorem own_grown {w w' : World} {base lo hi g : Nat} {v : Value} {xs : List Int} (h : Own w base v xs) (hi' : In lo hi v) (hg : w.grownBy w' (some g)) (hne : g < lo ∨ hi ≤ g) : Own w' base v xs := by
  refine World.ownsRow.kept h hg ?_
  cases e : v.ownBlock with
  | none => exact .inl rfl
  | some k =>
    have := hi' k e
    refine .inr (fun e' => ?_)
    injection e' with e'
    omega
theorem own_drewN {w : World} {base n : Nat} {v : Value} {xs : List Int} (h : Own w base v xs) : Own (w.drewN n) base v xs := h
theorem below_drewN {B n : Nat} {w w' : World} (h : Below B w w') : Below B w (w'.drewN n) := ⟨h.os, h.tape, h.output, h.size, h.block⟩
theorem intsAt_drewN {w : World} {n : Nat} {v : Value} {xs : List Int} (h : IntsAt w v xs) : IntsAt (w.drewN n) v xs := h
theorem below_own {B lo hi : Nat} {w w1 w2 : World} {v : Value} (h : Below B w w1) (hg : w1.grownBy w2 v.ownBlock) (hi' : In lo hi v) (hB : B ≤ lo) (hs : B ≤ w1.heap.size) : Below B w w2 :=
  h.grown hg hs (fun k e => Nat.le_trans hB (hi' k e).1)
theorem own_grown' {w w' : World} {base lo hi lo' hi' : Nat} {v u : Value} {xs : List Int} (h : Own w base v xs) (i1 : In lo hi v) (hg : w.grownBy w' u.ownBlock) (i2 : In lo' hi' u) (hne : hi' ≤ lo ∨ hi ≤ lo') : Own w' base v xs := by
  refine World.ownsRow.kept h hg ?_
  cases e : v.ownBlock with
  | none => exact .inl rfl
  | some k =>
    have h1 := i1 k e
    refine .inr (fun e' => ?_)
    have h2 := i2 k e'.symm
    omega

theorem full_in {b : Nat} {n cap : Nat} : In b (b + 1) (.slice (some ⟨b, 0, none⟩) n cap) := fun k e => by
  injection e with e
  subst e
  exact ⟨Nat.le_refl _, Nat.lt_succ_self _⟩

end Go.Proofs.Ytlfnjdgkpocanaa.rows
