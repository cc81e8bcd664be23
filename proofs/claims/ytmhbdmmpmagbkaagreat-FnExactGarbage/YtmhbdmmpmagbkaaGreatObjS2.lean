/-
  Chapter 4 as the specification has it: ObjectAt, at every row and place.
  Made from the template ObjS2.
-/
import Derived.Test.YtmhbdmmpmagbkaaGreatObjS
namespace Go.Proofs.YtmhbdmmpmagbkaaGreat.walks
open Go.RowKit rows heads words
set_option maxRecDepth 100000

theorem chunk_obj {xs : List Int} {k : Nat} (h : chunk xs k ≠ 0) (h6 : ¬ uF (xs.getD k 0) = 6) : chunk xs k = sz (uS (xs.getD k 0)) ∧ (k : Int) + sz (uS (xs.getD k 0)) ≤ xs.length := by
  unfold chunk at h ⊢
  split at h
  · rename_i h1
    rw [if_pos h1]
    rw [if_neg h6]
    split at h
    · rename_i h2
      rw [if_pos h2]
      exact ⟨rfl, h2.1⟩
    · exact absurd rfl h
  · exact absurd rfl h

end Go.Proofs.YtmhbdmmpmagbkaaGreat.walks
