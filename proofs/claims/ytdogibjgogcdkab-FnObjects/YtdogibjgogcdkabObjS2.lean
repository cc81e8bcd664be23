/-
  Chapter 4 as the specification has it: ObjectAt, at every row and place.
  Made from the template ObjS2.
-/
import Derived.Test.YtdogibjgogcdkabObjS
namespace Go.Proofs.Ytdogibjgogcdkab.walks
open Go.RowKit rows heads words
set_option maxRecDepth 100000

theorem chunk_obj {xs : List Int} {k : Nat} (h : chunk xs k ≠ 0) (h6 : ¬ uF (xs.getD k 0) = 6) : chunk xs k = sz (uS (xs.getD k 0)) ∧ (k : Int) + sz (uS (xs.getD k 0)) ≤ xs.length := by
  unfold chunk at h ⊢
  split at h
  · rename_i h1
    rw [if_pos h1]
    rw [if_neg h6]
    split at h
    · rename_i h2
      rw [if_pos h2]
      exact ⟨rfl, h2.1⟩
    · exact absurd rfl h
  · exact absurd rfl h

theorem sObjectAt_any {w : World} {v : Value} {xs : List Int} (h : IntsAt w v xs) (hl : xs.length ≤ 1048576) (i : Int) :
    Calls Try.prog 15 #[v, .int .i64 i] w fun e w' => ∃ v', e = .returned (.tuple #[hw (oN xs i), v', .bool (objOk xs i)]) ∧ Own w' w.heap.size v' (objWords xs i) ∧ Below w.heap.size w w' := by
  by_cases e0 : chunkAt xs i = 0
  · have eo : objOk xs i = false := by simp [objOk, e0]
    have en : oN xs i = -1 := by simp [oN, eo]
    have ew : objWords xs i = [] := by simp [objWords, eo]
    rw [eo, en, ew, hw_none]
    exact objAt_none h hl i e0
  · obtain ⟨d, dk⟩ := chunkAt_word e0
    have d' := d
    simp only [okAt, Bool.and_eq_true] at d'
    obtain ⟨p1, p2⟩ := atOk_true d'.2
    obtain ⟨k, rfl⟩ := Int.eq_ofNat_of_zero_le p1
    have hk : k < xs.length := by omega
    by_cases e6 : uF (xs.getD k 0) = 6
    · have eo : objOk xs k = false := by
        unfold objOk
        rw [Int.toNat_natCast, decide_eq_false (show ¬ uF (xs.getD k 0) ≠ 6 from fun h => h e6)]
        simp
      have en : oN xs k = -1 := by simp [oN, eo]
      have ew : objWords xs k = [] := by simp [objWords, eo]
      rw [eo, en, ew, hw_none]
      exact objAt_free h hl k hk e0 e6
    · have eo : objOk xs k = true := by
        unfold objOk
        rw [Int.toNat_natCast, decide_eq_true (show uF (xs.getD k 0) ≠ 6 from e6), decide_eq_true (show chunkAt xs k ≠ 0 from e0)]
        rfl
      have en : oN xs k = xs.getD k 0 := by unfold oN; rw [if_pos eo, Int.toNat_natCast]
      have ew : objWords xs k = (xs.drop (k + 1)).take (cnt (xs.getD k 0)).toNat := by unfold objWords; rw [if_pos eo, Int.toNat_natCast]
      rw [eo, en, ew]
      have ec : chunkAt xs k = chunk xs k := by unfold chunkAt; rw [if_pos d, Int.toNat_natCast]
      rw [ec] at e0
      have hc := chunk_obj e0 e6
      obtain ⟨b1, b2⟩ := uS_bounds (xs.getD k 0)
      have hz := sz_bounds b1 b2
      have hcn : 0 ≤ cnt (xs.getD k 0) ∧ (k : Int) + 1 + cnt (xs.getD k 0) ≤ xs.length := by
        unfold cnt
        split <;> omega
      refine objAt_yes h hl k (cnt (xs.getD k 0)).toNat (by rw [ec]; exact e0) (uS (xs.getD k 0)) (uF (xs.getD k 0)) (uC (xs.getD k 0)) (uH (xs.getD k 0)) (uP (xs.getD k 0)) (uM (xs.getD k 0)) (fun w v hv => l4Head_any hv k hk) e6 ?_ (by omega)
      rw [Int.toNat_of_nonneg hcn.1]
      unfold cnt
      rw [if_neg e6]
end Go.Proofs.Ytdogibjgogcdkab.walks
