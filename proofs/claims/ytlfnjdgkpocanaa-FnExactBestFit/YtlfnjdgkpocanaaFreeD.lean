/-
  Chapter 8 as lists: a free chunk written, what is freed, the places of free chunks.
  Made from the template FreeD.
-/
import Derived.Test.YtlfnjdgkpocanaaWalkD
import Derived.Test.YtlfnjdgkpocanaaHeadMem
namespace Go.Proofs.Ytlfnjdgkpocanaa.walks
open Go.RowKit rows heads words

/-- The row with a free chunk of n words there. -/
def freeR (xs : List Int) (k n : Nat) : List Int := put xs k (pk 0 6 0 0 false false) [(n : Int)] 1 n
theorem freeR_set {xs : List Int} {k n : Nat} (h : k + n ≤ xs.length) (h2 : 2 ≤ n) : ((fill xs k n 0).set k (pk 0 6 0 0 false false)).set (k + 1) (n : Int) = freeR xs k n := by
  rw [put_zero (ys := [(n : Int)]) h (by omega)]
  have := put_set (xs := xs) (ys := [(n : Int)]) (k := k) (j := 0) (n := n) (hd := pk 0 6 0 0 false false) h (by simp) (by simp; omega)
  unfold freeR
  simpa using this
theorem freeR_length {xs : List Int} {k n : Nat} (h : k + n ≤ xs.length) (h2 : 2 ≤ n) : (freeR xs k n).length = xs.length := put_length h (by simp) (by omega)

/-- What is freed there. -/
def freed (xs : List Int) (i : Int) : List Int := if objOk xs i = true then freeR xs i.toNat (chunk xs i.toNat).toNat else if rowOk xs = true then xs else []
theorem freed_length (xs : List Int) (i : Int) (hl : xs.length ≤ 1048576) : (freed xs i).length ≤ 1048576 := by
  unfold freed
  split
  · rename_i h
    simp only [objOk, Bool.and_eq_true, decide_eq_true_eq] at h
    have h1 := h.1
    unfold chunkAt at h1
    split at h1
    · have := chunk_bounds xs i.toNat
      rw [freeR_length (by omega) (by omega)]
      exact hl
    · exact absurd rfl h1
  · split
    · exact hl
    · simp

/-- Is the chunk there free? -/
def isFreeAt (xs : List Int) (i : Int) : Bool := uF (xs.getD i.toNat 0) == 6
/-- The places of free chunks. -/
def freeIn (xs : List Int) (f t : Int) : List Int := (walked xs f t).filter (isFreeAt xs)
theorem freeIn_length (xs : List Int) (f t : Int) : (freeIn xs f t).length ≤ 1000 ∧ AllI (freeIn xs f t) := by
  have := walked_length xs f t
  exact ⟨Nat.le_trans (List.length_filter_le _ _) this.1, fun x hx => this.2 x (List.mem_filter.1 hx).1⟩
/-- Each place of a walk is a place of the row where a chunk is. -/
theorem walkL_mem (xs : List Int) (t : Nat) (_ht : t ≤ xs.length) : ∀ (n k : Nat) (l : List Int), walkL xs t n k = some l → ∀ x ∈ l, ∃ j : Nat, x = j ∧ k ≤ j ∧ j < t ∧ chunk xs j ≠ 0 := by
  intro n
  induction n with
  | zero =>
    intro k l h
    unfold walkL at h
    split at h
    · cases h
    · cases h; simp
  | succ n ih =>
    intro k l h
    by_cases h1 : k < t
    · by_cases hb : chunk xs k = 0 ∨ (k : Int) + chunk xs k > t
      · rw [walkL_bad _ _ _ _ h1 hb] at h; cases h
      · rw [walkL_step _ _ _ _ h1 hb] at h
        obtain ⟨l', hl', rfl⟩ := Option.map_eq_some_iff.1 h
        intro x hx
        rcases List.mem_cons.1 hx with rfl | hx
        · exact ⟨k, rfl, Nat.le_refl _, h1, fun e => hb (.inl e)⟩
        · obtain ⟨j, a, b, c, d⟩ := ih _ _ hl' x hx
          exact ⟨j, a, by omega, c, d⟩
    · rw [walkL_end _ _ _ _ h1] at h
      cases h; simp
theorem walked_mem {xs : List Int} {f t : Int} {x : Int} (h : x ∈ walked xs f t) : ∃ j : Nat, x = j ∧ j < xs.length ∧ rowOk xs = true ∧ chunk xs j ≠ 0 := by
  unfold walked walkR at h
  split at h
  · rename_i hr
    simp only [rangeOk, Bool.and_eq_true, decide_eq_true_eq] at hr
    cases e : walkO xs f.toNat t.toNat with
    | none => rw [e] at h; simp at h
    | some l =>
      rw [e] at h
      obtain ⟨j, a, _, c, d⟩ := walkL_mem xs t.toNat (by omega) _ _ _ e x (by simpa using h)
      exact ⟨j, a, by omega, hr.1, d⟩
  · simp at h
end Go.Proofs.Ytlfnjdgkpocanaa.walks
