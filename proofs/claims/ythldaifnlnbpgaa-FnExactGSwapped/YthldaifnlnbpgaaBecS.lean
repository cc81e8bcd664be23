/-
  Chapter 18 as the specification has it: l18Ref.
  Made from the template BecS.
-/
import Derived.Test.YthldaifnlnbpgaaBecM
namespace Go.Proofs.Ythldaifnlnbpgaa.gr
open Go.RowKit rows heads
set_option maxRecDepth 100000
set_option linter.unusedVariables false

theorem two_cells (w : World) (e u : Rf) : ((w.alloc (rb e)).alloc (rb u)).cell? ⟨w.heap.size + 1, 0, none⟩ = some (.int .i64 u.1) ∧ ((w.alloc (rb e)).alloc (rb u)).cell? ⟨w.heap.size + 1, 1, none⟩ = some (.int .i64 u.2) := by
  have h : ((w.alloc (rb e)).alloc (rb u)).heap[w.heap.size + 1]? = some (rb u) := by
    have := heap_alloc_new (w.alloc (rb e)) (rb u)
    rwa [show (w.alloc (rb e)).heap.size = w.heap.size + 1 by simp] at this
  exact ⟨by simp only [World.cell?, h]; rfl, by simp only [World.cell?, h]; rfl⟩
theorem two_below (w : World) (e u : Rf) : Below w.heap.size w ((w.alloc (rb e)).alloc (rb u)) := ((Below.refl _ w).alloc (Nat.le_refl _) _).alloc (by simp) _
theorem res_rf {fn : Func} {tmps : Array Value} {X : World} {j b : Nat} {x y : Int} (hf : fn.results = #[.cell j 47]) (h2 : tmps[j]? = some (.pointer (some ⟨b, 0, none⟩))) (hX : X.cell? ⟨b, 0, none⟩ = some (.int .i64 x) ∧ X.cell? ⟨b, 1, none⟩ = some (.int .i64 y)) :
    (results fn tmps).run Try.prog X = .ok (rv (x, y)) X := by
  obtain ⟨k0, k1⟩ := hX
  simp [results, hf, h2, go_sem, k0, k1]

set_option maxHeartbeats 4000000 in
theorem l18Ref_any {w : World} (r : Rf) (x y : Int) (both : Bool) :
    Calls Try.prog 35 #[rv r, .int .i64 x, .int .i64 y, .bool both] w fun e w' => e = .returned (rv (bRef x y both r)) ∧ Below w.heap.size w w' := by
  obtain ⟨k, n⟩ := r
  unfold bRef
  by_cases h1 : k = 2
  · subst h1
    by_cases h2 : n = x
    · subst h2
      rw [if_pos (by simp)]
      go_enter Try.func35, Try.ntmps35
      go_wp2
      exact bodyPost_ret (res_rf rfl rfl (two_cells w (2, y) (2, y))) rfl ⟨rfl, two_below w (2, y) (2, y)⟩
    · have n2 : (n == x) = false := by simpa using h2
      rw [if_neg (by simp [n2])]
      by_cases h3 : n = y
      · subst h3
        cases both
        · rw [if_neg (by simp)]
          go_enter Try.func35, Try.ntmps35
          go_wp2
          exact bodyPost_ret (res_rf rfl rfl (two_cells w (2, n) (2, n))) rfl ⟨rfl, two_below w (2, n) (2, n)⟩
        · rw [if_pos (by simp)]
          go_enter Try.func35, Try.ntmps35
          go_wp2
          exact bodyPost_ret (res_rf rfl rfl (two_cells w (2, x) (2, x))) rfl ⟨rfl, two_below w (2, x) (2, x)⟩
      · have n3 : (n == y) = false := by simpa using h3
        rw [if_neg (by simp [n3])]
        go_enter Try.func35, Try.ntmps35
        go_wp2
        exact bodyPost_ret (res_rf rfl rfl (two_cells w (2, n) (2, n))) rfl ⟨rfl, two_below w (2, n) (2, n)⟩
  · have k2 : (k == 2) = false := by simpa using h1
    rw [if_neg (by simp [k2]), if_neg (by simp [k2])]
    go_enter Try.func35, Try.ntmps35
    go_wp2
    exact bodyPost_ret (res_rf rfl rfl (two_cells w (k, n) (k, n))) rfl ⟨rfl, two_below w (k, n) (k, n)⟩
end Go.Proofs.Ythldaifnlnbpgaa.gr
