/-
  Chapter 3 as the specification has it: ReadAt.
  Made from the template ReadS.
-/
import Derived.Test.YtdogibjgogcdkahRowsS
namespace Go.Proofs.Ytdogibjgogcdkah.rows
open Go.RowKit

/-- Is there such a place? -/
def atOk (xs : List Int) (i : Int) : Bool := decide (0 ≤ i ∧ i < xs.length)
theorem atOk_true {xs : List Int} {i : Int} (h : atOk xs i = true) : 0 ≤ i ∧ i < xs.length := by simpa [atOk] using h

theorem l3At_any {w : World} {v : Value} {xs : List Int} (h : IntsAt w v xs) (i : Int) :
    Calls Try.prog 36 #[v, .int .i64 i] w fun e w' => e = .returned (.bool (atOk xs i)) ∧ w' = w := by
  obtain ⟨a, cap, rfl, hlc, hcm, _, hc⟩ := h
  clear hc
  by_cases h1 : 0 ≤ i
  · by_cases h2 : i < (xs.length : Int)
    all_goals
      go_enter Try.func36, Try.ntmps36
      go_wp2
      go_ret
      exact ⟨by simp [atOk]; omega, rfl⟩
  · go_enter Try.func36, Try.ntmps36
    go_wp2
    go_ret
    exact ⟨by simp [atOk]; omega, rfl⟩

def okAt (xs : List Int) (i : Int) : Bool := rowOk xs && atOk xs i
def readAt (xs : List Int) (i : Int) : Int := if okAt xs i = true then xs.getD i.toNat 0 else 0
def writeAt (xs : List Int) (i x : Int) : List Int := if okAt xs i = true then xs.set i.toNat x else if rowOk xs = true then xs else []

theorem sReadAt_any {w : World} {v : Value} {xs : List Int} (h : IntsAt w v xs) (i : Int) :
    Calls Try.prog 19 #[v, .int .i64 i] w fun e w' => e = .returned (.tuple #[.int .i64 (readAt xs i), .bool (okAt xs i)]) ∧ w' = w := by
  have R : ∀ w', IntsAt w' v xs → _ := fun w' h' => l3Row_any (w := w') h'
  have A : ∀ w', IntsAt w' v xs → _ := fun w' h' => l3At_any (w := w') h' i
  have h' := h
  obtain ⟨a, cap, rfl, hlc, hcm, _, hc⟩ := h
  cases d1 : rowOk xs
  · have eo : okAt xs i = false := by simp [okAt, d1]
    have er : readAt xs i = 0 := by simp [readAt, eo]
    rw [er, eo]
    clear hc er
    go_enter Try.func19, Try.ntmps19
    go_wp2_with (first | (go_at_call 35; refine (R _ h').mono ?_; rintro e w' ⟨rfl, rfl⟩) | (go_at_call 36; refine (A _ h').mono ?_; rintro e w' ⟨rfl, rfl⟩))
    go_ret2
    exact ⟨rfl, rfl⟩
  · cases d2 : atOk xs i
    · have eo : okAt xs i = false := by simp [okAt, d2]
      have er : readAt xs i = 0 := by simp [readAt, eo]
      rw [er, eo]
      clear hc er
      go_enter Try.func19, Try.ntmps19
      go_wp2_with (first | (go_at_call 35; refine (R _ h').mono ?_; rintro e w' ⟨rfl, rfl⟩) | (go_at_call 36; refine (A _ h').mono ?_; rintro e w' ⟨rfl, rfl⟩))
      go_ret2
      exact ⟨rfl, rfl⟩
    · have eo : okAt xs i = true := by simp [okAt, d1, d2]
      obtain ⟨p1, p2⟩ := atOk_true d2
      obtain ⟨k, rfl⟩ := Int.eq_ofNat_of_zero_le p1
      obtain ⟨b, off, rfl, hb, hcc⟩ := hc (by omega)
      have c0 := hcc k (by omega)
      have er : readAt xs k = xs.getD k 0 := by simp [readAt, eo]
      rw [er, eo]
      clear hc hcc er
      generalize xs.getD k 0 = x at *
      go_enter Try.func19, Try.ntmps19
      go_wp2_with (first | (go_at_call 35; refine (R _ h').mono ?_; rintro e w' ⟨rfl, rfl⟩) | (go_at_call 36; refine (A _ h').mono ?_; rintro e w' ⟨rfl, rfl⟩))
      go_ret2
      exact ⟨rfl, rfl⟩
end Go.Proofs.Ytdogibjgogcdkah.rows
