/-
  Chapter 5 as the program has it: Draw; a right name.
  Made from the template ClassIDraw.
-/
import Derived.Test.YtdogibjgogcdkabClassD
namespace Go.Proofs.Ytdogibjgogcdkab.ents
open Go.RowKit rows heads

theorem implDraw (w : World) (s : Int) (_hs : I64 s) :
    Calls Try.prog 28 #[.int .i64 s] w fun e w' => e = .returned (.int .i64 (drawH s)) ∧ Below w.heap.size w w' := by
  cases i : inR 0 65535 s
  · have e : drawH s = -1 := by unfold drawH; rw [i]; rfl
    rw [e]
    go_enter Try.func28, Try.ntmps28
    go_wp2_with (go_at_call 94; refine (hashInRange_any _ _).mono ?_; rintro e w' ⟨rfl, rfl⟩)
    go_ret
    exact ⟨rfl, Below.refl _ _⟩
  · obtain ⟨b1, b2⟩ := inR_true i
    have e : drawH s = (25173 * s + 13849) % 65536 := by unfold drawH; rw [i]; rfl
    rw [e]
    go_enter Try.func28, Try.ntmps28
    go_wp2_with (go_at_call 94; refine (hashInRange_any _ _).mono ?_; rintro e w' ⟨rfl, rfl⟩)
    go_ret
    exact ⟨rfl, Below.refl _ _⟩

theorem nameOk_any (s : ByteArray) (hs : s.size ≤ 9223372036854775807) (w : World) :
    Calls Try.prog 86 #[.string s] w fun e w' => e = .returned (.bool (inR 1 20 (s.size : Int))) ∧ w' = w := by
  cases i : inR 1 20 (s.size : Int)
  · rcases inR_false i with h | h
    · have h1 : ¬ (1 : Int) ≤ (s.size : Int) := by omega
      go_enter Try.func86, Try.ntmps86
      go_wp2
      go_ret
      exact ⟨rfl, rfl⟩
    · have h1 : (1 : Int) ≤ (s.size : Int) := by omega
      have h2 : ¬ (s.size : Int) ≤ 20 := by omega
      go_enter Try.func86, Try.ntmps86
      go_wp2
      go_ret
      exact ⟨rfl, rfl⟩
  · obtain ⟨h1, h2⟩ := inR_true i
    go_enter Try.func86, Try.ntmps86
    go_wp2
    go_ret
    exact ⟨rfl, rfl⟩
end Go.Proofs.Ytdogibjgogcdkab.ents
