/-
  WordOk, the program's and the specification's: one contract each.
  Made from the template WordOk.
-/
import Derived.Test.YtfajnnibkcnkaamWords
import Derived.Below
namespace Go.Proofs.Ytfajnnibkcnkaam.words
open Go.RowKit

def isW (n : Int) : Bool := n == 2 || isI n || isA n

theorem sWordOk_any (n : Int) (w : World) :
    Calls Try.prog 86 #[.int .i64 n] w fun e w' => e = .returned (.bool (isW n)) ∧ w' = w := by
  cases hi : isI n
  · cases ha : isA n
    · cases h2 : (n == 2)
      all_goals
        go_enter Try.func86, Try.ntmps86
        go_wp2_with (first | (go_at_call 93; refine (sIntOf_no _ _ hi).mono ?_; rintro e w' ⟨rfl, rfl⟩) | (go_at_call 72; refine (sAddrOf_no _ _ ha).mono ?_; rintro e w' ⟨rfl, rfl⟩))
        all_goals go_ret
        all_goals exact ⟨by simp [isW, hi, ha, h2], rfl⟩
    · cases h2 : (n == 2)
      all_goals
        go_enter Try.func86, Try.ntmps86
        go_wp2_with (first | (go_at_call 93; refine (sIntOf_no _ _ hi).mono ?_; rintro e w' ⟨rfl, rfl⟩) | (go_at_call 72; refine (sAddrOf_yes _ _ ha).mono ?_; rintro e w' ⟨rfl, rfl⟩))
        all_goals go_ret
        all_goals exact ⟨by simp [isW, hi, ha, h2], rfl⟩
  · cases ha : isA n
    · cases h2 : (n == 2)
      all_goals
        go_enter Try.func86, Try.ntmps86
        go_wp2_with (first | (go_at_call 93; refine (sIntOf_yes _ _ hi).mono ?_; rintro e w' ⟨rfl, rfl⟩) | (go_at_call 72; refine (sAddrOf_no _ _ ha).mono ?_; rintro e w' ⟨rfl, rfl⟩))
        all_goals go_ret
        all_goals exact ⟨by simp [isW, hi, ha, h2], rfl⟩
    · have h1 := isI_true hi
      have h3 := isA_true ha
      omega

end Go.Proofs.Ytfajnnibkcnkaam.words
