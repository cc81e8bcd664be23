/-
  The functions of chapter 1 once more, each by one contract for every argument.
  Made from the template WordsAll.
-/
import Derived.Test.YtemlagfaaibenaaGreatWordOk
namespace Go.Proofs.YtemlagfaaibenaaGreat.words
open Go.RowKit

def iv (n : Int) : Int := if isI n then n / 4 else 0
def av (n : Int) : Int := if isA n then n / 4 - 1 else 0
def oi (n : Int) : Int := if -100000 ≤ n ∧ n ≤ 100000 then n * 4 + 1 else 2
def oa (a : Int) : Int := if 0 ≤ a ∧ a ≤ 999 then (a + 1) * 4 else 2

theorem oi_bd (n : Int) : -9223372036854775808 ≤ oi n ∧ oi n ≤ 9223372036854775807 := by
  unfold oi; split <;> omega
theorem oa_bd (n : Int) : -9223372036854775808 ≤ oa n ∧ oa n ≤ 9223372036854775807 := by
  unfold oa; split <;> omega

theorem addrOf_any (n : Int) (w : World) (b1 : -9223372036854775808 ≤ n) (b2 : n ≤ 9223372036854775807) :
    Calls Tryz.prog 122 #[.int .i64 n] w fun e w' => e = .returned (.tuple #[.int .i64 (av n), .bool (isA n)]) ∧ w' = w := by
  cases hi : isA n
  · have e : av n = 0 := by simp [av, hi]
    rw [e]; exact addrOf_no n w b1 b2 hi
  · have e : av n = n / 4 - 1 := by simp [av, hi]
    rw [e]; exact addrOf_yes n w b1 b2 hi
theorem sIntOf_any (n : Int) (w : World) :
    Calls Tryz.prog 134 #[.int .i64 n] w fun e w' => e = .returned (.tuple #[.int .i64 (iv n), .bool (isI n)]) ∧ w' = w := by
  cases hi : isI n
  · have e : iv n = 0 := by simp [iv, hi]
    rw [e]; exact sIntOf_no n w hi
  · have e : iv n = n / 4 := by simp [iv, hi]
    rw [e]; exact sIntOf_yes n w hi
theorem sAddrOf_any (n : Int) (w : World) :
    Calls Tryz.prog 44 #[.int .i64 n] w fun e w' => e = .returned (.tuple #[.int .i64 (av n), .bool (isA n)]) ∧ w' = w := by
  cases hi : isA n
  · have e : av n = 0 := by simp [av, hi]
    rw [e]; exact sAddrOf_no n w hi
  · have e : av n = n / 4 - 1 := by simp [av, hi]
    rw [e]; exact sAddrOf_yes n w hi
theorem ofAddr_any (n : Int) (w : World) :
    Calls Tryz.prog 73 #[.int .i64 n] w fun e w' => e = .returned (.int .i64 (oa n)) ∧ w' = w := by
  by_cases h : 0 ≤ n ∧ n ≤ 999
  · rw [show oa n = (n + 1) * 4 from if_pos h]; exact ofAddr_yes n h.1 h.2 w
  · rw [show oa n = 2 from if_neg h]; exact ofAddr_no n (by omega) w
theorem oi_iv {n : Int} (h : isI n = true) : oi (iv n) = n := by
  have h1 := isI_true h
  rw [show iv n = n / 4 from if_pos h, show oi (n / 4) = n / 4 * 4 + 1 from if_pos (by omega)]
  omega
theorem oa_av {n : Int} (h : isA n = true) : oa (av n) = n := by
  have h1 := isA_true h
  rw [show av n = n / 4 - 1 from if_pos h, show oa (n / 4 - 1) = (n / 4 - 1 + 1) * 4 from if_pos (by omega)]
  omega
theorem isI_oi_yes {n : Int} (h1 : -100000 ≤ n) (h2 : n ≤ 100000) : isI (oi n) = true ∧ iv (oi n) = n := by
  have e : oi n = n * 4 + 1 := if_pos ⟨h1, h2⟩
  have hi : isI (n * 4 + 1) = true := by simp [isI]; omega
  rw [e]
  exact ⟨hi, by rw [show iv (n * 4 + 1) = (n * 4 + 1) / 4 from if_pos hi]; omega⟩
theorem isI_oi_no {n : Int} (h : ¬ (-100000 ≤ n ∧ n ≤ 100000)) : isI (oi n) = false := by
  rw [show oi n = 2 from if_neg h]; rfl
theorem isA_oa_yes {n : Int} (h1 : 0 ≤ n) (h2 : n ≤ 999) : isA (oa n) = true ∧ av (oa n) = n := by
  have e : oa n = (n + 1) * 4 := if_pos ⟨h1, h2⟩
  have hi : isA ((n + 1) * 4) = true := by simp [isA]; omega
  rw [e]
  exact ⟨hi, by rw [show av ((n + 1) * 4) = (n + 1) * 4 / 4 - 1 from if_pos hi]; omega⟩
theorem isA_oa_no {n : Int} (h : ¬ (0 ≤ n ∧ n ≤ 999)) : isA (oa n) = false := by
  rw [show oa n = 2 from if_neg h]; rfl
end Go.Proofs.YtemlagfaaibenaaGreat.words
