/-
  What the program asks of a row, and a piece cut off one.
  Made from the template RowsICut.
-/
import Derived.Test.YtlfnjdgkpocanaaRowsS
namespace Go.Proofs.Ytlfnjdgkpocanaa.rows
open Go.RowKit
set_option maxRecDepth 100000

theorem isRow_any {w : World} {v : Value} {xs : List Int} (h : IntsAt w v xs) :
    Calls Try.prog 45 #[v] w fun e w' => e = .returned (.bool (rowOk xs)) ∧ w' = w := by
  obtain ⟨a, cap, rfl, hlc, hcm, _, hc⟩ := h
  clear hc
  by_cases h1 : xs.length ≤ 1000
  · have h2 : (xs.length : Int) ≤ 1000 := by omega
    go_enter Try.func45, Try.ntmps45
    go_wp2
    go_ret
    exact ⟨by simp [rowOk, h1], rfl⟩
  · have h2 : ¬ (xs.length : Int) ≤ 1000 := by omega
    go_enter Try.func45, Try.ntmps45
    go_wp2
    go_ret
    exact ⟨by simp [rowOk]; omega, rfl⟩

/-- Is there a piece of n places from f on? -/
def cutOk (len : Nat) (f n : Int) : Bool := decide (0 ≤ f ∧ 0 ≤ n ∧ f + n ≤ len)
theorem cutOk_true {len : Nat} {f n : Int} (h : cutOk len f n = true) : 0 ≤ f ∧ 0 ≤ n ∧ f + n ≤ len := by simpa [cutOk] using h
theorem cutOk_false {len : Nat} {f n : Int} (h : cutOk len f n = false) : ¬ (0 ≤ f ∧ 0 ≤ n ∧ f + n ≤ len) := by simpa [cutOk] using h
/-- The piece of n places from f on. -/
def piece (a : Option Addr) (f n : Nat) : Value := .slice (if n = 0 then a else a.map (·.add f)) n n

theorem cut_no {w : World} {a : Option Addr} {len cap : Nat} (hlc : len ≤ cap) (hcm : cap ≤ maxLen) (f n : Int) (hf : I64 f) (hn : I64 n) (d : cutOk len f n = false) :
    Calls Try.prog 44 #[.slice a len cap, .int .i64 f, .int .i64 n] w fun e w' => e = .returned (.tuple #[.slice none 0 0, .bool false]) ∧ w' = w := by
  unfold I64 at hf hn
  unfold maxLen at hcm
  have d' := cutOk_false d
  clear d
  by_cases h1 : f < 0
  · go_enter Try.func44, Try.ntmps44
    go_wp2
    go_ret2
    exact ⟨rfl, rfl⟩
  · by_cases h2 : n < 0
    · go_enter Try.func44, Try.ntmps44
      go_wp2
      go_ret2
      exact ⟨rfl, rfl⟩
    · have h3 : n > (len : Int) - f := by omega
      go_enter Try.func44, Try.ntmps44
      go_wp2
      go_ret2
      exact ⟨rfl, rfl⟩

theorem cut_yes {w : World} {a : Option Addr} {len cap : Nat} (hlc : len ≤ cap) (hcm : cap ≤ maxLen) (F N : Nat) (fn : F + N ≤ len) :
    Calls Try.prog 44 #[.slice a len cap, .int .i64 F, .int .i64 N] w fun e w' => e = .returned (.tuple #[piece a F N, .bool true]) ∧ w' = w := by
  unfold maxLen at hcm
  have h1 : ¬ (F : Int) < 0 := by omega
  have h2 : ¬ (N : Int) < 0 := by omega
  have h3 : ¬ (N : Int) > (len : Int) - F := by omega
  go_enter Try.func44, Try.ntmps44
  go_wp2
  all_goals go_ret2
  · exact ⟨by simp [piece, *], rfl⟩
  · exact ⟨by simp [piece, *], rfl⟩

theorem piece_at (b off k n : Nat) (hn : 0 < n) : piece (some ⟨b, off, none⟩) k n = .slice (some ⟨b, off + k, none⟩) n n := by
  have hn' : n ≠ 0 := by omega
  by_cases h0 : k = 0
  · subst h0; simp [piece, Addr.add]
  · simp [piece, Addr.add, h0, hn']
theorem piece_none (a : Option Addr) (k : Nat) : piece a k 0 = .slice a 0 0 := by simp [piece]

end Go.Proofs.Ytlfnjdgkpocanaa.rows
