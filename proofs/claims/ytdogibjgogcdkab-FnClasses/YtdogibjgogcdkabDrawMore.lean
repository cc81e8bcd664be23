/-
  A drawn yes or no; a drawn number between two.
  Made from the template DrawMore.
-/
import Derived.Test.YtdogibjgogcdkabDrawKit
namespace Go.Proofs.Ytdogibjgogcdkab.draw
open Go.RowKit

theorem once_any {W w : World} {bk : Nat} {a : Option Addr} {len cap : Nat} {zs : List Int} (n : Int) (hr : IsRow .u8 W a len cap zs) (hW : Below W.heap.size W w) (hbk : W.heap.size ≤ bk) (hc : Cur w bk a len cap) :
    Calls Try.prog 54 #[.pointer (some ⟨bk, 0, none⟩), .int .i64 n] w fun e w' => ∃ b : Bool, e = .returned (.bool b) ∧ w.grownBy w' (some bk) ∧ Cur w' bk a len cap := by
  go_enter Try.func54, Try.ntmps54
  go_wp2_with fail
  refine (below_any n hr hW hbk hc).mono ?_
  rintro e w1 ⟨x, hx0, _, hx1, rfl, hg1, hc1⟩
  go_wp2
  go_ret
  exact ⟨_, rfl, hg1, hc1⟩

theorem from_any {W w : World} {bk : Nat} {a : Option Addr} {len cap : Nat} {zs : List Int} (lo hi : Int) (h1 : -1000 ≤ lo) (h2 : lo ≤ hi) (h3 : hi ≤ 1000) (hr : IsRow .u8 W a len cap zs) (hW : Below W.heap.size W w) (hbk : W.heap.size ≤ bk) (hc : Cur w bk a len cap) :
    Calls Try.prog 89 #[.pointer (some ⟨bk, 0, none⟩), .int .i64 lo, .int .i64 hi] w fun e w' => ∃ x : Int, lo ≤ x ∧ x ≤ hi ∧ e = .returned (.int .i64 x) ∧ w.grownBy w' (some bk) ∧ Cur w' bk a len cap := by
  go_enter Try.func89, Try.ntmps89
  go_wp2_with fail
  refine (below_any _ hr hW hbk hc).mono ?_
  rintro e w1 ⟨x, hx0, _, hx1, rfl, hg1, hc1⟩
  have hx2 := hx1 (by omega)
  clear hx1
  go_wp2
  go_ret
  exact ⟨_, by omega, by omega, rfl, hg1, hc1⟩

end Go.Proofs.Ytdogibjgogcdkab.draw
