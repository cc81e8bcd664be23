/-
  Chapter 6 as the program has it: a change made in a copy.
  Made from the template GraphIEdit2.
-/
import Derived.Test.YtdogibjgogcdkajGraphIEdit
import Derived.Test.YtdogibjgogcdkajGraphIGraphOk
import Derived.Shelf.Abstract
import Derived.Lib.Hide
namespace Go.Proofs.Ytdogibjgogcdkaj.gr
open Go.RowKit rows heads
set_option maxRecDepth 100000

theorem heap_push {w : World} {o x : Obj} {k : Nat} (h : w.heap[k]? = some x) : (w.alloc o).heap[k]? = some x := (Below.heap_alloc w o k (Array.getElem?_eq_some_iff.1 h).1).trans h
theorem res_gr2 {fn : Func} {tmps : Array Value} {X : World} {j i b : Nat} {a1 a2 a3 : Option Addr} {n1 c1 n2 c2 n3 c3 : Nat} {x y : Int} {bb : Bool} (hf : fn.results = #[.cell j 47, .tmp i]) (h2 : tmps[j]? = some (.pointer (some ⟨b, 0, none⟩))) (hi : tmps[i]? = some (.bool bb)) (hX : Five X b 47 (.slice a1 n1 c1) (.slice a2 n2 c2) (.slice a3 n3 c3) (.int .i64 x) (.int .i64 y)) :
    (results fn tmps).run Try.prog X = .ok (.tuple #[gv (.slice a1 n1 c1) (.slice a2 n2 c2) (.slice a3 n3 c3) x y, .bool bb]) X := by
  obtain ⟨k0, k1, k2, k3, k4, _⟩ := five_cells hX
  clear hX
  simp [results, hf, h2, hi, go_sem, k0, k1, k2, k3, k4]

end Go.Proofs.Ytdogibjgogcdkaj.gr
