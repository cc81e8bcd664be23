/-
  A graph of the laws made a graph of the program.
  Made from the template GraphsT.
-/
import Derived.Test.YtdogibjgogcdkabGraphs
namespace Go.Proofs.Ytdogibjgogcdkab.gr
open Go.RowKit rows heads
set_option maxRecDepth 100000

theorem res_gr {fn : Func} {tmps : Array Value} {X : World} {j b : Nat} {a1 a2 a3 : Option Addr} {n1 c1 n2 c2 n3 c3 : Nat} {x y : Int} (hf : fn.results = #[.cell j 55]) (h2 : tmps[j]? = some (.pointer (some ⟨b, 0, none⟩))) (hX : Five X b 55 (.slice a1 n1 c1) (.slice a2 n2 c2) (.slice a3 n3 c3) (.int .i64 x) (.int .i64 y)) :
    (results fn tmps).run Try.prog X = .ok (gv (.slice a1 n1 c1) (.slice a2 n2 c2) (.slice a3 n3 c3) x y) X := by
  obtain ⟨k0, k1, k2, k3, k4, _⟩ := five_cells hX
  clear hX
  simp [results, hf, h2, go_sem, k0, k1, k2, k3, k4]
theorem one_ch (Y : World) (b k : Nat) (u : Value) : Ch [b] Y (Y.setCell ⟨b, k, none⟩ u) := ⟨rfl, rfl, rfl, by simp, fun j _ hn => Below.heap_setCell Y _ u j (fun e => hn (by simp [e]))⟩
theorem five_ch {S : List Nat} {w w' : World} {b : Nat} {t : TypeId} {c0 c1 c2 c3 c4 : Value} (h : Five w b t c0 c1 c2 c3 c4) (hc : Ch S w w') (hb : b ∉ S) : Five w' b t c0 c1 c2 c3 c4 := (hc.block b (lt_of_block h) hb).trans h

end Go.Proofs.Ytdogibjgogcdkab.gr
