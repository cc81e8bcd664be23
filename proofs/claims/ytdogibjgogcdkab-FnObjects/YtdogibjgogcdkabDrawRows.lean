/-
  The draws of chapter 3: a row of the call's own, places and words; nothing that was there is written, but for the cursor's own block.
  Made from the template DrawRows.
-/
import Derived.Test.YtdogibjgogcdkabDrawOne
import Derived.Test.YtdogibjgogcdkabInts
namespace Go.Proofs.Ytdogibjgogcdkab.draw
open Go.RowKit rows

theorem grownBy_own {w w1 w2 : World} {bk : Nat} {v : Value} {hi : Nat} (h : w.grownBy w1 (some bk)) (hg : w1.grownBy w2 v.ownBlock) (hi' : ∀ k, v.ownBlock = some k → w.heap.size ≤ k ∧ k < hi) : w.grownBy w2 (some bk) :=
  ⟨hg.os.trans h.os, hg.tape.trans h.tape, hg.output.trans h.output, Nat.le_trans h.size hg.size, fun k hk hne => (hg.block k (Nat.lt_of_lt_of_le hk h.size) (fun e => by have := (hi' k e.symm).1; omega)).trans (h.block k hk hne)⟩
theorem cur_own {w1 w2 : World} {bk lo hi : Nat} {v : Value} {a : Option Addr} {len cap : Nat} (h : Cur w1 bk a len cap) (hg : w1.grownBy w2 v.ownBlock) (hi' : ∀ k, v.ownBlock = some k → lo ≤ k ∧ k < hi) (hb : bk < lo) : Cur w2 bk a len cap := by
  obtain ⟨i, g, hB, hl⟩ := h
  exact ⟨i, g, (hg.block bk (lt_of_block hB) (fun e => by have := (hi' bk e.symm).1; omega)).trans hB, hl⟩

theorem own_row3 {w : World} {base : Nat} {v : Value} {xs : List Int} {x : Int} (h : w.ownsRow base 2 1 v (xs.length + 1) (cellsOf xs ++ [.int .i64 x])) : Own w base v (xs ++ [x]) := by
  unfold Own
  simpa [cellsOf] using h
theorem own_row4 {w : World} {base n : Nat} {v : Value} (h : w.ownsRow base 2 1 v n (madeCells (Value.int .i64 0).cells (n * 1)).toList) : Own w base v (List.replicate n 0) := by
  unfold Own
  simpa [cellsOf, toList_madeCells_one, Value.cells] using h
theorem grownBy_none {w w' : World} {r : Option Nat} (h : w.grownBy w' none) : w.grownBy w' r := ⟨h.os, h.tape, h.output, h.size, fun k hk _ => h.block k hk (by simp)⟩
theorem cur_none {w w' : World} {bk : Nat} {a : Option Addr} {len cap : Nat} (h : Cur w bk a len cap) (hg : w.grownBy w' none) : Cur w' bk a len cap := by
  obtain ⟨i, g, hB, hl⟩ := h
  exact ⟨i, g, (hg.block bk (lt_of_block hB) (by simp)).trans hB, hl⟩

end Go.Proofs.Ytdogibjgogcdkab.draw
