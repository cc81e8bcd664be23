/-
  Small laws of the cursor: it stays where other blocks are made or written; a drawn yes or no; a drawn number between two.
  Made from the template DrawKit.
-/
import Derived.Test.YtdogibjgogcdkabDrawNew
namespace Go.Proofs.Ytdogibjgogcdkab.draw
open Go.RowKit

theorem cur_alloc {w : World} {bk : Nat} {a : Option Addr} {len cap : Nat} (h : Cur w bk a len cap) (o : Obj) : Cur (w.alloc o) bk a len cap := by
  obtain ⟨i, g, hb, hi⟩ := h
  exact ⟨i, g, (Below.heap_alloc w o bk (lt_of_block hb)).trans hb, hi⟩
theorem cur_lt {w : World} {bk : Nat} {a : Option Addr} {len cap : Nat} (h : Cur w bk a len cap) : bk < w.heap.size := by
  obtain ⟨i, g, hb, hi⟩ := h
  exact lt_of_block hb
theorem grownBy_alloc {w w' : World} {r : Option Nat} (h : w.grownBy w' r) (o : Obj) : w.grownBy (w'.alloc o) r := grownBy_trans h (World.grownBy_alloc w' o r)
theorem lit_cell {w w2 : World} {bk : Nat} {c : Array Value} {t : TypeId} (hg : (w.alloc (.cells c t)).grownBy w2 (some bk)) (hbk : bk < w.heap.size) {k : Nat} {v : Value} (hv : c[k]? = some v) :
    w2.cell? ⟨w.heap.size, k, none⟩ = some v :=
  hg.cell ((World.cell?_alloc_at c t w.heap.size k rfl).trans hv) (by simp; omega)

theorem cur_setCell {w : World} {bk : Nat} {a : Option Addr} {len cap : Nat} (h : Cur w bk a len cap) {p : Addr} (hp : bk ≠ p.block) (u : Value) : Cur (w.setCell p u) bk a len cap := by
  obtain ⟨i, g, hb, hi⟩ := h
  exact ⟨i, g, (Below.heap_setCell w p u bk hp).trans hb, hi⟩
theorem grownBy_setCell_new {w w' : World} {r : Option Nat} (h : w.grownBy w' r) {p : Addr} (hp : w.heap.size ≤ p.block) (u : Value) : w.grownBy (w'.setCell p u) r :=
  ⟨h.os, h.tape, h.output, by simpa using h.size, fun k hk hne => (Below.heap_setCell w' p u k (by omega)).trans (h.block k hk hne)⟩
/-- A block that was there and is not the cursor's stays. -/
theorem grownBy_block {w w' : World} {bk b : Nat} {o : Obj} (hg : w.grownBy w' (some bk)) (h : w.heap[b]? = some o) (hne : b ≠ bk) : w'.heap[b]? = some o :=
  (hg.block b (lt_of_block h) (by simpa using hne)).trans h
end Go.Proofs.Ytdogibjgogcdkab.draw
