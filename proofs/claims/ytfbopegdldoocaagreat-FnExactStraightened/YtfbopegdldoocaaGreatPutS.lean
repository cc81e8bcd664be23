/-
  Chapter 4 as the specification has it: an object written into a row.
  Made from the template PutS.
-/
import Derived.Test.YtfbopegdldoocaaGreatWalkS2
import Derived.Test.YtfbopegdldoocaaGreatHeadMem
namespace Go.Proofs.YtfbopegdldoocaaGreat.walks
open Go.RowKit rows heads words
set_option maxRecDepth 100000

theorem grown_set {w w' : World} {g : Nat} (h : w.grownBy w' (some g)) (k : Nat) (u : Value) : w.grownBy (w'.setCell ⟨g, k, none⟩ u) (some g) :=
  ⟨h.os, h.tape, h.output, by simpa using h.size, fun k' hk hne => (Below.heap_setCell w' _ u k' (fun e => hne (by simp [e]))).trans (h.block k' hk hne)⟩
theorem grown_alloc {w w' : World} {r : Option Nat} (h : w.grownBy w' r) (o : Obj) : w.grownBy (w'.alloc o) r :=
  ⟨h.os, h.tape, h.output, by have := h.size; simp; omega, fun k hk hne => (Below.heap_alloc w' o k (Nat.lt_of_lt_of_le hk h.size)).trans (h.block k hk hne)⟩

end Go.Proofs.YtfbopegdldoocaaGreat.walks
