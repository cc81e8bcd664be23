/-
  Chapter 8 as the program has it: a free chunk written into a row.
  Made from the template FreeI1.
-/
import Derived.Test.YtlfnjdgkpocanaaM5
import Derived.Test.YtlfnjdgkpocanaaM4
import Derived.Test.YtlfnjdgkpocanaaWalkIObjA
import Derived.Test.YtlfnjdgkpocanaaPack
import Derived.Deep.RegionLaw
namespace Go.Proofs.Ytlfnjdgkpocanaa.walks
open Go.RowKit rows heads words
set_option maxRecDepth 100000

abbrev fcv (k n : Int) : Value := .agg #[.int .i64 k, .int .i64 n]
abbrev fcb (k n : Int) : Obj := .cells #[.int .i64 k, .int .i64 n] 47

theorem zeroI : ∀ w, (zeroValue 2).run Try.prog w = .ok (.int .i64 0) w := fun w => by go_simp
theorem splice_fill {xs : List Int} {k n : Nat} : splice (cellsOf xs) k (List.replicate n (.int .i64 0)) = cellsOf (fill xs k n 0) := by
  simp [splice, cellsOf, fill, List.map_take, List.map_drop]
/-- 'clear' on a piece of a block of numbers, within a region that draws its order. -/
theorem step_clear_ints {w : World} {ops : Array Oper} {o : Oper} {a : Act} {K : Act → World → Prop} {Q : Exit → Act → World → Prop} {E : Prop} (hgd : o.guard = none) (s : Operand)
    (ho : o.op = .call { callee := .builtin .clear, args := #[s], argTypes := #[24] }) {g k n c : Nat} {xs : List Int} (hs : a.eval s = .slice (some ⟨g, k, none⟩) n c) (hn : 0 < n) (hF : Full w g xs) (hfit : k + n ≤ xs.length)
    (h : ∀ w', Hid (Full w' g (fill xs k n 0)) → Hid (w.grownBy w' (some g)) → K (a.put o.dst (.tuple #[])) w') :
    if Region.wanted o (yielded ops a.tmps) = true then Oper.wp Try.prog o a w K Q else E := by
  have hw : Region.wanted o (yielded ops a.tmps) = true := by simp [Region.wanted, hgd]
  rw [if_pos hw]
  have hz : (Builtin.zeroCells (Value.int .i64 0).cells n).toList = List.replicate n (.int .i64 0) := by
    simp [Builtin.zeroCells, Value.cells]
    apply List.ext_getElem
    · simp
    · intro i h1 h2
      simp [Nat.mod_one]
  obtain ⟨w', hrun, r1, r2, r3⟩ := copyk.run_clear_k (P := Try.prog) w 24 2 o.type (.int .i64 0) 1 Try.underlying24 zeroI (some ⟨g, k, none⟩) n c g k (cellsOf xs) 2 hF (fun _ => rfl) (by rw [hz]; simp) (by rw [hz]; intro v hv; rw [List.eq_of_mem_replicate hv]; rfl) (by simp; omega)
  rw [if_neg (by omega), hz, splice_fill] at r1
  have b0 := r3 (Below.refl 0 w) (Nat.zero_le _)
  unfold Oper.wp
  simp [execOp, ho, resolve, invoke, builtin, hs, hrun, Result.andThen]
  exact h w' r1 ⟨b0.os, b0.tape, b0.output, b0.size, fun j _ hj => r2 j (fun e => hj (by rw [e]))⟩

theorem grown_two {a b c : World} {r : Option Nat} (h : a.grownBy b r) (k : b.grownBy c r) : a.grownBy c r :=
  ⟨k.os.trans h.os, k.tape.trans h.tape, k.output.trans h.output, Nat.le_trans h.size k.size, fun j hj hn => (k.block j (Nat.lt_of_lt_of_le hj h.size) hn).trans (h.block j hj hn)⟩
theorem grown_bel' {w w' : World} (hb : Below w.heap.size w w') (r : Option Nat) : w.grownBy w' r := ⟨hb.os, hb.tape, hb.output, hb.size, fun k hk _ => hb.block k hk⟩
theorem full_grown {w w' : World} {g b : Nat} {xs : List Int} (h : Full w b xs) (hg : w.grownBy w' (some g)) (hne : b ≠ g) : Full w' b xs := (hg.block b (lt_of_block h) (fun e => hne (by injection e))).trans h

theorem full_bel {w w' : World} {b : Nat} {xs : List Int} (h : Full w b xs) (hb : Below w.heap.size w w') : Full w' b xs := (hb.block b (lt_of_block h)).trans h
theorem fc_cells {w : World} {b : Nat} {k n : Int} (h : w.heap[b]? = some (fcb k n)) : w.cell? ⟨b, 0, none⟩ = some (.int .i64 k) ∧ w.cell? ⟨b, 1, none⟩ = some (.int .i64 n) := ⟨by simp [World.cell?, h], by simp [World.cell?, h]⟩
theorem grown_setG {w w' : World} {g : Nat} (h : w.grownBy w' (some g)) (k : Nat) (u : Value) : w.grownBy (w'.setCell ⟨g, k, none⟩ u) (some g) :=
  ⟨h.os, h.tape, h.output, by simpa using h.size, fun k' hk hne => (Below.heap_setCell w' _ u k' (fun e => hne (by simp [e]))).trans (h.block k' hk hne)⟩

end Go.Proofs.Ytlfnjdgkpocanaa.walks
