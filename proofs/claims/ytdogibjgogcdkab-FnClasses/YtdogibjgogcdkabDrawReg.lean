/-
  The region of the draw of a list of classes in which a wrong entry is put at its end: whatever its order.
  Made from the template DrawReg.
-/
import Derived.Test.YtdogibjgogcdkabDrawName
import Derived.Test.YtdogibjgogcdkabClassF
import Derived.Test.YtdogibjgogcdkabEntsA
import Derived.Test.YtdogibjgogcdkabRegionFacts
import Derived.Deep.OwnRows
namespace Go.Proofs.Ytdogibjgogcdkab.draw
open Go.RowKit rows ents region

/-- A block of zero bytes. -/
def madeB (n : Nat) : Obj := .cells (madeCells #[.int .u8 0] n) 5
abbrev ints4 : Obj := .cells #[.int .i64 (-1), .int .i64 50, .int .i64 99, .int .i64 100] 2 (0, 0)
abbrev strs4 (s : ByteArray) : Obj := .cells #[.string ⟨#[]⟩, .string ⟨#[120]⟩, .string ⟨#[97]⟩, .string s] 9 (0, 0)

theorem wp_value {P : Program} {o : Oper} {a : Act} {w w' : World} {K : Act → World → Prop} {Q : Exit → Act → World → Prop} {v : Value} (h : (execOp a.eval o).run P w = .ok (.value v) w') (hk : K (a.put o.dst v) w') : o.wp P a w K Q := by
  unfold Oper.wp
  rw [h]
  exact hk
theorem wp_call {P : Program} {o : Oper} {a : Act} {w : World} {K : Act → World → Prop} {Q : Exit → Act → World → Prop} {f : FuncId} {args : Array Value} (h : (execOp a.eval o).run P w = .ok (.enter f args) w) (hk : Calls P f args w fun e w' => ∃ v, e = .returned v ∧ K (a.put o.dst v) w') : o.wp P a w K Q := by
  unfold Oper.wp
  rw [h, Oper.upon_enter]
  refine hk.mono ?_
  rintro e w' ⟨v, rfl, h⟩
  exact h

theorem run_ints4 (w : World) : (Instr.buildSlice 24 4 #[(0, .int .i64 (-1)), (1, .int .i64 50), (2, .int .i64 99), (3, .int .i64 100)]).run Try.prog w = .ok (.slice (some ⟨w.heap.size, 0, none⟩) 4 4) (w.alloc ints4) := by
  go_simp
theorem run_strs4 (s : ByteArray) (w : World) : (Instr.buildSlice 140 4 #[(0, .string ⟨#[]⟩), (1, .string ⟨#[120]⟩), (2, .string ⟨#[97]⟩), (3, .string s)]).run Try.prog w = .ok (.slice (some ⟨w.heap.size, 0, none⟩) 4 4) (w.alloc (strs4 s)) := by
  go_simp
theorem run_ent1 (x : Int) (s : ByteArray) (w : World) : (Instr.buildSlice 38 1 #[(0, ev (x, s))]).run Try.prog w = .ok (.slice (some ⟨w.heap.size, 0, none⟩) 1 1) (w.alloc (eb (x, s))) := by
  go_simp
theorem run_ent (x : Int) (s : ByteArray) (w : World) : (Instr.build 49 #[(0, .int .i64 x), (1, .string s)]).run Try.prog w = .ok (ev (x, s)) w := by
  go_simp
theorem run_ixI (g j : Nat) (hj : j < 4) (w : World) : (Instr.indexAt 24 (.slice (some ⟨g, 0, none⟩) 4 4) (.int .i64 (j : Nat))).run Try.prog w = .ok (.pointer (some ⟨g, j, none⟩)) w := by
  have h1 : (j : Int) < 4 := by omega
  have h2 : (0 : Int) ≤ (j : Int) := by omega
  go_simp
theorem run_ixS (g j : Nat) (hj : j < 4) (w : World) : (Instr.indexAt 140 (.slice (some ⟨g, 0, none⟩) 4 4) (.int .i64 (j : Nat))).run Try.prog w = .ok (.pointer (some ⟨g, j, none⟩)) w := by
  have h1 : (j : Int) < 4 := by omega
  have h2 : (0 : Int) ≤ (j : Int) := by omega
  go_simp
theorem run_ldI (g j : Nat) (hj : j < 4) (w : World) (h : w.heap[g]? = some ints4) : ∃ x : Int, -1 ≤ x ∧ x ≤ 100 ∧ (Instr.loadAt 2 (.pointer (some ⟨g, j, none⟩))).run Try.prog w = .ok (.int .i64 x) w := by
  rcases (show j = 0 ∨ j = 1 ∨ j = 2 ∨ j = 3 by omega) with rfl | rfl | rfl | rfl
  · have c : w.cell? ⟨g, 0, none⟩ = some (.int .i64 (-1)) := by simp [World.cell?, h]
    exact ⟨-1, by decide, by decide, by go_simp⟩
  · have c : w.cell? ⟨g, 1, none⟩ = some (.int .i64 50) := by simp [World.cell?, h]
    exact ⟨50, by decide, by decide, by go_simp⟩
  · have c : w.cell? ⟨g, 2, none⟩ = some (.int .i64 99) := by simp [World.cell?, h]
    exact ⟨99, by decide, by decide, by go_simp⟩
  · have c : w.cell? ⟨g, 3, none⟩ = some (.int .i64 100) := by simp [World.cell?, h]
    exact ⟨100, by decide, by decide, by go_simp⟩
theorem run_ldS (g j : Nat) (hj : j < 4) (s : ByteArray) (hs : s.size ≤ 64) (w : World) (h : w.heap[g]? = some (strs4 s)) : ∃ t : ByteArray, t.size ≤ 64 ∧ (Instr.loadAt 9 (.pointer (some ⟨g, j, none⟩))).run Try.prog w = .ok (.string t) w := by
  rcases (show j = 0 ∨ j = 1 ∨ j = 2 ∨ j = 3 by omega) with rfl | rfl | rfl | rfl
  · have c : w.cell? ⟨g, 0, none⟩ = some (.string ⟨#[]⟩) := by simp [World.cell?, h]
    exact ⟨_, (by decide : (⟨#[]⟩ : ByteArray).size ≤ 64), by go_simp⟩
  · have c : w.cell? ⟨g, 1, none⟩ = some (.string ⟨#[120]⟩) := by simp [World.cell?, h]
    exact ⟨_, (by decide : (⟨#[120]⟩ : ByteArray).size ≤ 64), by go_simp⟩
  · have c : w.cell? ⟨g, 2, none⟩ = some (.string ⟨#[97]⟩) := by simp [World.cell?, h]
    exact ⟨_, (by decide : (⟨#[97]⟩ : ByteArray).size ≤ 64), by go_simp⟩
  · have c : w.cell? ⟨g, 3, none⟩ = some (.string s) := by simp [World.cell?, h]
    exact ⟨_, hs, by go_simp⟩
theorem run_mk21 (w : World) : (Instr.makeSlice 22 (.int .i64 21) (.int .i64 21)).run Try.prog w = .ok (.slice (some ⟨w.heap.size, 0, none⟩) 21 21) (w.alloc (madeB 21)) :=
  run_make_row' (P := Try.prog) 22 5 (.int .u8 0) 1 Try.underlying22 infoB rfl .i64 .i64 21 (by omega) (by omega) w
theorem run_cv21 (g : Nat) (w : World) (h : w.heap[g]? = some (madeB 21)) : ∃ s : ByteArray, s.size ≤ 64 ∧ (convert 22 9 (.slice (some ⟨g, 0, none⟩) 21 21)).run Try.prog w = .ok (.string s) w := by
  refine ⟨strOfNums (List.replicate 21 0), by rw [strOfNums_size, List.length_replicate]; decide, ?_⟩
  refine run_convert_bytes_arg (P := Try.prog) _ 22 5 Try.underlying22 Try.underlying5 g 0 21 21 (List.replicate 21 0) (List.length_replicate ..) ?_ 9 Try.underlying9
  intro i hi
  have e : w.cell? ⟨g, 0 + i, none⟩ = (madeCells #[.int .u8 0] 21)[0 + i]? := by simp [World.cell?, h, madeB]
  rw [e, ← Array.getElem?_toList, toList_madeCells_one, Nat.zero_add, List.getElem?_replicate, if_pos hi, List.getD_eq_getElem?_getD, List.getElem?_replicate, if_pos hi]
  rfl
end Go.Proofs.Ytdogibjgogcdkab.draw
