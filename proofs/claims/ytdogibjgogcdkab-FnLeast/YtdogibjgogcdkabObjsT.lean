/-
  Lists of objects made anew, and held against one another.
  Made from the template ObjsT.
-/
import Derived.Test.YtdogibjgogcdkabObjsX
import Derived.Deep.RegionLaw
namespace Go.Proofs.Ytdogibjgogcdkab.gr
open Go.RowKit rows heads
set_option maxRecDepth 100000

/-- One block that holds just these objects. -/
def FullO (w : World) (b : Nat) (ms : List MO) : Prop := w.heap[b]? = some (.cells (cellsO ms).toArray 72 (0, 0))
theorem fullO_own {w : World} {b base : Nat} {ms : List MO} (h : FullO w b ms) (hb : base ≤ b) (hm : ms.length ≤ maxLen) : OwnRow w base (.slice (some ⟨b, 0, none⟩) ms.length ms.length) ms :=
  ⟨cellsO_length ms, .inr ⟨b, ms.length, _, rfl, hb, h, Nat.le_refl _, hm, by simp [cellsO_length], List.take_of_length_le (by simp [cellsO_length])⟩⟩
theorem fullO_below {w w' : World} {b : Nat} {ms : List MO} (h : FullO w b ms) (hb : Below w.heap.size w w') : FullO w' b ms := (hb.block b (lt_of_block h)).trans h
theorem fullO_cell {w : World} {b : Nat} {ms : List MO} (h : FullO w b ms) {i : Nat} (hi : i < ms.length) : w.cell? ⟨b, i * 5, none⟩ = some (.int .i64 (ms.getD i moD).id) ∧ w.cell? ⟨b, i * 5 + 1, none⟩ = some (.int .i64 (ms.getD i moD).cls) ∧ w.cell? ⟨b, i * 5 + 2, none⟩ = some (.int .i64 (ms.getD i moD).fmt) ∧ w.cell? ⟨b, i * 5 + 3, none⟩ = some (.int .i64 (ms.getD i moD).hash) ∧ w.cell? ⟨b, i * 5 + 4, none⟩ = some (ms.getD i moD).sv := by
  obtain ⟨c0, c1, c2, c3, c4⟩ := cellsO_at ms i hi
  unfold FullO at h
  refine ⟨?_, ?_, ?_, ?_, ?_⟩
  all_goals simp [World.cell?, h]
  · exact c0
  · exact c1
  · exact c2
  · exact c3
  · exact c4
theorem fullO_frozen {w : World} {b : Nat} {ms : List MO} (h : FullO w b ms) (i : Nat) : w.frozen? ⟨b, i, none⟩ = false := by
  unfold FullO at h
  simp [World.frozen?, h]
theorem fullO_set {w : World} {b : Nat} {ms : List MO} (h : FullO w b ms) (i : Nat) (m : MO) : FullO (((((w.setCell ⟨b, i * 5, none⟩ (.int .i64 m.id)).setCell ⟨b, i * 5 + 1, none⟩ (.int .i64 m.cls)).setCell ⟨b, i * 5 + 2, none⟩ (.int .i64 m.fmt)).setCell ⟨b, i * 5 + 3, none⟩ (.int .i64 m.hash)).setCell ⟨b, i * 5 + 4, none⟩ m.sv) b (ms.set i m) := by
  have h1 := cells_setCell h (i * 5) (.int .i64 m.id)
  have h2 := cells_setCell h1 (i * 5 + 1) (.int .i64 m.cls)
  have h3 := cells_setCell h2 (i * 5 + 2) (.int .i64 m.fmt)
  have h4 := cells_setCell h3 (i * 5 + 3) (.int .i64 m.hash)
  have h5 := cells_setCell h4 (i * 5 + 4) m.sv
  refine h5.trans ?_
  rw [← cellsO_set ms i m]
  simp
/-- An object stored at the place k of a block. -/
abbrev put5 (X : World) (b k : Nat) (m : MO) : World := ((((X.setCell ⟨b, k * 5, none⟩ (.int .i64 m.id)).setCell ⟨b, k * 5 + 1, none⟩ (.int .i64 m.cls)).setCell ⟨b, k * 5 + 2, none⟩ (.int .i64 m.fmt)).setCell ⟨b, k * 5 + 3, none⟩ (.int .i64 m.hash)).setCell ⟨b, k * 5 + 4, none⟩ m.sv
theorem sets_ch {X : World} {b k0 k1 k2 k3 k4 : Nat} (u0 u1 u2 u3 u4 : Value) : Ch [b] X (((((X.setCell ⟨b, k0, none⟩ u0).setCell ⟨b, k1, none⟩ u1).setCell ⟨b, k2, none⟩ u2).setCell ⟨b, k3, none⟩ u3).setCell ⟨b, k4, none⟩ u4) := by
  have one : ∀ (Y : World) (k : Nat) (u : Value), Ch [b] Y (Y.setCell ⟨b, k, none⟩ u) := fun Y k u => ⟨rfl, rfl, rfl, by simp, fun j _ hn => Below.heap_setCell Y _ u j (fun e => hn (by simp [e]))⟩
  exact ((((one _ k0 _).trans (one _ k1 _)).trans (one _ k2 _)).trans (one _ k3 _)).trans (one _ k4 _)
theorem setM_snoc {rs : List MO} {n : Nat} (m : MO) (h : rs.length < n) : (rs ++ List.replicate (n - rs.length) moD).set rs.length m = (rs ++ [m]) ++ List.replicate (n - (rs.length + 1)) moD := by
  rw [List.set_append_right _ _ (Nat.le_refl _), Nat.sub_self]
  obtain ⟨d, hd⟩ : ∃ d, n - rs.length = d + 1 := ⟨n - rs.length - 1, by omega⟩
  rw [hd, List.replicate_succ, show n - (rs.length + 1) = d by omega]
  simp
theorem made_objs (n : Nat) : (madeCells #[Value.int .i64 0, .int .i64 0, .int .i64 0, .int .i64 0, .slice none 0 0] (n * 5)).toList = cellsO (List.replicate n moD) := by
  unfold madeCells
  rw [Array.toList_map, Array.toList_range]
  induction n with
  | zero => rfl
  | succ n ih =>
    rw [show (n + 1) * 5 = n * 5 + 1 + 1 + 1 + 1 + 1 by omega, List.range_succ, List.range_succ, List.range_succ, List.range_succ, List.range_succ, List.replicate_succ', cellsO_append, ← ih]
    have h0 : n * 5 % 5 = 0 := by omega
    have h1 : (n * 5 + 1) % 5 = 1 := by omega
    have h2 : (n * 5 + 1 + 1) % 5 = 2 := by omega
    have h3 : (n * 5 + 1 + 1 + 1) % 5 = 3 := by omega
    have h4 : (n * 5 + 1 + 1 + 1 + 1) % 5 = 4 := by omega
    simp [cellsO, h0, h1, h2, h3, h4]
theorem full_of_made {w : World} {base g n : Nat} {cs : List Value} {ms : List MO} (h : w.ownsRow base 72 5 (.slice (some ⟨g, 0, none⟩) n n) n cs) (hcs : cs = cellsO ms) : FullO w g ms := by
  subst hcs
  obtain ⟨h0, ⟨h1, _⟩ | ⟨g', cap, cur, h1, hg, hh, hle, hm, hs, ht⟩⟩ := h
  · cases h1
  · injection h1 with e1 e2 e3
    injection e1 with e1
    injection e1 with e1
    subst e1 e3
    unfold FullO
    rw [hh]
    rw [List.take_of_length_le (by simpa using Nat.le_of_eq hs)] at ht
    rw [← ht]
theorem blks_append (ms ns : List MO) : blks (ms ++ ns) = blks ms ++ blks ns := by simp [blks]
theorem take_succM {ms : List MO} {k : Nat} (h : k < ms.length) : ms.take (k + 1) = ms.take k ++ [ms.getD k moD] := by
  rw [List.take_add_one, List.getD_eq_getElem?_getD, List.getElem?_eq_getElem h]
  rfl

end Go.Proofs.Ytdogibjgogcdkab.gr
