/-
  Chapter 10 as the specification has it: a heap of the call's own made straight.
  Made from the template StrS0 (mkstrs.py).
-/
import Derived.Test.YtmhbdmmpmagbkaaGreatFollowS3
import Derived.Test.YtmhbdmmpmagbkaaGreatM6
import Derived.Deep.RegionLaw
namespace Go.Proofs.YtmhbdmmpmagbkaaGreat.hp
open Go.RowKit rows heads words walks region
set_option maxRecDepth 100000
set_option linter.unusedVariables false
set_option linter.unusedSimpArgs false

/-- No two of these lie in one block. -/
structure Dst (w : World) (P base gr go gm : Nat) (vs : Value) : Prop where
  ro : gr ≠ go
  rm : gr ≠ gm
  om : go ≠ gm
  pr : P ≠ gr
  po : P ≠ go
  pm : P ≠ gm
  sr : ∀ k ∈ blk vs, k ≠ gr ∧ k ≠ go ∧ k ≠ gm ∧ k ≠ P
  lt : gr < w.heap.size ∧ go < w.heap.size ∧ gm < w.heap.size ∧ P < w.heap.size
/-- A heap of the call's own while it is made straight, and the list of its objects. -/
structure SS (w W : World) (P base gr go gm cr co cm nr no nm : Nat) (vs vl : Value) (H : Hp) (os xs rs ms : List Int) : Prop where
  nine : Nine W P 31 (.int .i64 H.half) (.int .i64 H.old) (.slice (some ⟨gr, 0, none⟩) nr cr) (.int .i64 H.side) (.int .i64 H.top) (.slice (some ⟨go, 0, none⟩) no co) (.slice (some ⟨gm, 0, none⟩) nm cm) vs (.int .i64 H.seed)
  row : W.ownsRow base 2 1 (.slice (some ⟨gr, 0, none⟩) nr cr) nr (cellsOf xs)
  roots : W.ownsRow base 2 1 (.slice (some ⟨go, 0, none⟩) no co) no (cellsOf rs)
  mour : W.ownsRow base 2 1 (.slice (some ⟨gm, 0, none⟩) nm cm) nm (cellsOf ms)
  seen : rows.Own W base vs H.seen
  list : rows.Own W w.heap.size vl os
  ch : Ch [P, gr, go, gm] w W
  lr : xs.length = nr
  lo : rs.length = no
  lm : ms.length = nm
theorem SS.below {W W' : World} {w : World} {P base gr go gm cr co cm nr no nm : Nat} {vs vl : Value} {H : Hp} {os : List Int} {xs rs ms : List Int} (h : SS w W P base gr go gm cr co cm nr no nm vs vl H os xs rs ms) (hb : Below W.heap.size W W') : SS w W' P base gr go gm cr co cm nr no nm vs vl H os xs rs ms :=
  ⟨nine_below h.nine hb, row_ch (S := []) h.row (ch_below hb) (by simp), row_ch (S := []) h.roots (ch_below hb) (by simp), row_ch (S := []) h.mour (ch_below hb) (by simp), own_below h.seen hb, own_below h.list hb, h.ch.trans (ch_below hb), h.lr, h.lo, h.lm⟩
theorem blk_of (g n c : Nat) : blk (.slice (some ⟨g, 0, none⟩) n c) = [g] := rfl
theorem cells_set (xs : List Int) (i : Nat) (x : Int) : (cellsOf xs).set i (.int .i64 x) = cellsOf (xs.set i x) := by simp [cellsOf, List.map_set]
theorem SS.setRow {W : World} {w : World} {P base gr go gm cr co cm nr no nm : Nat} {vs vl : Value} {H : Hp} {os : List Int} {xs rs ms : List Int} (h : SS w W P base gr go gm cr co cm nr no nm vs vl H os xs rs ms) (d : Dst w P base gr go gm vs) (i : Nat) (x : Int) : SS w (W.setCell ⟨gr, i, none⟩ (.int .i64 x)) P base gr go gm cr co cm nr no nm vs vl H os (xs.set i x) rs ms :=
  ⟨nine_ch h.nine (one_ch _ gr _ _) (by simp; exact d.pr), by have := (World.ownsRow.stored h.row i (.int .i64 x)).1; rw [cells_set] at this; exact this, row_ch (S := [gr]) h.roots (one_ch _ _ _ _) (fun k hk => by rw [blk_of] at hk; simp at hk ⊢; have := d.ro; omega), row_ch (S := [gr]) h.mour (one_ch _ _ _ _) (fun k hk => by rw [blk_of] at hk; simp at hk ⊢; have := d.rm; omega), row_ch (S := [gr]) h.seen (one_ch _ _ _ _) (fun k hk => by simp; exact (d.sr k hk).1), row_ch (S := [gr]) h.list (one_ch _ _ _ _) (fun k hk => by have := (blk_lt h.list k hk).1; have := d.lt.1; simp; omega), h.ch.trans ((one_ch _ gr _ _).mono (by simp)), by simpa using h.lr, by simpa using h.lo, by simpa using h.lm⟩
theorem SS.setRoot {W : World} {w : World} {P base gr go gm cr co cm nr no nm : Nat} {vs vl : Value} {H : Hp} {os : List Int} {xs rs ms : List Int} (h : SS w W P base gr go gm cr co cm nr no nm vs vl H os xs rs ms) (d : Dst w P base gr go gm vs) (i : Nat) (x : Int) : SS w (W.setCell ⟨go, i, none⟩ (.int .i64 x)) P base gr go gm cr co cm nr no nm vs vl H os xs (rs.set i x) ms :=
  ⟨nine_ch h.nine (one_ch _ go _ _) (by simp; exact d.po), row_ch (S := [go]) h.row (one_ch _ _ _ _) (fun k hk => by rw [blk_of] at hk; simp at hk ⊢; have := d.ro; omega), by have := (World.ownsRow.stored h.roots i (.int .i64 x)).1; rw [cells_set] at this; exact this, row_ch (S := [go]) h.mour (one_ch _ _ _ _) (fun k hk => by rw [blk_of] at hk; simp at hk ⊢; have := d.om; omega), row_ch (S := [go]) h.seen (one_ch _ _ _ _) (fun k hk => by simp; exact (d.sr k hk).2.1), row_ch (S := [go]) h.list (one_ch _ _ _ _) (fun k hk => by have := (blk_lt h.list k hk).1; have := d.lt.2.1; simp; omega), h.ch.trans ((one_ch _ go _ _).mono (by simp)), by simpa using h.lr, by simpa using h.lo, by simpa using h.lm⟩
theorem SS.setMour {W : World} {w : World} {P base gr go gm cr co cm nr no nm : Nat} {vs vl : Value} {H : Hp} {os : List Int} {xs rs ms : List Int} (h : SS w W P base gr go gm cr co cm nr no nm vs vl H os xs rs ms) (d : Dst w P base gr go gm vs) (i : Nat) (x : Int) : SS w (W.setCell ⟨gm, i, none⟩ (.int .i64 x)) P base gr go gm cr co cm nr no nm vs vl H os xs rs (ms.set i x) :=
  ⟨nine_ch h.nine (one_ch _ gm _ _) (by simp; exact d.pm), row_ch (S := [gm]) h.row (one_ch _ _ _ _) (fun k hk => by rw [blk_of] at hk; simp at hk ⊢; have := d.rm; omega), row_ch (S := [gm]) h.roots (one_ch _ _ _ _) (fun k hk => by rw [blk_of] at hk; simp at hk ⊢; have := d.om; omega), by have := (World.ownsRow.stored h.mour i (.int .i64 x)).1; rw [cells_set] at this; exact this, row_ch (S := [gm]) h.seen (one_ch _ _ _ _) (fun k hk => by simp; exact (d.sr k hk).2.2.1), row_ch (S := [gm]) h.list (one_ch _ _ _ _) (fun k hk => by have := (blk_lt h.list k hk).1; have := d.lt.2.2.1; simp; omega), h.ch.trans ((one_ch _ gm _ _).mono (by simp)), by simpa using h.lr, by simpa using h.lo, by simpa using h.lm⟩
theorem SS.hp {W : World} {w : World} {P base gr go gm cr co cm nr no nm : Nat} {vs vl : Value} {H : Hp} {os : List Int} {xs rs ms : List Int} (h : SS w W P base gr go gm cr co cm nr no nm vs vl H os xs rs ms) : HpAt W (.slice (some ⟨gr, 0, none⟩) xs.length cr) (.slice (some ⟨go, 0, none⟩) rs.length co) (.slice (some ⟨gm, 0, none⟩) ms.length cm) vs { H with row := xs, roots := rs, mourned := ms } := by
  have h1 := h.row
  have h2 := h.roots
  have h3 := h.mour
  rw [← h.lr] at h1
  rw [← h.lo] at h2
  rw [← h.lm] at h3
  exact ⟨own_ints h1, own_ints h2, own_ints h3, own_ints h.seen⟩
theorem SS.rowCell {W : World} {w : World} {P base gr go gm cr co cm nr no nm : Nat} {vs vl : Value} {H : Hp} {os : List Int} {xs rs ms : List Int} (h : SS w W P base gr go gm cr co cm nr no nm vs vl H os xs rs ms) {q : Nat} (hq : q < xs.length) : W.cell? ⟨gr, q, none⟩ = some (.int .i64 (xs.getD q 0)) ∧ W.frozen? ⟨gr, q, none⟩ = false := by
  refine ⟨?_, World.ownsRow.frozenAt h.row q⟩
  rw [World.ownsRow.cellAt h.row q (by rw [← h.lr]; omega)]
  simp [cellsOf, hq, List.getD_eq_getElem?_getD]
theorem SS.rootCell {W : World} {w : World} {P base gr go gm cr co cm nr no nm : Nat} {vs vl : Value} {H : Hp} {os : List Int} {xs rs ms : List Int} (h : SS w W P base gr go gm cr co cm nr no nm vs vl H os xs rs ms) {q : Nat} (hq : q < rs.length) : W.cell? ⟨go, q, none⟩ = some (.int .i64 (rs.getD q 0)) ∧ W.frozen? ⟨go, q, none⟩ = false := by
  refine ⟨?_, World.ownsRow.frozenAt h.roots q⟩
  rw [World.ownsRow.cellAt h.roots q (by rw [← h.lo]; omega)]
  simp [cellsOf, hq, List.getD_eq_getElem?_getD]
theorem SS.mourCell {W : World} {w : World} {P base gr go gm cr co cm nr no nm : Nat} {vs vl : Value} {H : Hp} {os : List Int} {xs rs ms : List Int} (h : SS w W P base gr go gm cr co cm nr no nm vs vl H os xs rs ms) {q : Nat} (hq : q < ms.length) : W.cell? ⟨gm, q, none⟩ = some (.int .i64 (ms.getD q 0)) ∧ W.frozen? ⟨gm, q, none⟩ = false := by
  refine ⟨?_, World.ownsRow.frozenAt h.mour q⟩
  rw [World.ownsRow.cellAt h.mour q (by rw [← h.lm]; omega)]
  simp [cellsOf, hq, List.getD_eq_getElem?_getD]
end Go.Proofs.YtmhbdmmpmagbkaaGreat.hp
