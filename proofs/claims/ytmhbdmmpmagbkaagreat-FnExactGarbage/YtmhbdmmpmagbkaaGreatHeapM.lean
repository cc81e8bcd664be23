/-
  A heap as it lies: nine fields, four of them lists of numbers.
  Made from the template HeapM.
-/
import Derived.Test.YtmhbdmmpmagbkaaGreatWalkS2
import Derived.Test.YtmhbdmmpmagbkaaGreatObjS2
import Derived.Test.YtmhbdmmpmagbkaaGreatWordsAll
namespace Go.Proofs.YtmhbdmmpmagbkaaGreat.hp
open Go.RowKit rows heads words walks
set_option maxRecDepth 100000

/-- A heap. -/
structure Hp where
  half : Int
  old : Int
  row : List Int
  side : Int
  top : Int
  roots : List Int
  mourned : List Int
  seen : List Int
  seed : Int
abbrev hpv (H : Hp) (vr vo vm vs : Value) : Value := .agg #[.int .i64 H.half, .int .i64 H.old, vr, .int .i64 H.side, .int .i64 H.top, vo, vm, vs, .int .i64 H.seed]
abbrev hpb (H : Hp) (vr vo vm vs : Value) : Obj := .cells #[.int .i64 H.half, .int .i64 H.old, vr, .int .i64 H.side, .int .i64 H.top, vo, vm, vs, .int .i64 H.seed] 31
/-- A block of nine cells. -/
def Nine (w : World) (b : Nat) (t : TypeId) (c0 c1 c2 c3 c4 c5 c6 c7 c8 : Value) : Prop := w.heap[b]? = some (.cells #[c0, c1, c2, c3, c4, c5, c6, c7, c8] t (0, 0))
theorem nine_cells {w : World} {b : Nat} {t : TypeId} {c0 c1 c2 c3 c4 c5 c6 c7 c8 : Value} (h : Nine w b t c0 c1 c2 c3 c4 c5 c6 c7 c8) :
    (w.cell? ⟨b, 0, none⟩ = some c0 ∧ w.cell? ⟨b, 1, none⟩ = some c1 ∧ w.cell? ⟨b, 2, none⟩ = some c2 ∧ w.cell? ⟨b, 3, none⟩ = some c3 ∧ w.cell? ⟨b, 4, none⟩ = some c4) ∧ (w.cell? ⟨b, 5, none⟩ = some c5 ∧ w.cell? ⟨b, 6, none⟩ = some c6 ∧ w.cell? ⟨b, 7, none⟩ = some c7 ∧ w.cell? ⟨b, 8, none⟩ = some c8) ∧ ∀ k, w.frozen? ⟨b, k, none⟩ = false := by
  unfold Nine at h
  refine ⟨⟨?_, ?_, ?_, ?_, ?_⟩, ⟨?_, ?_, ?_, ?_⟩, fun k => ?_⟩
  all_goals simp [World.cell?, World.frozen?, h]
theorem nine_below {w w' : World} {b : Nat} {t : TypeId} {c0 c1 c2 c3 c4 c5 c6 c7 c8 : Value} (h : Nine w b t c0 c1 c2 c3 c4 c5 c6 c7 c8) (hb : Below w.heap.size w w') : Nine w' b t c0 c1 c2 c3 c4 c5 c6 c7 c8 := (hb.block b (lt_of_block h)).trans h
theorem nine_new (w : World) (H : Hp) (vr vo vm vs : Value) : Nine (w.alloc (hpb H vr vo vm vs)) w.heap.size 31 (.int .i64 H.half) (.int .i64 H.old) vr (.int .i64 H.side) (.int .i64 H.top) vo vm vs (.int .i64 H.seed) := heap_alloc_new _ _
/-- The heap may be read. -/
def HpAt (w : World) (vr vo vm vs : Value) (H : Hp) : Prop := IntsAt w vr H.row ∧ IntsAt w vo H.roots ∧ IntsAt w vm H.mourned ∧ IntsAt w vs H.seen
theorem hpAt_below {w w' : World} {vr vo vm vs : Value} {H : Hp} (h : HpAt w vr vo vm vs H) (hb : Below w.heap.size w w') : HpAt w' vr vo vm vs H := ⟨intsAt_below h.1 hb, intsAt_below h.2.1 hb, intsAt_below h.2.2.1 hb, intsAt_below h.2.2.2 hb⟩
theorem hpAt_slices {w : World} {vr vo vm vs : Value} {H : Hp} (h : HpAt w vr vo vm vs H) : ∃ a1 c1 a2 c2 a3 c3 a4 c4, vr = .slice a1 H.row.length c1 ∧ vo = .slice a2 H.roots.length c2 ∧ vm = .slice a3 H.mourned.length c3 ∧ vs = .slice a4 H.seen.length c4 := by
  obtain ⟨⟨a1, c1, e1, _⟩, ⟨a2, c2, e2, _⟩, ⟨a3, c3, e3, _⟩, ⟨a4, c4, e4, _⟩⟩ := h
  exact ⟨a1, c1, a2, c2, a3, c3, a4, c4, e1, e2, e3, e4⟩
/-- How many numbers it holds. -/
def hpSize (H : Hp) : Nat := H.row.length + H.roots.length + H.mourned.length + H.seen.length
/-- Places of the row. -/
def Plc (H : Hp) (ps : List Int) : Prop := ∀ p ∈ ps, ∃ j : Nat, p = j ∧ j < H.row.length
end Go.Proofs.YtmhbdmmpmagbkaaGreat.hp
