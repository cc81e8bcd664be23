/-
  Lists of refs (a number and a text) in memory: what may be read of one (RefsAt); a row of the call's own (OwnR).
  Made from the template Ents.
-/
import Derived.Test.YthldaifnlnbpgaaInts
namespace Go.Proofs.Ythldaifnlnbpgaa.gr
open Go.RowKit rows
set_option maxRecDepth 100000

theorem bel_drewN {B n : Nat} {w w' : World} (h : Below B w w') : Below B w (w'.drewN n) := ⟨h.os, h.tape, h.output, h.size, h.block⟩

/-- An entry: its Index, its Name. -/
abbrev Rf := Int × Int
abbrev refD : Rf := (0, 0)
/-- The refs as cells. -/
def cellsR : List Rf → List Value
  | [] => []
  | e :: es => .int .i64 e.1 :: .int .i64 e.2 :: cellsR es
theorem cellsR_length : ∀ es : List Rf, (cellsR es).length = es.length * 2
  | [] => rfl
  | _ :: es => by simp [cellsR, cellsR_length es]; omega
theorem cellsR_append : ∀ es fs : List Rf, cellsR (es ++ fs) = cellsR es ++ cellsR fs
  | [], _ => rfl
  | _ :: es, fs => by simp [cellsR, cellsR_append es fs]
theorem cellsR_at : ∀ (es : List Rf) (i : Nat), i < es.length → (cellsR es)[i * 2]? = some (.int .i64 (es.getD i refD).1) ∧ (cellsR es)[i * 2 + 1]? = some (.int .i64 (es.getD i refD).2)
  | [], _, h => by simp at h
  | e :: es, 0, _ => by simp [cellsR]
  | e :: es, i + 1, h => by
    have := cellsR_at es i (by simpa using h)
    rw [show (i + 1) * 2 = i * 2 + 1 + 1 by omega]
    simpa [cellsR] using this
theorem cellsR_one : ∀ es : List Rf, ∀ v ∈ cellsR es, v.oneCell' = true
  | [], v, h => by simp [cellsR] at h
  | e :: es, v, h => by
    simp only [cellsR, List.mem_cons] at h
    rcases h with rfl | rfl | h
    · rfl
    · rfl
    · exact cellsR_one es v h

/-- The value v is a slice whose refs are es. -/
def RefsAt (w : World) (v : Value) (es : List Rf) : Prop :=
  ∃ a cap, v = .slice a es.length cap ∧ es.length ≤ cap ∧ cap ≤ maxLen ∧ (a = none → cap = 0) ∧
    (0 < es.length → ∃ b off, a = some ⟨b, off, none⟩ ∧ b < w.heap.size ∧ ∀ i, i < es.length → w.cell? ⟨b, off + i * 2, none⟩ = some (.int .i64 (es.getD i refD).1) ∧ w.cell? ⟨b, off + i * 2 + 1, none⟩ = some (.int .i64 (es.getD i refD).2))

theorem refsAt_below {w w' : World} {v : Value} {es : List Rf} (h : RefsAt w v es) (hb : Below w.heap.size w w') : RefsAt w' v es := by
  obtain ⟨a, cap, rfl, h1, h2, h4, h3⟩ := h
  refine ⟨a, cap, rfl, h1, h2, h4, fun hp => ?_⟩
  obtain ⟨b, off, rfl, hlt, hc⟩ := h3 hp
  exact ⟨b, off, rfl, Nat.lt_of_lt_of_le hlt hb.size, fun i hi => ⟨(hb.cell (p := ⟨b, off + i * 2, none⟩) hlt).trans (hc i hi).1, (hb.cell (p := ⟨b, off + i * 2 + 1, none⟩) hlt).trans (hc i hi).2⟩⟩
theorem refsAt_drewN {w : World} {n : Nat} {v : Value} {es : List Rf} (h : RefsAt w v es) : RefsAt (w.drewN n) v es := h

/-- A row that lies at the head of a block of its own. -/
def OwnR (w : World) (base : Nat) (v : Value) (es : List Rf) : Prop := w.ownsRow base 47 2 v es.length (cellsR es)
theorem ownR_refs {w : World} {base : Nat} {v : Value} {es : List Rf} (h : OwnR w base v es) : RefsAt w v es := by
  have h' := h
  obtain ⟨_, ⟨rfl, hn⟩ | ⟨g, cap, cur, rfl, hg, hh, hle, hm, hs, ht⟩⟩ := h
  · have : es = [] := by simpa using hn
    subst this
    exact ⟨none, 0, rfl, by simp, by decide, fun _ => rfl, fun hp => absurd hp (by simp)⟩
  · refine ⟨_, cap, rfl, hle, hm, fun h => (by cases h), fun hp => ⟨g, 0, rfl, lt_of_block hh, fun i hi => ?_⟩⟩
    have c := cellsR_at es i hi
    have a0 := World.ownsRow.cellAt h' (i * 2) (by omega)
    have a1 := World.ownsRow.cellAt h' (i * 2 + 1) (by omega)
    rw [Nat.zero_add, a0, a1]
    exact c
theorem ownR_base {w : World} {base base' : Nat} {v : Value} {es : List Rf} (h : OwnR w base v es) (hb : base' ≤ base) : OwnR w base' v es := by
  obtain ⟨h0, ⟨h1, h2⟩ | ⟨g, cap, cur, h1, hg, hh, hle, hm, hs, ht⟩⟩ := h
  · exact ⟨h0, .inl ⟨h1, h2⟩⟩
  · exact ⟨h0, .inr ⟨g, cap, cur, h1, Nat.le_trans hb hg, hh, hle, hm, hs, ht⟩⟩
theorem ownR_below {w w' : World} {base : Nat} {v : Value} {es : List Rf} (h : OwnR w base v es) (hb : Below w.heap.size w w') : OwnR w' base v es := by
  obtain ⟨h0, ⟨h1, h2⟩ | ⟨g, cap, cur, h1, hg, hh, hle, hm, hs, ht⟩⟩ := h
  · exact ⟨h0, .inl ⟨h1, h2⟩⟩
  · exact ⟨h0, .inr ⟨g, cap, cur, h1, hg, (hb.block g (lt_of_block hh)).trans hh, hle, hm, hs, ht⟩⟩
theorem ownR_drewN {w : World} {base n : Nat} {v : Value} {es : List Rf} (h : OwnR w base v es) : OwnR (w.drewN n) base v es := h
theorem ownR_nil (w : World) (base : Nat) : OwnR w base (.slice none 0 0) [] := World.ownsRow_nil _ _ _ _

/-- One block that holds just these refs. -/
def FullR (w : World) (b : Nat) (es : List Rf) : Prop := w.heap[b]? = some (.cells (cellsR es).toArray 47 (0, 0))
theorem fullR_own {w : World} {b base : Nat} {es : List Rf} (h : FullR w b es) (hb : base ≤ b) (hm : es.length ≤ maxLen) : OwnR w base (.slice (some ⟨b, 0, none⟩) es.length es.length) es :=
  ⟨cellsR_length es, .inr ⟨b, es.length, _, rfl, hb, h, Nat.le_refl _, hm, by simp [cellsR_length], List.take_of_length_le (by simp [cellsR_length])⟩⟩
theorem fullR_below {w w' : World} {b : Nat} {es : List Rf} (h : FullR w b es) (hb : Below w.heap.size w w') : FullR w' b es := (hb.block b (lt_of_block h)).trans h

/-- An entry as a value. -/
abbrev rv (e : Rf) : Value := .agg #[.int .i64 e.1, .int .i64 e.2]
/-- The block in which an entry lies. -/
abbrev rb (e : Rf) : Obj := .cells #[.int .i64 e.1, .int .i64 e.2] 47
end Go.Proofs.Ythldaifnlnbpgaa.gr
