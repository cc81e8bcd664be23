/-
  Lists of 64-bit numbers in memory: what may be read of one (IntsAt); a row of the call's own (Own).
  Made from the template Ints.
-/
import Derived.Test.YthldaifnlnbpgaaRows
import Derived.WalkKit
import Derived.WalkSpells
import Derived.WalkLawsBesides
import Derived.OpenShut
import Derived.Below
import Derived.LoopTactic
import Derived.LoopN
import Derived.Deep.QuietTactic
import Derived.BigQuiet
namespace Go.Proofs.Ythldaifnlnbpgaa.rows
open Go.RowKit

/-- A number that an int64 holds. -/
def I64 (i : Int) : Prop := -9223372036854775808 ≤ i ∧ i ≤ 9223372036854775807
theorem i64_of_wf {i : Int} (h : (Lit.int .i64 i).wf = true) : I64 i := by
  simpa [I64, Lit.wf, IntKind.min, IntKind.max, IntKind.signed, IntKind.bits] using h

/-- The numbers as cells. -/
abbrev cellsOf (xs : List Int) : List Value := xs.map (Value.int .i64)

/-- The value v is a slice whose numbers are xs. -/
def IntsAt (w : World) (v : Value) (xs : List Int) : Prop :=
  ∃ a cap, v = .slice a xs.length cap ∧ xs.length ≤ cap ∧ cap ≤ maxLen ∧ (a = none → cap = 0) ∧
    (0 < xs.length → ∃ b off, a = some ⟨b, off, none⟩ ∧ b < w.heap.size ∧ ∀ i, i < xs.length → w.cell? ⟨b, off + i, none⟩ = some (.int .i64 (xs.getD i 0)))

theorem intsAt_below {w w' : World} {v : Value} {xs : List Int} (h : IntsAt w v xs) (hb : Below w.heap.size w w') : IntsAt w' v xs := by
  obtain ⟨a, cap, rfl, h1, h2, h4, h3⟩ := h
  refine ⟨a, cap, rfl, h1, h2, h4, fun hp => ?_⟩
  obtain ⟨b, off, rfl, hlt, hc⟩ := h3 hp
  exact ⟨b, off, rfl, Nat.lt_of_lt_of_le hlt hb.size, fun i hi => (hb.cell (p := ⟨b, off + i, none⟩) hlt).trans (hc i hi)⟩

/-- A row that lies at the head of a block of its own. -/
def Own (w : World) (base : Nat) (v : Value) (xs : List Int) : Prop := w.ownsRow base 2 1 v xs.length (cellsOf xs)

theorem own_ints {w : World} {base : Nat} {v : Value} {xs : List Int} (h : Own w base v xs) : IntsAt w v xs := by
  have h' := h
  obtain ⟨_, ⟨rfl, hn⟩ | ⟨g, cap, cur, rfl, hg, hh, hle, hm, hs, ht⟩⟩ := h
  · have : xs = [] := by simpa using hn
    subst this
    exact ⟨none, 0, rfl, by simp, by decide, fun _ => rfl, fun hp => absurd hp (by simp)⟩
  · refine ⟨_, cap, rfl, hle, hm, fun h => (by cases h), fun hp => ⟨g, 0, rfl, lt_of_block hh, fun i hi => ?_⟩⟩
    have := World.ownsRow.cellAt h' i (by omega)
    rw [Nat.zero_add, this]
    simp [List.getD_eq_getElem?_getD, List.getElem?_eq_getElem hi]

theorem own_base {w : World} {base base' : Nat} {v : Value} {xs : List Int} (h : Own w base v xs) (hb : base' ≤ base) : Own w base' v xs := by
  obtain ⟨h0, ⟨h1, h2⟩ | ⟨g, cap, cur, h1, hg, hh, hle, hm, hs, ht⟩⟩ := h
  · exact ⟨h0, .inl ⟨h1, h2⟩⟩
  · exact ⟨h0, .inr ⟨g, cap, cur, h1, Nat.le_trans hb hg, hh, hle, hm, hs, ht⟩⟩

/-- What is owned stays where only what lies below or other rows are as they were. -/
theorem own_below {w w' : World} {base : Nat} {v : Value} {xs : List Int} (h : Own w base v xs) (hb : Below w.heap.size w w') : Own w' base v xs := by
  obtain ⟨h0, ⟨h1, h2⟩ | ⟨g, cap, cur, h1, hg, hh, hle, hm, hs, ht⟩⟩ := h
  · exact ⟨h0, .inl ⟨h1, h2⟩⟩
  · exact ⟨h0, .inr ⟨g, cap, cur, h1, hg, (hb.block g (lt_of_block hh)).trans hh, hle, hm, hs, ht⟩⟩

/-- One block that holds just these numbers. -/
def Full (w : World) (b : Nat) (xs : List Int) : Prop := w.heap[b]? = some (.cells (cellsOf xs).toArray 2 (0, 0))

theorem full_own {w : World} {b base : Nat} {xs : List Int} (h : Full w b xs) (hb : base ≤ b) (hm : xs.length ≤ maxLen) : Own w base (.slice (some ⟨b, 0, none⟩) xs.length xs.length) xs :=
  ⟨by simp, .inr ⟨b, xs.length, _, rfl, hb, h, Nat.le_refl _, hm, by simp, List.take_of_length_le (by simp)⟩⟩

theorem own_full {w : World} {base g n : Nat} {cs : List Value} {xs : List Int} (h : w.ownsRow base 2 1 (.slice (some ⟨g, 0, none⟩) n n) n cs) (hcs : cs = cellsOf xs) : Full w g xs := by
  subst hcs
  obtain ⟨_, ⟨h1, _⟩ | ⟨g', cap, cur, h1, hg, hh, hle, hm, hs, ht⟩⟩ := h
  · cases h1
  · injection h1 with e1 e2 e3
    injection e1 with e1
    injection e1 with e1
    subst e1 e3
    unfold Full
    rw [hh]
    rw [List.take_of_length_le (by simpa using Nat.le_of_eq hs)] at ht
    rw [← ht]

theorem full_cell {w : World} {b : Nat} {xs : List Int} (h : Full w b xs) {i : Nat} (hi : i < xs.length) : w.cell? ⟨b, i, none⟩ = some (.int .i64 (xs.getD i 0)) := by
  unfold Full at h
  simp [World.cell?, h, List.getD_eq_getElem?_getD, List.getElem?_eq_getElem hi]
theorem full_frozen {w : World} {b : Nat} {xs : List Int} (h : Full w b xs) (i : Nat) : w.frozen? ⟨b, i, none⟩ = false := by
  unfold Full at h
  simp [World.frozen?, h]
theorem block_setCell {w : World} {b : Nat} {c : Array Value} {t : TypeId} (h : w.heap[b]? = some (.cells c t (0, 0))) (k : Nat) (u : Value) :
    (w.setCell ⟨b, k, none⟩ u).heap[b]? = some (.cells (c.setIfInBounds k u) t (0, 0)) := by
  have hlt := lt_of_block h
  have h' : w.heap[b] = .cells c t (0, 0) := by simpa [Array.getElem?_eq_getElem hlt] using h
  show (w.heap.modify b _)[b]? = _
  rw [Array.getElem?_eq_getElem (by simpa using hlt), Array.getElem_modify_self, h']
  rfl
theorem full_set {w : World} {b : Nat} {xs : List Int} (h : Full w b xs) (i : Nat) (x : Int) : Full (w.setCell ⟨b, i, none⟩ (.int .i64 x)) b (xs.set i x) := by
  unfold Full
  rw [block_setCell h i]
  simp [cellsOf, List.map_set]

theorem info : (Try.prog.info? 2).map (fun i => (i.zero, i.size, i.bytes)) = some (some (.int .i64 0), 1, 8) := by kernel_rfl

theorem take_succ_eq {xs ys : List Int} {k : Nat} (h : xs.take k = ys.take k) (hx : k < xs.length) (hy : k < ys.length) (e : xs.getD k 0 = ys.getD k 0) : xs.take (k + 1) = ys.take (k + 1) := by
  rw [List.take_succ_eq_append_getElem hx, List.take_succ_eq_append_getElem hy, h]
  simp [List.getD_eq_getElem?_getD, List.getElem?_eq_getElem hx, List.getElem?_eq_getElem hy] at e
  rw [e]

/-- What an append reads of a list. -/
theorem ints_news {w : World} {ad : Addr} {n cap : Nat} {xs : List Int} (h : IntsAt w (.slice (some ad) n cap) xs) : ∀ j u, (cellsOf xs)[j]? = some u → w.cell? (ad.add j) = some u := by
  obtain ⟨a, cap', e, h1, h2, h4, h3⟩ := h
  intro j u hj
  have hlt : j < xs.length := by
    have := List.getElem?_eq_some_iff.1 hj
    simpa using this.1
  obtain ⟨b, off, rfl, _, hc⟩ := h3 (by omega)
  injection e with e1 e2 e3
  injection e1 with e1
  subst e1
  have := hc j hlt
  simp [List.getD_eq_getElem?_getD, List.getElem?_eq_getElem hlt] at this
  simp [cellsOf, List.getElem?_eq_getElem hlt] at hj
  rw [← hj]
  by_cases h0 : j = 0
  · subst h0; simpa [Addr.add] using this
  · simpa [Addr.add, h0] using this

end Go.Proofs.Ythldaifnlnbpgaa.rows
