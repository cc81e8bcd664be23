/-
  Lists of 64-bit numbers in memory: what may be read of one (IntsAt); a row of the call's own (Own). Lists of refs (a number and a text) in memory: what may be read of one (RefsAt); a row of the call's own (OwnR). What the laws do with lists of refs: made anew, held against one another. Marks written into lists of refs, and found again; how much a list of refs holds. Lists of objects in memory: four numbers and a list of refs each. The laws' own helpers on lists of numbers: a copy, a comparison, marks written and found again. 'append([]int64{}, row...)': a copy of a row, nil or not, as a law for the walk.
-/
import Derived.Test.YtcboojhabolcbaaGreatDoorRows
import Derived.WalkKit
import Derived.WalkSpells
import Derived.WalkLawsBesides
import Derived.OpenShut
import Derived.Below
import Derived.LoopTactic
import Derived.LoopN
import Derived.Deep.QuietTactic
import Derived.BigQuiet
import Derived.Deep.RegionLaw
import Derived.Laws.AppendOwnNone
namespace Go.Proofs.YtcboojhabolcbaaGreatDoor.rows
open Go.RowKit

/-- A number that an int64 holds. -/
def I64 (i : Int) : Prop := -9223372036854775808 ≤ i ∧ i ≤ 9223372036854775807
theorem i64_of_wf {i : Int} (h : (Lit.int .i64 i).wf = true) : I64 i := by
  simpa [I64, Lit.wf, IntKind.min, IntKind.max, IntKind.signed, IntKind.bits] using h

/-- The numbers as cells. -/
abbrev cellsOf (xs : List Int) : List Value := xs.map (Value.int .i64)

/-- The value v is a slice whose numbers are xs. -/
def IntsAt (w : World) (v : Value) (xs : List Int) : Prop :=
  ∃ a cap, v = .slice a xs.length cap ∧ xs.length ≤ cap ∧ cap ≤ maxLen ∧ (a = none → cap = 0) ∧
    (0 < xs.length → ∃ b off, a = some ⟨b, off, none⟩ ∧ b < w.heap.size ∧ ∀ i, i < xs.length → w.cell? ⟨b, off + i, none⟩ = some (.int .i64 (xs.getD i 0)))

theorem intsAt_below {w w' : World} {v : Value} {xs : List Int} (h : IntsAt w v xs) (hb : Below w.heap.size w w') : IntsAt w' v xs := by
  obtain ⟨a, cap, rfl, h1, h2, h4, h3⟩ := h
  refine ⟨a, cap, rfl, h1, h2, h4, fun hp => ?_⟩
  obtain ⟨b, off, rfl, hlt, hc⟩ := h3 hp
  exact ⟨b, off, rfl, Nat.lt_of_lt_of_le hlt hb.size, fun i hi => (hb.cell (p := ⟨b, off + i, none⟩) hlt).trans (hc i hi)⟩

/-- A row that lies at the head of a block of its own. -/
def Own (w : World) (base : Nat) (v : Value) (xs : List Int) : Prop := w.ownsRow base 2 1 v xs.length (cellsOf xs)

theorem own_ints {w : World} {base : Nat} {v : Value} {xs : List Int} (h : Own w base v xs) : IntsAt w v xs := by
  have h' := h
  obtain ⟨_, ⟨rfl, hn⟩ | ⟨g, cap, cur, rfl, hg, hh, hle, hm, hs, ht⟩⟩ := h
  · have : xs = [] := by simpa using hn
    subst this
    exact ⟨none, 0, rfl, by simp, by decide, fun _ => rfl, fun hp => absurd hp (by simp)⟩
  · refine ⟨_, cap, rfl, hle, hm, fun h => (by cases h), fun hp => ⟨g, 0, rfl, lt_of_block hh, fun i hi => ?_⟩⟩
    have := World.ownsRow.cellAt h' i (by omega)
    rw [Nat.zero_add, this]
    simp [List.getD_eq_getElem?_getD, List.getElem?_eq_getElem hi]

theorem own_base {w : World} {base base' : Nat} {v : Value} {xs : List Int} (h : Own w base v xs) (hb : base' ≤ base) : Own w base' v xs := by
  obtain ⟨h0, ⟨h1, h2⟩ | ⟨g, cap, cur, h1, hg, hh, hle, hm, hs, ht⟩⟩ := h
  · exact ⟨h0, .inl ⟨h1, h2⟩⟩
  · exact ⟨h0, .inr ⟨g, cap, cur, h1, Nat.le_trans hb hg, hh, hle, hm, hs, ht⟩⟩

/-- What is owned stays where only what lies below or other rows are as they were. -/
theorem own_below {w w' : World} {base : Nat} {v : Value} {xs : List Int} (h : Own w base v xs) (hb : Below w.heap.size w w') : Own w' base v xs := by
  obtain ⟨h0, ⟨h1, h2⟩ | ⟨g, cap, cur, h1, hg, hh, hle, hm, hs, ht⟩⟩ := h
  · exact ⟨h0, .inl ⟨h1, h2⟩⟩
  · exact ⟨h0, .inr ⟨g, cap, cur, h1, hg, (hb.block g (lt_of_block hh)).trans hh, hle, hm, hs, ht⟩⟩

/-- One block that holds just these numbers. -/
def Full (w : World) (b : Nat) (xs : List Int) : Prop := w.heap[b]? = some (.cells (cellsOf xs).toArray 2 (0, 0))

theorem full_own {w : World} {b base : Nat} {xs : List Int} (h : Full w b xs) (hb : base ≤ b) (hm : xs.length ≤ maxLen) : Own w base (.slice (some ⟨b, 0, none⟩) xs.length xs.length) xs :=
  ⟨by simp, .inr ⟨b, xs.length, _, rfl, hb, h, Nat.le_refl _, hm, by simp, List.take_of_length_le (by simp)⟩⟩

theorem own_full {w : World} {base g n : Nat} {cs : List Value} {xs : List Int} (h : w.ownsRow base 2 1 (.slice (some ⟨g, 0, none⟩) n n) n cs) (hcs : cs = cellsOf xs) : Full w g xs := by
  subst hcs
  obtain ⟨_, ⟨h1, _⟩ | ⟨g', cap, cur, h1, hg, hh, hle, hm, hs, ht⟩⟩ := h
  · cases h1
  · injection h1 with e1 e2 e3
    injection e1 with e1
    injection e1 with e1
    subst e1 e3
    unfold Full
    rw [hh]
    rw [List.take_of_length_le (by simpa using Nat.le_of_eq hs)] at ht
    rw [← ht]

theorem full_cell {w : World} {b : Nat} {xs : List Int} (h : Full w b xs) {i : Nat} (hi : i < xs.length) : w.cell? ⟨b, i, none⟩ = some (.int .i64 (xs.getD i 0)) := by
  unfold Full at h
  simp [World.cell?, h, List.getD_eq_getElem?_getD, List.getElem?_eq_getElem hi]
theorem full_frozen {w : World} {b : Nat} {xs : List Int} (h : Full w b xs) (i : Nat) : w.frozen? ⟨b, i, none⟩ = false := by
  unfold Full at h
  simp [World.frozen?, h]
theorem block_setCell {w : World} {b : Nat} {c : Array Value} {t : TypeId} (h : w.heap[b]? = some (.cells c t (0, 0))) (k : Nat) (u : Value) :
    (w.setCell ⟨b, k, none⟩ u).heap[b]? = some (.cells (c.setIfInBounds k u) t (0, 0)) := by
  have hlt := lt_of_block h
  have h' : w.heap[b] = .cells c t (0, 0) := by simpa [Array.getElem?_eq_getElem hlt] using h
  show (w.heap.modify b _)[b]? = _
  rw [Array.getElem?_eq_getElem (by simpa using hlt), Array.getElem_modify_self, h']
  rfl
theorem full_set {w : World} {b : Nat} {xs : List Int} (h : Full w b xs) (i : Nat) (x : Int) : Full (w.setCell ⟨b, i, none⟩ (.int .i64 x)) b (xs.set i x) := by
  unfold Full
  rw [block_setCell h i]
  simp [cellsOf, List.map_set]

theorem info : (Tryz.prog.info? 2).map (fun i => (i.zero, i.size, i.bytes)) = some (some (.int .i64 0), 1, 8) := by kernel_rfl

theorem take_succ_eq {xs ys : List Int} {k : Nat} (h : xs.take k = ys.take k) (hx : k < xs.length) (hy : k < ys.length) (e : xs.getD k 0 = ys.getD k 0) : xs.take (k + 1) = ys.take (k + 1) := by
  rw [List.take_succ_eq_append_getElem hx, List.take_succ_eq_append_getElem hy, h]
  simp [List.getD_eq_getElem?_getD, List.getElem?_eq_getElem hx, List.getElem?_eq_getElem hy] at e
  rw [e]

/-- What an append reads of a list. -/
theorem ints_news {w : World} {ad : Addr} {n cap : Nat} {xs : List Int} (h : IntsAt w (.slice (some ad) n cap) xs) : ∀ j u, (cellsOf xs)[j]? = some u → w.cell? (ad.add j) = some u := by
  obtain ⟨a, cap', e, h1, h2, h4, h3⟩ := h
  intro j u hj
  have hlt : j < xs.length := by
    have := List.getElem?_eq_some_iff.1 hj
    simpa using this.1
  obtain ⟨b, off, rfl, _, hc⟩ := h3 (by omega)
  injection e with e1 e2 e3
  injection e1 with e1
  subst e1
  have := hc j hlt
  simp [List.getD_eq_getElem?_getD, List.getElem?_eq_getElem hlt] at this
  simp [cellsOf, List.getElem?_eq_getElem hlt] at hj
  rw [← hj]
  by_cases h0 : j = 0
  · subst h0; simpa [Addr.add] using this
  · simpa [Addr.add, h0] using this

end Go.Proofs.YtcboojhabolcbaaGreatDoor.rows
namespace Go.Proofs.YtcboojhabolcbaaGreatDoor.gr
open Go.RowKit rows
set_option maxRecDepth 100000

theorem bel_drewN {B n : Nat} {w w' : World} (h : Below B w w') : Below B w (w'.drewN n) := ⟨h.os, h.tape, h.output, h.size, h.block⟩

/-- An entry: its Index, its Name. -/
abbrev Rf := Int × Int
abbrev refD : Rf := (0, 0)
/-- The refs as cells. -/
def cellsR : List Rf → List Value
  | [] => []
  | e :: es => .int .i64 e.1 :: .int .i64 e.2 :: cellsR es
theorem cellsR_length : ∀ es : List Rf, (cellsR es).length = es.length * 2
  | [] => rfl
  | _ :: es => by simp [cellsR, cellsR_length es]; omega
theorem cellsR_append : ∀ es fs : List Rf, cellsR (es ++ fs) = cellsR es ++ cellsR fs
  | [], _ => rfl
  | _ :: es, fs => by simp [cellsR, cellsR_append es fs]
theorem cellsR_at : ∀ (es : List Rf) (i : Nat), i < es.length → (cellsR es)[i * 2]? = some (.int .i64 (es.getD i refD).1) ∧ (cellsR es)[i * 2 + 1]? = some (.int .i64 (es.getD i refD).2)
  | [], _, h => by simp at h
  | e :: es, 0, _ => by simp [cellsR]
  | e :: es, i + 1, h => by
    have := cellsR_at es i (by simpa using h)
    rw [show (i + 1) * 2 = i * 2 + 1 + 1 by omega]
    simpa [cellsR] using this
theorem cellsR_one : ∀ es : List Rf, ∀ v ∈ cellsR es, v.oneCell' = true
  | [], v, h => by simp [cellsR] at h
  | e :: es, v, h => by
    simp only [cellsR, List.mem_cons] at h
    rcases h with rfl | rfl | h
    · rfl
    · rfl
    · exact cellsR_one es v h

/-- The value v is a slice whose refs are es. -/
def RefsAt (w : World) (v : Value) (es : List Rf) : Prop :=
  ∃ a cap, v = .slice a es.length cap ∧ es.length ≤ cap ∧ cap ≤ maxLen ∧ (a = none → cap = 0) ∧
    (0 < es.length → ∃ b off, a = some ⟨b, off, none⟩ ∧ b < w.heap.size ∧ ∀ i, i < es.length → w.cell? ⟨b, off + i * 2, none⟩ = some (.int .i64 (es.getD i refD).1) ∧ w.cell? ⟨b, off + i * 2 + 1, none⟩ = some (.int .i64 (es.getD i refD).2))

theorem refsAt_below {w w' : World} {v : Value} {es : List Rf} (h : RefsAt w v es) (hb : Below w.heap.size w w') : RefsAt w' v es := by
  obtain ⟨a, cap, rfl, h1, h2, h4, h3⟩ := h
  refine ⟨a, cap, rfl, h1, h2, h4, fun hp => ?_⟩
  obtain ⟨b, off, rfl, hlt, hc⟩ := h3 hp
  exact ⟨b, off, rfl, Nat.lt_of_lt_of_le hlt hb.size, fun i hi => ⟨(hb.cell (p := ⟨b, off + i * 2, none⟩) hlt).trans (hc i hi).1, (hb.cell (p := ⟨b, off + i * 2 + 1, none⟩) hlt).trans (hc i hi).2⟩⟩
theorem refsAt_drewN {w : World} {n : Nat} {v : Value} {es : List Rf} (h : RefsAt w v es) : RefsAt (w.drewN n) v es := h

/-- A row that lies at the head of a block of its own. -/
def OwnR (w : World) (base : Nat) (v : Value) (es : List Rf) : Prop := w.ownsRow base 31 2 v es.length (cellsR es)
theorem ownR_refs {w : World} {base : Nat} {v : Value} {es : List Rf} (h : OwnR w base v es) : RefsAt w v es := by
  have h' := h
  obtain ⟨_, ⟨rfl, hn⟩ | ⟨g, cap, cur, rfl, hg, hh, hle, hm, hs, ht⟩⟩ := h
  · have : es = [] := by simpa using hn
    subst this
    exact ⟨none, 0, rfl, by simp, by decide, fun _ => rfl, fun hp => absurd hp (by simp)⟩
  · refine ⟨_, cap, rfl, hle, hm, fun h => (by cases h), fun hp => ⟨g, 0, rfl, lt_of_block hh, fun i hi => ?_⟩⟩
    have c := cellsR_at es i hi
    have a0 := World.ownsRow.cellAt h' (i * 2) (by omega)
    have a1 := World.ownsRow.cellAt h' (i * 2 + 1) (by omega)
    rw [Nat.zero_add, a0, a1]
    exact c
theorem ownR_base {w : World} {base base' : Nat} {v : Value} {es : List Rf} (h : OwnR w base v es) (hb : base' ≤ base) : OwnR w base' v es := by
  obtain ⟨h0, ⟨h1, h2⟩ | ⟨g, cap, cur, h1, hg, hh, hle, hm, hs, ht⟩⟩ := h
  · exact ⟨h0, .inl ⟨h1, h2⟩⟩
  · exact ⟨h0, .inr ⟨g, cap, cur, h1, Nat.le_trans hb hg, hh, hle, hm, hs, ht⟩⟩
theorem ownR_below {w w' : World} {base : Nat} {v : Value} {es : List Rf} (h : OwnR w base v es) (hb : Below w.heap.size w w') : OwnR w' base v es := by
  obtain ⟨h0, ⟨h1, h2⟩ | ⟨g, cap, cur, h1, hg, hh, hle, hm, hs, ht⟩⟩ := h
  · exact ⟨h0, .inl ⟨h1, h2⟩⟩
  · exact ⟨h0, .inr ⟨g, cap, cur, h1, hg, (hb.block g (lt_of_block hh)).trans hh, hle, hm, hs, ht⟩⟩
theorem ownR_drewN {w : World} {base n : Nat} {v : Value} {es : List Rf} (h : OwnR w base v es) : OwnR (w.drewN n) base v es := h
theorem ownR_nil (w : World) (base : Nat) : OwnR w base (.slice none 0 0) [] := World.ownsRow_nil _ _ _ _

/-- One block that holds just these refs. -/
def FullR (w : World) (b : Nat) (es : List Rf) : Prop := w.heap[b]? = some (.cells (cellsR es).toArray 31 (0, 0))
theorem fullR_own {w : World} {b base : Nat} {es : List Rf} (h : FullR w b es) (hb : base ≤ b) (hm : es.length ≤ maxLen) : OwnR w base (.slice (some ⟨b, 0, none⟩) es.length es.length) es :=
  ⟨cellsR_length es, .inr ⟨b, es.length, _, rfl, hb, h, Nat.le_refl _, hm, by simp [cellsR_length], List.take_of_length_le (by simp [cellsR_length])⟩⟩
theorem fullR_below {w w' : World} {b : Nat} {es : List Rf} (h : FullR w b es) (hb : Below w.heap.size w w') : FullR w' b es := (hb.block b (lt_of_block h)).trans h

/-- An entry as a value. -/
abbrev rv (e : Rf) : Value := .agg #[.int .i64 e.1, .int .i64 e.2]
/-- The block in which an entry lies. -/
abbrev rb (e : Rf) : Obj := .cells #[.int .i64 e.1, .int .i64 e.2] 31
end Go.Proofs.YtcboojhabolcbaaGreatDoor.gr
namespace Go.Proofs.YtcboojhabolcbaaGreatDoor.gr
open Go.RowKit rows
set_option maxRecDepth 100000

theorem infoR : (Tryz.prog.info? 31).map (fun i => (i.zero, i.size, i.bytes)) = some (some (.agg #[.int .i64 0, .int .i64 0]), 2, 16) := by kernel_rfl

theorem cellsR_set : ∀ (es : List Rf) (i : Nat) (e : Rf), ((cellsR es).set (i * 2) (.int .i64 e.1)).set (i * 2 + 1) (.int .i64 e.2) = cellsR (es.set i e)
  | [], i, e => by simp [cellsR]
  | d :: es, 0, e => by simp [cellsR]
  | d :: es, i + 1, e => by
    rw [show (i + 1) * 2 = i * 2 + 1 + 1 by omega]
    simp [cellsR, cellsR_set es i e]
theorem fullR_set {w : World} {b : Nat} {es : List Rf} (h : FullR w b es) (i : Nat) (e : Rf) : FullR ((w.setCell ⟨b, i * 2, none⟩ (.int .i64 e.1)).setCell ⟨b, i * 2 + 1, none⟩ (.int .i64 e.2)) b (es.set i e) := by
  have h1 := block_setCell h (i * 2) (.int .i64 e.1)
  have h2 := block_setCell h1 (i * 2 + 1) (.int .i64 e.2)
  refine h2.trans ?_
  rw [← cellsR_set es i e]
  simp
theorem fullR_cell {w : World} {b : Nat} {es : List Rf} (h : FullR w b es) {i : Nat} (hi : i < es.length) : w.cell? ⟨b, i * 2, none⟩ = some (.int .i64 (es.getD i refD).1) ∧ w.cell? ⟨b, i * 2 + 1, none⟩ = some (.int .i64 (es.getD i refD).2) := by
  have c := cellsR_at es i hi
  unfold FullR at h
  refine ⟨?_, ?_⟩
  · simp [World.cell?, h]; exact c.1
  · simp [World.cell?, h]; exact c.2
theorem fullR_frozen {w : World} {b : Nat} {es : List Rf} (h : FullR w b es) (i : Nat) : w.frozen? ⟨b, i, none⟩ = false := by
  unfold FullR at h
  simp [World.frozen?, h]
theorem setR_take {es : List Rf} {k : Nat} (h : k < es.length) : (es.take k ++ List.replicate (es.length - k) refD).set k (es.getD k refD) = es.take (k + 1) ++ List.replicate (es.length - (k + 1)) refD := by
  apply List.ext_getElem?
  intro i
  simp only [List.getElem?_set, List.getElem?_append, List.length_take, List.getElem?_take, List.getElem?_replicate, List.length_append, List.length_replicate]
  rcases Nat.lt_trichotomy i k with hi | hi | hi
  · grind
  · grind
  · grind
theorem made_refs (n : Nat) : (madeCells #[Value.int .i64 0, Value.int .i64 0] (n * 2)).toList = cellsR (List.replicate n refD) := by
  unfold madeCells
  rw [Array.toList_map, Array.toList_range]
  induction n with
  | zero => rfl
  | succ n ih =>
    rw [show (n + 1) * 2 = n * 2 + 1 + 1 by omega, List.range_succ, List.range_succ, List.replicate_succ', cellsR_append, ← ih]
    have h0 : n * 2 % 2 = 0 := by omega
    have h1 : (n * 2 + 1) % 2 = 1 := by omega
    simp [cellsR, h0, h1]

set_option maxHeartbeats 1000000 in
theorem likeRefs_same {w : World} {v1 v2 : Value} {es : List Rf} (h1 : RefsAt w v1 es) (h2 : RefsAt w v2 es) (hl : es.length ≤ 1048576) :
    Calls Tryz.prog 42 #[v1, v2] w fun e w' => e = .returned (.bool true) ∧ ∃ n, w' = w.drewN n := by
  obtain ⟨a, cap, rfl, hlc, hcm, _, hc⟩ := h1
  obtain ⟨a', cap', rfl, hlc', hcm', _, hc'⟩ := h2
  have HC : Hid _ := hc
  have HC' : Hid _ := hc'
  clear hc hc'
  go_enter Tryz.func42, Tryz.ntmps42
  go_wp2_with fail
  go_loopw [5] (fun i wr => ∃ k n : Nat, k ≤ es.length ∧ i = .int .i64 k ∧ wr = w.drewN n) (fun i _ => es.length - (intOf i).toNat)
  case atStart => exact ⟨0, 0, Nat.zero_le _, rfl, rfl⟩
  case round =>
    obtain ⟨k, n, hk, rfl, rfl⟩ := hrel
    by_cases hlt : k < es.length
    · obtain ⟨b, off, rfl, hb, hc⟩ := HC.out (by omega)
      obtain ⟨b', off', rfl, hb', hc'⟩ := HC'.out (by omega)
      have c0 := (hc k hlt).1
      have c1 := (hc k hlt).2
      have d0 := (hc' k hlt).1
      have d1 := (hc' k hlt).2
      clear hc hc' HC HC'
      generalize es.getD k refD = x at *
      obtain ⟨x, s⟩ := x
      go_wp2
      go_quiet (fail)
      go_wp2
      exact ⟨⟨k + 1, n + nq, by omega, by go_num, rfl⟩, by simp [intOf]; omega⟩
    · clear HC HC'
      go_wp2
      go_ret
      exact ⟨rfl, _, rfl⟩
end Go.Proofs.YtcboojhabolcbaaGreatDoor.gr
namespace Go.Proofs.YtcboojhabolcbaaGreatDoor.gr
open Go.RowKit rows
set_option maxRecDepth 100000

def marksR (k : Nat) (n : Nat) : List Rf := (List.range n).map (fun i : Nat => (((k + 2 * i : Nat) : Int), ((k + 2 * i + 1 : Nat) : Int)))
theorem marksR_length (k : Nat) (n : Nat) : (marksR k n).length = n := by simp [marksR]
theorem marksR_getD (k : Nat) {n i : Nat} (h : i < n) : (marksR k n).getD i refD = (((k + 2 * i : Nat) : Int), ((k + 2 * i + 1 : Nat) : Int)) := by simp [marksR, List.getD_eq_getElem?_getD, h]
theorem marksR_set {es : List Rf} {k : Nat} (k0 : Nat) (h : k < es.length) : (marksR k0 k ++ es.drop k).set k (((k0 + 2 * k : Nat) : Int), ((k0 + 2 * k + 1 : Nat) : Int)) = marksR k0 (k + 1) ++ es.drop (k + 1) := by
  apply List.ext_getElem?
  intro i
  simp only [marksR, List.getElem?_set, List.getElem?_append, List.length_map, List.length_range, List.getElem?_map, List.getElem?_drop, List.length_append, List.length_drop]
  rcases Nat.lt_trichotomy i k with hi | hi | hi
  · grind
  · grind
  · grind

theorem grown_below {w w1 w2 : World} {r : Option Nat} (h : w.grownBy w1 r) (b : Below w1.heap.size w1 w2) : w.grownBy w2 r :=
  ⟨b.os.trans h.os, b.tape.trans h.tape, b.output.trans h.output, Nat.le_trans h.size b.size, fun i hi hne => (b.block i (Nat.lt_of_lt_of_le hi h.size)).trans (h.block i hi hne)⟩
theorem grown_both {w w1 w2 : World} {r : Option Nat} (h : w.grownBy w1 r) (b : w1.grownBy w2 r) : w.grownBy w2 r :=
  ⟨b.os.trans h.os, b.tape.trans h.tape, b.output.trans h.output, Nat.le_trans h.size b.size, fun i hi hne => (b.block i (Nat.lt_of_lt_of_le hi h.size) hne).trans (h.block i hi hne)⟩
theorem row_below {w w' : World} {base size n : Nat} {t : TypeId} {v : Value} {xs : List Value} (h : w.ownsRow base t size v n xs) (hb : Below w.heap.size w w') : w'.ownsRow base t size v n xs := by
  obtain ⟨h0, ⟨h1, h2⟩ | ⟨g, cap, cur, h1, hg, hh, hle, hm, hs, ht⟩⟩ := h
  · exact ⟨h0, .inl ⟨h1, h2⟩⟩
  · exact ⟨h0, .inr ⟨g, cap, cur, h1, hg, (hb.block g (lt_of_block hh)).trans hh, hle, hm, hs, ht⟩⟩

end Go.Proofs.YtcboojhabolcbaaGreatDoor.gr
namespace Go.Proofs.YtcboojhabolcbaaGreatDoor.gr
open Go.RowKit rows
set_option maxRecDepth 100000

/-- An object. -/
structure Ob where
  id : Int
  cls : Int
  fmt : Int
  hash : Int
  slots : List Rf
/-- An object as it lies: with the value of its list of refs. -/
structure MO where
  id : Int
  cls : Int
  fmt : Int
  hash : Int
  sv : Value
  slots : List Rf
def MO.abs (m : MO) : Ob := ⟨m.id, m.cls, m.fmt, m.hash, m.slots⟩
abbrev moD : MO := ⟨0, 0, 0, 0, .slice none 0 0, []⟩
abbrev obD : Ob := ⟨0, 0, 0, 0, []⟩
theorem abs_getD (ms : List MO) (i : Nat) : (ms.map MO.abs).getD i obD = (ms.getD i moD).abs := by
  rw [List.getD_eq_getElem?_getD, List.getD_eq_getElem?_getD, List.getElem?_map]
  cases ms[i]? <;> rfl

def cellsO : List MO → List Value
  | [] => []
  | m :: ms => .int .i64 m.id :: .int .i64 m.cls :: .int .i64 m.fmt :: .int .i64 m.hash :: m.sv :: cellsO ms
theorem cellsO_length : ∀ ms : List MO, (cellsO ms).length = ms.length * 5
  | [] => rfl
  | _ :: ms => by simp [cellsO, cellsO_length ms]; omega
theorem cellsO_append : ∀ ms ns : List MO, cellsO (ms ++ ns) = cellsO ms ++ cellsO ns
  | [], _ => rfl
  | _ :: ms, ns => by simp [cellsO, cellsO_append ms ns]
theorem cellsO_at : ∀ (ms : List MO) (i : Nat), i < ms.length → (cellsO ms)[i * 5]? = some (.int .i64 (ms.getD i moD).id) ∧ (cellsO ms)[i * 5 + 1]? = some (.int .i64 (ms.getD i moD).cls) ∧ (cellsO ms)[i * 5 + 2]? = some (.int .i64 (ms.getD i moD).fmt) ∧ (cellsO ms)[i * 5 + 3]? = some (.int .i64 (ms.getD i moD).hash) ∧ (cellsO ms)[i * 5 + 4]? = some (ms.getD i moD).sv
  | [], _, h => by simp at h
  | e :: ms, 0, _ => by simp [cellsO]
  | e :: ms, i + 1, h => by
    have := cellsO_at ms i (by simpa using h)
    rw [show (i + 1) * 5 = i * 5 + 1 + 1 + 1 + 1 + 1 by omega]
    simpa [cellsO] using this
/-- Each list of refs is a slice. -/
def Slices (ms : List MO) : Prop := ∀ m ∈ ms, ∃ a n c, m.sv = .slice a n c
theorem cellsO_one : ∀ {ms : List MO}, Slices ms → ∀ v ∈ cellsO ms, v.oneCell' = true
  | [], _, v, h => by simp [cellsO] at h
  | m :: ms, hs, v, h => by
    simp only [cellsO, List.mem_cons] at h
    rcases h with rfl | rfl | rfl | rfl | rfl | h
    · rfl
    · rfl
    · rfl
    · rfl
    · obtain ⟨a, n, c, e⟩ := hs m (List.mem_cons_self ..)
      rw [e]; rfl
    · exact cellsO_one (fun m' hm => hs m' (List.mem_cons_of_mem _ hm)) v h
theorem cellsO_set : ∀ (ms : List MO) (i : Nat) (m : MO), (((((cellsO ms).set (i * 5) (.int .i64 m.id)).set (i * 5 + 1) (.int .i64 m.cls)).set (i * 5 + 2) (.int .i64 m.fmt)).set (i * 5 + 3) (.int .i64 m.hash)).set (i * 5 + 4) m.sv = cellsO (ms.set i m)
  | [], i, m => by simp [cellsO]
  | d :: ms, 0, m => by simp [cellsO]
  | d :: ms, i + 1, m => by
    rw [show (i + 1) * 5 = i * 5 + 1 + 1 + 1 + 1 + 1 by omega]
    simp [cellsO, ← cellsO_set ms i m]

/-- The row of a list of objects. -/
def OrowAt (w : World) (v : Value) (ms : List MO) : Prop :=
  ∃ a cap, v = .slice a ms.length cap ∧ ms.length ≤ cap ∧ cap ≤ maxLen ∧ (a = none → cap = 0) ∧
    (0 < ms.length → ∃ b off, a = some ⟨b, off, none⟩ ∧ b < w.heap.size ∧ ∀ i, i < ms.length → w.cell? ⟨b, off + i * 5, none⟩ = some (.int .i64 (ms.getD i moD).id) ∧ w.cell? ⟨b, off + i * 5 + 1, none⟩ = some (.int .i64 (ms.getD i moD).cls) ∧ w.cell? ⟨b, off + i * 5 + 2, none⟩ = some (.int .i64 (ms.getD i moD).fmt) ∧ w.cell? ⟨b, off + i * 5 + 3, none⟩ = some (.int .i64 (ms.getD i moD).hash) ∧ w.cell? ⟨b, off + i * 5 + 4, none⟩ = some (ms.getD i moD).sv)
theorem orowAt_below {w w' : World} {v : Value} {ms : List MO} (h : OrowAt w v ms) (hb : Below w.heap.size w w') : OrowAt w' v ms := by
  obtain ⟨a, cap, rfl, h1, h2, h4, h3⟩ := h
  refine ⟨a, cap, rfl, h1, h2, h4, fun hp => ?_⟩
  obtain ⟨b, off, rfl, hlt, hc⟩ := h3 hp
  refine ⟨b, off, rfl, Nat.lt_of_lt_of_le hlt hb.size, fun i hi => ?_⟩
  obtain ⟨c0, c1, c2, c3, c4⟩ := hc i hi
  exact ⟨(hb.cell (p := ⟨b, off + i * 5, none⟩) hlt).trans c0, (hb.cell (p := ⟨b, off + i * 5 + 1, none⟩) hlt).trans c1, (hb.cell (p := ⟨b, off + i * 5 + 2, none⟩) hlt).trans c2, (hb.cell (p := ⟨b, off + i * 5 + 3, none⟩) hlt).trans c3, (hb.cell (p := ⟨b, off + i * 5 + 4, none⟩) hlt).trans c4⟩
/-- A list of objects that may be read. -/
def ObjsAt (w : World) (v : Value) (ms : List MO) : Prop := OrowAt w v ms ∧ ∀ m ∈ ms, RefsAt w m.sv m.slots
theorem objsAt_below {w w' : World} {v : Value} {ms : List MO} (h : ObjsAt w v ms) (hb : Below w.heap.size w w') : ObjsAt w' v ms := ⟨orowAt_below h.1 hb, fun m hm => refsAt_below (h.2 m hm) hb⟩
theorem refs_slice {w : World} {v : Value} {es : List Rf} (h : RefsAt w v es) : ∃ a n c, v = .slice a n c := by
  obtain ⟨a, cap, e, _⟩ := h
  exact ⟨a, _, cap, e⟩
theorem objs_slices {w : World} {v : Value} {ms : List MO} (h : ObjsAt w v ms) : Slices ms := fun m hm => refs_slice (h.2 m hm)
theorem mem_getD {ms : List MO} {i : Nat} (h : i < ms.length) : ms.getD i moD ∈ ms := by
  rw [List.getD_eq_getElem?_getD, List.getElem?_eq_getElem h]
  exact List.getElem_mem h

/-- A row of the call's own. -/
def OwnRow (w : World) (base : Nat) (v : Value) (ms : List MO) : Prop := w.ownsRow base 47 5 v ms.length (cellsO ms)
theorem ownRow_at {w : World} {base : Nat} {v : Value} {ms : List MO} (h : OwnRow w base v ms) : OrowAt w v ms := by
  have h' := h
  obtain ⟨_, ⟨rfl, hn⟩ | ⟨g, cap, cur, rfl, hg, hh, hle, hm, hs, ht⟩⟩ := h
  · have : ms = [] := by simpa using hn
    subst this
    exact ⟨none, 0, rfl, by simp, by decide, fun _ => rfl, fun hp => absurd hp (by simp)⟩
  · refine ⟨_, cap, rfl, hle, hm, fun h => (by cases h), fun hp => ⟨g, 0, rfl, lt_of_block hh, fun i hi => ?_⟩⟩
    obtain ⟨c0, c1, c2, c3, c4⟩ := cellsO_at ms i hi
    have a0 := World.ownsRow.cellAt h' (i * 5) (by omega)
    have a1 := World.ownsRow.cellAt h' (i * 5 + 1) (by omega)
    have a2 := World.ownsRow.cellAt h' (i * 5 + 2) (by omega)
    have a3 := World.ownsRow.cellAt h' (i * 5 + 3) (by omega)
    have a4 := World.ownsRow.cellAt h' (i * 5 + 4) (by omega)
    rw [Nat.zero_add, a0, a1, a2, a3, a4]
    exact ⟨c0, c1, c2, c3, c4⟩
/-- The blocks of rows. -/
def blk (v : Value) : List Nat := v.ownBlock.toList
def blks (ms : List MO) : List Nat := ms.flatMap (fun m => blk m.sv)
/-- A list of objects of the call's own, no two rows in one block. -/
def OwnO (w : World) (base : Nat) (v : Value) (ms : List MO) : Prop := OwnRow w base v ms ∧ (∀ m ∈ ms, OwnR w base m.sv m.slots) ∧ (blk v ++ blks ms).Nodup
theorem ownO_at {w : World} {base : Nat} {v : Value} {ms : List MO} (h : OwnO w base v ms) : ObjsAt w v ms := ⟨ownRow_at h.1, fun m hm => ownR_refs (h.2.1 m hm)⟩
theorem ownO_below {w w' : World} {base : Nat} {v : Value} {ms : List MO} (h : OwnO w base v ms) (hb : Below w.heap.size w w') : OwnO w' base v ms := ⟨row_below h.1 hb, fun m hm => ownR_below (h.2.1 m hm) hb, h.2.2⟩
theorem ownRow_base {w : World} {base base' : Nat} {v : Value} {ms : List MO} (h : OwnRow w base v ms) (hb : base' ≤ base) : OwnRow w base' v ms := by
  obtain ⟨h0, ⟨h1, h2⟩ | ⟨g, cap, cur, h1, hg, hh, hle, hm, hs, ht⟩⟩ := h
  · exact ⟨h0, .inl ⟨h1, h2⟩⟩
  · exact ⟨h0, .inr ⟨g, cap, cur, h1, Nat.le_trans hb hg, hh, hle, hm, hs, ht⟩⟩
theorem ownO_base {w : World} {base base' : Nat} {v : Value} {ms : List MO} (h : OwnO w base v ms) (hb : base' ≤ base) : OwnO w base' v ms := ⟨ownRow_base h.1 hb, fun m hm => ownR_base (h.2.1 m hm) hb, h.2.2⟩

/-- Nothing but the blocks S has changed of what there was. -/
structure Ch (S : List Nat) (w w' : World) : Prop where
  os : w'.os = w.os
  tape : w'.tape = w.tape
  output : w'.output = w.output
  size : w.heap.size ≤ w'.heap.size
  block : ∀ k, k < w.heap.size → k ∉ S → w'.heap[k]? = w.heap[k]?
theorem Ch.refl (S : List Nat) (w : World) : Ch S w w := ⟨rfl, rfl, rfl, Nat.le_refl _, fun _ _ _ => rfl⟩
theorem Ch.trans {S : List Nat} {a b c : World} (h : Ch S a b) (k : Ch S b c) : Ch S a c :=
  ⟨k.os.trans h.os, k.tape.trans h.tape, k.output.trans h.output, Nat.le_trans h.size k.size, fun i hi hn => (k.block i (Nat.lt_of_lt_of_le hi h.size) hn).trans (h.block i hi hn)⟩
theorem Ch.mono {S T : List Nat} {a b : World} (h : Ch S a b) (hs : ∀ k ∈ S, k ∈ T) : Ch T a b := ⟨h.os, h.tape, h.output, h.size, fun k hk hn => h.block k hk (fun e => hn (hs k e))⟩
theorem ch_grown {a b : World} {v : Value} (h : a.grownBy b v.ownBlock) : Ch (blk v) a b := ⟨h.os, h.tape, h.output, h.size, fun k hk hn => h.block k hk (fun e => hn (by unfold blk; rw [← e]; simp))⟩
theorem ch_below {S : List Nat} {a b : World} (h : Below a.heap.size a b) : Ch S a b := ⟨h.os, h.tape, h.output, h.size, fun k hk _ => h.block k hk⟩
theorem below_ch {S : List Nat} {B : Nat} {a b : World} (h : Ch S a b) (hb : B ≤ a.heap.size) (hs : ∀ k ∈ S, B ≤ k) : Below B a b := ⟨h.os, h.tape, h.output, h.size, fun k hk => h.block k (by omega) (fun e => by have := hs k e; omega)⟩
theorem row_ch {S : List Nat} {w w' : World} {base size n : Nat} {t : TypeId} {v : Value} {xs : List Value} (h : w.ownsRow base t size v n xs) (hc : Ch S w w') (hd : ∀ k ∈ blk v, k ∉ S) : w'.ownsRow base t size v n xs := by
  obtain ⟨h0, ⟨h1, h2⟩ | ⟨g, cap, cur, h1, hg, hh, hle, hm, hs, ht⟩⟩ := h
  · exact ⟨h0, .inl ⟨h1, h2⟩⟩
  · refine ⟨h0, .inr ⟨g, cap, cur, h1, hg, (hc.block g (lt_of_block hh) (hd g ?_)).trans hh, hle, hm, hs, ht⟩⟩
    rw [h1]; simp [blk, Value.ownBlock]
theorem ownO_ch {S : List Nat} {w w' : World} {base : Nat} {v : Value} {ms : List MO} (h : OwnO w base v ms) (hc : Ch S w w') (hd : ∀ k ∈ blk v ++ blks ms, k ∉ S) : OwnO w' base v ms :=
  ⟨row_ch h.1 hc (fun k hk => hd k (by simp [hk])), fun m hm => row_ch (h.2.1 m hm) hc (fun k hk => hd k (by simp only [blks, List.mem_append, List.mem_flatMap]; exact .inr ⟨m, hm, hk⟩)), h.2.2⟩
theorem blk_lt {w : World} {base n size : Nat} {t : TypeId} {v : Value} {xs : List Value} (h : w.ownsRow base t size v n xs) : ∀ k ∈ blk v, base ≤ k ∧ k < w.heap.size := fun k hk => World.ownsRow.lt h k (by unfold blk at hk; exact Option.mem_toList.1 hk)
theorem blks_lt {w : World} {base : Nat} {v : Value} {ms : List MO} (h : OwnO w base v ms) : ∀ k ∈ blk v ++ blks ms, base ≤ k ∧ k < w.heap.size := by
  intro k hk
  rw [List.mem_append] at hk
  rcases hk with hk | hk
  · exact blk_lt h.1 k hk
  · simp only [blks, List.mem_flatMap] at hk
    obtain ⟨m, hm, hk⟩ := hk
    exact blk_lt (h.2.1 m hm) k hk

/-- An object as a value, and its block. -/
abbrev ov (m : MO) : Value := .agg #[.int .i64 m.id, .int .i64 m.cls, .int .i64 m.fmt, .int .i64 m.hash, m.sv]
abbrev ob (m : MO) : Obj := .cells #[.int .i64 m.id, .int .i64 m.cls, .int .i64 m.fmt, .int .i64 m.hash, m.sv] 47
end Go.Proofs.YtcboojhabolcbaaGreatDoor.gr
namespace Go.Proofs.YtcboojhabolcbaaGreatDoor.rows
open Go.RowKit

theorem set_take {xs : List Int} {k : Nat} (h : k < xs.length) : (xs.take k ++ List.replicate (xs.length - k) 0).set k (xs.getD k 0) = xs.take (k + 1) ++ List.replicate (xs.length - (k + 1)) 0 := by
  apply List.ext_getElem?
  intro i
  simp only [List.getElem?_set, List.getElem?_append, List.length_take, List.getElem?_take, List.getElem?_replicate, List.length_append, List.length_replicate]
  rcases Nat.lt_trichotomy i k with hi | hi | hi
  · grind
  · grind
  · grind

/-- The numbers from k on. -/
def marks (k : Int) (n : Nat) : List Int := (List.range n).map (fun i : Nat => k + (i : Int))
theorem marks_length (k : Int) (n : Nat) : (marks k n).length = n := by simp [marks]
theorem marks_getD (k : Int) {n i : Nat} (h : i < n) : (marks k n).getD i 0 = k + i := by simp [marks, List.getD_eq_getElem?_getD, h]
theorem marks_set {xs : List Int} {k : Nat} (k0 : Int) (h : k < xs.length) : (marks k0 k ++ xs.drop k).set k (k0 + (k : Int)) = marks k0 (k + 1) ++ xs.drop (k + 1) := by
  apply List.ext_getElem?
  intro i
  simp only [marks, List.getElem?_set, List.getElem?_append, List.length_map, List.length_range, List.getElem?_map, List.getElem?_drop, List.length_append, List.length_drop]
  grind

end Go.Proofs.YtcboojhabolcbaaGreatDoor.rows
namespace Go.Proofs.YtcboojhabolcbaaGreatDoor.rows
open Go.RowKit

/-- Behind 'append([]int64{}, row...)': a row of the call's own. -/
theorem copied_own {w w1 : World} {v' : Value} {xs : List Int} (hown : w1.ownsRow w.heap.size 2 1 v' (0 + xs.length) ([] ++ cellsOf xs)) (hgrow : (w.alloc (.cells #[] 2)).grownBy w1 (some w.heap.size))
    (hnn : v' = .slice none 0 0 ↔ Value.slice (some ⟨w.heap.size, 0, none⟩) 0 0 = .slice none 0 0 ∧ xs.length = 0) :
    ∃ g cap, v' = .slice (some ⟨g, 0, none⟩) xs.length cap ∧ w.heap.size ≤ g ∧ w1.ownsRow w.heap.size 2 1 (.slice (some ⟨g, 0, none⟩) xs.length cap) xs.length (cellsOf xs) ∧ Below w.heap.size w w1 := by
  rw [Nat.zero_add, List.nil_append] at hown
  have h' := hown
  obtain ⟨_, ⟨rfl, _⟩ | ⟨g, cap, cur, rfl, hg, _⟩⟩ := hown
  · exact absurd (hnn.1 rfl).1 (by simp)
  · exact ⟨g, cap, rfl, hg, h', ((Below.refl _ _).alloc (Nat.le_refl _) _).grown hgrow (by simp) (fun k e => by cases e; exact Nat.le_refl _)⟩

theorem own_row {w : World} {base n : Nat} {v : Value} {xs : List Int} (h : w.ownsRow base 2 1 v n (cellsOf xs)) (hn : xs.length = n) : Own w base v xs := by
  subst hn; exact h

/-- One law for every list: the operation reads an empty slice just made (the last block) and the list. -/
theorem wpList_copied {w : World} {ops : Array Oper} {rest : List Oper} {o : Oper} {act : Act} {Q : Exit → Act → World → Prop} {a : Option Addr} {cap : Nat} {xs : List Int}
    (h : IntsAt w (.slice a xs.length cap) xs) (hl : xs.length ≤ 1048576) (hgd : o.guard = none) (s x : Operand) (ho : o.op = .call { callee := .builtin .append, args := #[s, x], argTypes := #[71, 71] })
    (hs : act.eval s = .slice (some ⟨w.heap.size, 0, none⟩) 0 0) (hx : act.eval x = .slice a xs.length cap)
    (hK : ∀ g cap' w1, w.heap.size ≤ g → w1.ownsRow w.heap.size 2 1 (.slice (some ⟨g, 0, none⟩) xs.length cap') xs.length (cellsOf xs) → Below w.heap.size w w1 → wpList Tryz.prog ops Q rest (act.put o.dst (.slice (some ⟨g, 0, none⟩) xs.length cap')) w1) :
    wpList Tryz.prog ops Q (o :: rest) act (w.alloc (.cells #[] 2)) := by
  obtain ⟨i0, hi, hz0, hz1, hz2⟩ := info_parts info
  have OWN : (w.alloc (.cells #[] 2)).ownsRow w.heap.size 2 1 (.slice (some ⟨w.heap.size, 0, none⟩) 0 0) 0 [] := ⟨rfl, .inr ⟨w.heap.size, 0, #[], rfl, Nat.le_refl _, heap_alloc_new w _, Nat.le_refl _, by decide, rfl, rfl⟩⟩
  have h' := h
  obtain ⟨a', cap', e, hlc, hcm, hnil, _⟩ := h
  injection e with e1 e2 e3
  subst e1 e3
  cases a with
  | none =>
    have hcap := hnil rfl
    have e : xs = [] := List.eq_nil_of_length_eq_zero (by omega)
    subst e hcap
    refine wpList_append_own_none hgd s x 71 ho _ 2 i0 1 Tryz.underlying71 hi _ 0 [] hs OWN hx ?_
    exact hK _ _ _ (Nat.le_refl _) OWN ((Below.refl _ _).alloc (Nat.le_refl _) _)
  | some ad =>
    refine wpList_append_own _ hgd s x 71 ho _ 2 i0 (.int .i64 0) 1 8 Tryz.underlying71 hi hz0 hz1 hz2 rfl (by decide) _ 0 [] hs OWN ad xs.length cap (cellsOf xs) hx (by simp) (ints_news (intsAt_below h' ((Below.refl _ _).alloc (Nat.le_refl _) _))) (ints_oneCell _ _) (by unfold maxLen; omega) (by omega) (by simp) ?_
    intro v' w1 hown hgrow hnn
    obtain ⟨g, cap', rfl, hg, hO, hB⟩ := copied_own hown hgrow hnn
    exact hK g cap' w1 hg hO hB
end Go.Proofs.YtcboojhabolcbaaGreatDoor.rows
