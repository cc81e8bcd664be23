/-
  Heads in memory: a block that holds one; what is read and stored of it. What the laws do with objects and lists of them: made anew, held against one another. Lists of objects made anew, and held against one another. Objects and lists of them held against one another; how much a list of objects holds. Marks written into lists of objects, and found again. Graphs in memory, and what the laws do with them. A graph of the laws made a graph of the program. Marks written into graphs, and found again. Small facts on graphs, for the walks of the laws.
-/
import Derived.Test.YtcboojhabolcbaaGreatDoorHeadOk
import Derived.Test.YtcboojhabolcbaaGreatDoorM1
import Derived.Deep.RegionLaw
namespace Go.Proofs.YtcboojhabolcbaaGreatDoor.heads
open Go.RowKit

/-- The block b holds such a head. -/
def HeadAt (w : World) (b : Nat) (s f c h : Int) (p m : Bool) : Prop := w.heap[b]? = some (.cells #[.int .i64 s, .int .i64 f, .int .i64 c, .int .i64 h, .bool p, .bool m] 87 (0, 0))

theorem headAt_cells {w : World} {b : Nat} {s f c h : Int} {p m : Bool} (hh : HeadAt w b s f c h p m) :
    w.cell? ⟨b, 0, none⟩ = some (.int .i64 s) ∧ w.cell? ⟨b, 1, none⟩ = some (.int .i64 f) ∧ w.cell? ⟨b, 2, none⟩ = some (.int .i64 c) ∧ w.cell? ⟨b, 3, none⟩ = some (.int .i64 h) ∧ w.cell? ⟨b, 4, none⟩ = some (.bool p) ∧ w.cell? ⟨b, 5, none⟩ = some (.bool m) ∧ ∀ k, w.frozen? ⟨b, k, none⟩ = false := by
  unfold HeadAt at hh
  refine ⟨?_, ?_, ?_, ?_, ?_, ?_, fun k => ?_⟩
  all_goals simp [World.cell?, World.frozen?, hh]

theorem cells_setCell {w : World} {b : Nat} {c : Array Value} {t : TypeId} (h : w.heap[b]? = some (.cells c t (0, 0))) (k : Nat) (u : Value) :
    (w.setCell ⟨b, k, none⟩ u).heap[b]? = some (.cells (c.setIfInBounds k u) t (0, 0)) := by
  have hlt := lt_of_block h
  have h' : w.heap[b] = .cells c t (0, 0) := by simpa [Array.getElem?_eq_getElem hlt] using h
  show (w.heap.modify b _)[b]? = _
  rw [Array.getElem?_eq_getElem (by simpa using hlt), Array.getElem_modify_self, h']
  rfl
theorem headAt_alloc {w : World} {b : Nat} {s f c h : Int} {p m : Bool} (hh : HeadAt w b s f c h p m) (o : Obj) : HeadAt (w.alloc o) b s f c h p m := (Below.heap_alloc w o b (lt_of_block hh)).trans hh
theorem headAt_new (w : World) (s f c h : Int) (p m : Bool) : HeadAt (w.alloc (hb s f c h p m)) w.heap.size s f c h p m := heap_alloc_new w _
theorem headAt_other {w : World} {b : Nat} {s f c h : Int} {p m : Bool} (hh : HeadAt w b s f c h p m) {q : Addr} (hne : b ≠ q.block) (u : Value) : HeadAt (w.setCell q u) b s f c h p m := (Below.heap_setCell w q u b hne).trans hh
theorem headAt_set0 {w : World} {b : Nat} {s f c h : Int} {p m : Bool} (hh : HeadAt w b s f c h p m) (x : Int) : HeadAt (w.setCell ⟨b, 0, none⟩ (.int .i64 x)) b x f c h p m := (cells_setCell hh 0 _).trans rfl
theorem headAt_set1 {w : World} {b : Nat} {s f c h : Int} {p m : Bool} (hh : HeadAt w b s f c h p m) (x : Int) : HeadAt (w.setCell ⟨b, 1, none⟩ (.int .i64 x)) b s x c h p m := (cells_setCell hh 1 _).trans rfl
theorem headAt_set2 {w : World} {b : Nat} {s f c h : Int} {p m : Bool} (hh : HeadAt w b s f c h p m) (x : Int) : HeadAt (w.setCell ⟨b, 2, none⟩ (.int .i64 x)) b s f x h p m := (cells_setCell hh 2 _).trans rfl
theorem headAt_set3 {w : World} {b : Nat} {s f c h : Int} {p m : Bool} (hh : HeadAt w b s f c h p m) (x : Int) : HeadAt (w.setCell ⟨b, 3, none⟩ (.int .i64 x)) b s f c x p m := (cells_setCell hh 3 _).trans rfl
theorem headAt_set4 {w : World} {b : Nat} {s f c h : Int} {p m : Bool} (hh : HeadAt w b s f c h p m) (x : Bool) : HeadAt (w.setCell ⟨b, 4, none⟩ (.bool x)) b s f c h x m := (cells_setCell hh 4 _).trans rfl
theorem headAt_set5 {w : World} {b : Nat} {s f c h : Int} {p m : Bool} (hh : HeadAt w b s f c h p m) (x : Bool) : HeadAt (w.setCell ⟨b, 5, none⟩ (.bool x)) b s f c h p x := (cells_setCell hh 5 _).trans rfl

theorem res_head {fn : Func} {tmps : Array Value} {X : World} {b : Nat} {s f c h : Int} {p m : Bool} (hf : fn.results = #[.cell 2 87]) (h2 : tmps[2]? = some (.pointer (some ⟨b, 0, none⟩))) (hX : HeadAt X b s f c h p m) :
    (results fn tmps).run Tryz.prog X = .ok (hv s f c h p m) X := by
  obtain ⟨k0, k1, k2, k3, k4, k5, _⟩ := headAt_cells hX
  clear hX
  simp [results, hf, h2, go_sem, k0, k1, k2, k3, k4, k5]
theorem res_head_at {fn : Func} {tmps : Array Value} {X : World} {j b : Nat} {s f c h : Int} {p m : Bool} (hf : fn.results = #[.cell j 87]) (h2 : tmps[j]? = some (.pointer (some ⟨b, 0, none⟩))) (hX : HeadAt X b s f c h p m) :
    (results fn tmps).run Tryz.prog X = .ok (hv s f c h p m) X := by
  obtain ⟨k0, k1, k2, k3, k4, k5, _⟩ := headAt_cells hX
  clear hX
  simp [results, hf, h2, go_sem, k0, k1, k2, k3, k4, k5]
theorem res_head_two {fn : Func} {tmps : Array Value} {X : World} {j i k b : Nat} {s f c h : Int} {p m : Bool} {v u : Value} (hf : fn.results = #[.cell j 87, .tmp i, .tmp k]) (h2 : tmps[j]? = some (.pointer (some ⟨b, 0, none⟩))) (hi : tmps[i]? = some v) (hk : tmps[k]? = some u) (hX : HeadAt X b s f c h p m) :
    (results fn tmps).run Tryz.prog X = .ok (.tuple #[hv s f c h p m, v, u]) X := by
  obtain ⟨k0, k1, k2, k3, k4, k5, _⟩ := headAt_cells hX
  clear hX
  simp [results, hf, h2, hi, hk, go_sem, k0, k1, k2, k3, k4, k5]
theorem headAt_below {w w' : World} {b : Nat} {s f c h : Int} {p m : Bool} (T : HeadAt w b s f c h p m) (hb : Below w.heap.size w w') : HeadAt w' b s f c h p m := (hb.block b (lt_of_block T)).trans T
theorem six_set {X : World} {b : Nat} {s' f' c' h' : Int} {p' m' : Bool} (T : HeadAt X b s' f' c' h' p' m') (s f c h : Int) (p m : Bool) :
    HeadAt ((((((X.setCell ⟨b, 0, none⟩ (.int .i64 s)).setCell ⟨b, 1, none⟩ (.int .i64 f)).setCell ⟨b, 2, none⟩ (.int .i64 c)).setCell ⟨b, 3, none⟩ (.int .i64 h)).setCell ⟨b, 4, none⟩ (.bool p)).setCell ⟨b, 5, none⟩ (.bool m)) b s f c h p m :=
  headAt_set5 (headAt_set4 (headAt_set3 (headAt_set2 (headAt_set1 (headAt_set0 T _) _) _) _) _) _
theorem six_below {n : Nat} {w X : World} {b : Nat} (hB : Below n w X) (hb : n ≤ b) (s f c h : Int) (p m : Bool) : Below n w ((((((X.setCell ⟨b, 0, none⟩ (.int .i64 s)).setCell ⟨b, 1, none⟩ (.int .i64 f)).setCell ⟨b, 2, none⟩ (.int .i64 c)).setCell ⟨b, 3, none⟩ (.int .i64 h)).setCell ⟨b, 4, none⟩ (.bool p)).setCell ⟨b, 5, none⟩ (.bool m)) :=
  (((((hB.setCell (p := ⟨b, 0, none⟩) hb _).setCell (p := ⟨b, 1, none⟩) hb _).setCell (p := ⟨b, 2, none⟩) hb _).setCell (p := ⟨b, 3, none⟩) hb _).setCell (p := ⟨b, 4, none⟩) hb _).setCell (p := ⟨b, 5, none⟩) hb _
end Go.Proofs.YtcboojhabolcbaaGreatDoor.heads
namespace Go.Proofs.YtcboojhabolcbaaGreatDoor.gr
open Go.RowKit rows heads
set_option maxRecDepth 100000

theorem infoO : (Tryz.prog.info? 47).map (fun i => (i.zero, i.size, i.bytes)) = some (some (.agg #[.int .i64 0, .int .i64 0, .int .i64 0, .int .i64 0, .slice none 0 0]), 5, 56) := by kernel_rfl

/-- A block of five cells. -/
def Five (w : World) (b : Nat) (t : TypeId) (c0 c1 c2 c3 c4 : Value) : Prop := w.heap[b]? = some (.cells #[c0, c1, c2, c3, c4] t (0, 0))
theorem five_cells {w : World} {b : Nat} {t : TypeId} {c0 c1 c2 c3 c4 : Value} (h : Five w b t c0 c1 c2 c3 c4) : w.cell? ⟨b, 0, none⟩ = some c0 ∧ w.cell? ⟨b, 1, none⟩ = some c1 ∧ w.cell? ⟨b, 2, none⟩ = some c2 ∧ w.cell? ⟨b, 3, none⟩ = some c3 ∧ w.cell? ⟨b, 4, none⟩ = some c4 ∧ ∀ k, w.frozen? ⟨b, k, none⟩ = false := by
  unfold Five at h
  refine ⟨?_, ?_, ?_, ?_, ?_, fun k => ?_⟩
  all_goals simp [World.cell?, World.frozen?, h]
theorem five_below {w w' : World} {b : Nat} {t : TypeId} {c0 c1 c2 c3 c4 : Value} (h : Five w b t c0 c1 c2 c3 c4) (hb : Below w.heap.size w w') : Five w' b t c0 c1 c2 c3 c4 := (hb.block b (lt_of_block h)).trans h
theorem five_new (w : World) (t : TypeId) (c0 c1 c2 c3 c4 : Value) : Five (w.alloc (.cells #[c0, c1, c2, c3, c4] t)) w.heap.size t c0 c1 c2 c3 c4 := heap_alloc_new w _
theorem five_set0 {w : World} {b : Nat} {t : TypeId} {c0 c1 c2 c3 c4 : Value} (h : Five w b t c0 c1 c2 c3 c4) (u : Value) : Five (w.setCell ⟨b, 0, none⟩ u) b t u c1 c2 c3 c4 := (cells_setCell h 0 u).trans (by simp)
theorem five_set1 {w : World} {b : Nat} {t : TypeId} {c0 c1 c2 c3 c4 : Value} (h : Five w b t c0 c1 c2 c3 c4) (u : Value) : Five (w.setCell ⟨b, 1, none⟩ u) b t c0 u c2 c3 c4 := (cells_setCell h 1 u).trans (by simp)
theorem five_set2 {w : World} {b : Nat} {t : TypeId} {c0 c1 c2 c3 c4 : Value} (h : Five w b t c0 c1 c2 c3 c4) (u : Value) : Five (w.setCell ⟨b, 2, none⟩ u) b t c0 c1 u c3 c4 := (cells_setCell h 2 u).trans (by simp)
theorem five_set3 {w : World} {b : Nat} {t : TypeId} {c0 c1 c2 c3 c4 : Value} (h : Five w b t c0 c1 c2 c3 c4) (u : Value) : Five (w.setCell ⟨b, 3, none⟩ u) b t c0 c1 c2 u c4 := (cells_setCell h 3 u).trans (by simp)
theorem five_set4 {w : World} {b : Nat} {t : TypeId} {c0 c1 c2 c3 c4 : Value} (h : Five w b t c0 c1 c2 c3 c4) (u : Value) : Five (w.setCell ⟨b, 4, none⟩ u) b t c0 c1 c2 c3 u := (cells_setCell h 4 u).trans (by simp)
theorem five_sets {w : World} {b : Nat} {t : TypeId} {c0 c1 c2 c3 c4 : Value} (h : Five w b t c0 c1 c2 c3 c4) (u0 u1 u2 u3 u4 : Value) : Five (((((w.setCell ⟨b, 0, none⟩ u0).setCell ⟨b, 1, none⟩ u1).setCell ⟨b, 2, none⟩ u2).setCell ⟨b, 3, none⟩ u3).setCell ⟨b, 4, none⟩ u4) b t u0 u1 u2 u3 u4 :=
  five_set4 (five_set3 (five_set2 (five_set1 (five_set0 h _) _) _) _) _
theorem five_belows {n : Nat} {w X : World} {b : Nat} (hB : Below n w X) (hb : n ≤ b) (u0 u1 u2 u3 u4 : Value) : Below n w (((((X.setCell ⟨b, 0, none⟩ u0).setCell ⟨b, 1, none⟩ u1).setCell ⟨b, 2, none⟩ u2).setCell ⟨b, 3, none⟩ u3).setCell ⟨b, 4, none⟩ u4) :=
  ((((hB.setCell (p := ⟨b, 0, none⟩) hb _).setCell (p := ⟨b, 1, none⟩) hb _).setCell (p := ⟨b, 2, none⟩) hb _).setCell (p := ⟨b, 3, none⟩) hb _).setCell (p := ⟨b, 4, none⟩) hb _
theorem five_other {X : World} {b : Nat} (u0 u1 u2 u3 u4 : Value) : Ch [b] X (((((X.setCell ⟨b, 0, none⟩ u0).setCell ⟨b, 1, none⟩ u1).setCell ⟨b, 2, none⟩ u2).setCell ⟨b, 3, none⟩ u3).setCell ⟨b, 4, none⟩ u4) := by
  have one : ∀ (Y : World) (k : Nat) (u : Value), Ch [b] Y (Y.setCell ⟨b, k, none⟩ u) := fun Y k u => ⟨rfl, rfl, rfl, by simp, fun j _ hn => Below.heap_setCell Y _ u j (fun e => hn (by simp [e]))⟩
  exact ((((one _ 0 _).trans (one _ 1 _)).trans (one _ 2 _)).trans (one _ 3 _)).trans (one _ 4 _)
theorem res_five {fn : Func} {tmps : Array Value} {X : World} {j b : Nat} {x0 x1 x2 x3 : Int} {a : Option Addr} {n c : Nat} (hf : fn.results = #[.cell j 47]) (h2 : tmps[j]? = some (.pointer (some ⟨b, 0, none⟩))) (hX : Five X b 47 (.int .i64 x0) (.int .i64 x1) (.int .i64 x2) (.int .i64 x3) (.slice a n c)) :
    (results fn tmps).run Tryz.prog X = .ok (.agg #[.int .i64 x0, .int .i64 x1, .int .i64 x2, .int .i64 x3, .slice a n c]) X := by
  obtain ⟨k0, k1, k2, k3, k4, _⟩ := five_cells hX
  clear hX
  simp [results, hf, h2, go_sem, k0, k1, k2, k3, k4]

end Go.Proofs.YtcboojhabolcbaaGreatDoor.gr
namespace Go.Proofs.YtcboojhabolcbaaGreatDoor.gr
open Go.RowKit rows heads
set_option maxRecDepth 100000

/-- One block that holds just these objects. -/
def FullO (w : World) (b : Nat) (ms : List MO) : Prop := w.heap[b]? = some (.cells (cellsO ms).toArray 47 (0, 0))
theorem fullO_own {w : World} {b base : Nat} {ms : List MO} (h : FullO w b ms) (hb : base ≤ b) (hm : ms.length ≤ maxLen) : OwnRow w base (.slice (some ⟨b, 0, none⟩) ms.length ms.length) ms :=
  ⟨cellsO_length ms, .inr ⟨b, ms.length, _, rfl, hb, h, Nat.le_refl _, hm, by simp [cellsO_length], List.take_of_length_le (by simp [cellsO_length])⟩⟩
theorem fullO_below {w w' : World} {b : Nat} {ms : List MO} (h : FullO w b ms) (hb : Below w.heap.size w w') : FullO w' b ms := (hb.block b (lt_of_block h)).trans h
theorem fullO_cell {w : World} {b : Nat} {ms : List MO} (h : FullO w b ms) {i : Nat} (hi : i < ms.length) : w.cell? ⟨b, i * 5, none⟩ = some (.int .i64 (ms.getD i moD).id) ∧ w.cell? ⟨b, i * 5 + 1, none⟩ = some (.int .i64 (ms.getD i moD).cls) ∧ w.cell? ⟨b, i * 5 + 2, none⟩ = some (.int .i64 (ms.getD i moD).fmt) ∧ w.cell? ⟨b, i * 5 + 3, none⟩ = some (.int .i64 (ms.getD i moD).hash) ∧ w.cell? ⟨b, i * 5 + 4, none⟩ = some (ms.getD i moD).sv := by
  obtain ⟨c0, c1, c2, c3, c4⟩ := cellsO_at ms i hi
  unfold FullO at h
  refine ⟨?_, ?_, ?_, ?_, ?_⟩
  all_goals simp [World.cell?, h]
  · exact c0
  · exact c1
  · exact c2
  · exact c3
  · exact c4
theorem fullO_frozen {w : World} {b : Nat} {ms : List MO} (h : FullO w b ms) (i : Nat) : w.frozen? ⟨b, i, none⟩ = false := by
  unfold FullO at h
  simp [World.frozen?, h]
theorem fullO_set {w : World} {b : Nat} {ms : List MO} (h : FullO w b ms) (i : Nat) (m : MO) : FullO (((((w.setCell ⟨b, i * 5, none⟩ (.int .i64 m.id)).setCell ⟨b, i * 5 + 1, none⟩ (.int .i64 m.cls)).setCell ⟨b, i * 5 + 2, none⟩ (.int .i64 m.fmt)).setCell ⟨b, i * 5 + 3, none⟩ (.int .i64 m.hash)).setCell ⟨b, i * 5 + 4, none⟩ m.sv) b (ms.set i m) := by
  have h1 := cells_setCell h (i * 5) (.int .i64 m.id)
  have h2 := cells_setCell h1 (i * 5 + 1) (.int .i64 m.cls)
  have h3 := cells_setCell h2 (i * 5 + 2) (.int .i64 m.fmt)
  have h4 := cells_setCell h3 (i * 5 + 3) (.int .i64 m.hash)
  have h5 := cells_setCell h4 (i * 5 + 4) m.sv
  refine h5.trans ?_
  rw [← cellsO_set ms i m]
  simp
/-- An object stored at the place k of a block. -/
abbrev put5 (X : World) (b k : Nat) (m : MO) : World := ((((X.setCell ⟨b, k * 5, none⟩ (.int .i64 m.id)).setCell ⟨b, k * 5 + 1, none⟩ (.int .i64 m.cls)).setCell ⟨b, k * 5 + 2, none⟩ (.int .i64 m.fmt)).setCell ⟨b, k * 5 + 3, none⟩ (.int .i64 m.hash)).setCell ⟨b, k * 5 + 4, none⟩ m.sv
theorem sets_ch {X : World} {b k0 k1 k2 k3 k4 : Nat} (u0 u1 u2 u3 u4 : Value) : Ch [b] X (((((X.setCell ⟨b, k0, none⟩ u0).setCell ⟨b, k1, none⟩ u1).setCell ⟨b, k2, none⟩ u2).setCell ⟨b, k3, none⟩ u3).setCell ⟨b, k4, none⟩ u4) := by
  have one : ∀ (Y : World) (k : Nat) (u : Value), Ch [b] Y (Y.setCell ⟨b, k, none⟩ u) := fun Y k u => ⟨rfl, rfl, rfl, by simp, fun j _ hn => Below.heap_setCell Y _ u j (fun e => hn (by simp [e]))⟩
  exact ((((one _ k0 _).trans (one _ k1 _)).trans (one _ k2 _)).trans (one _ k3 _)).trans (one _ k4 _)
theorem setM_snoc {rs : List MO} {n : Nat} (m : MO) (h : rs.length < n) : (rs ++ List.replicate (n - rs.length) moD).set rs.length m = (rs ++ [m]) ++ List.replicate (n - (rs.length + 1)) moD := by
  rw [List.set_append_right _ _ (Nat.le_refl _), Nat.sub_self]
  obtain ⟨d, hd⟩ : ∃ d, n - rs.length = d + 1 := ⟨n - rs.length - 1, by omega⟩
  rw [hd, List.replicate_succ, show n - (rs.length + 1) = d by omega]
  simp
theorem made_objs (n : Nat) : (madeCells #[Value.int .i64 0, .int .i64 0, .int .i64 0, .int .i64 0, .slice none 0 0] (n * 5)).toList = cellsO (List.replicate n moD) := by
  unfold madeCells
  rw [Array.toList_map, Array.toList_range]
  induction n with
  | zero => rfl
  | succ n ih =>
    rw [show (n + 1) * 5 = n * 5 + 1 + 1 + 1 + 1 + 1 by omega, List.range_succ, List.range_succ, List.range_succ, List.range_succ, List.range_succ, List.replicate_succ', cellsO_append, ← ih]
    have h0 : n * 5 % 5 = 0 := by omega
    have h1 : (n * 5 + 1) % 5 = 1 := by omega
    have h2 : (n * 5 + 1 + 1) % 5 = 2 := by omega
    have h3 : (n * 5 + 1 + 1 + 1) % 5 = 3 := by omega
    have h4 : (n * 5 + 1 + 1 + 1 + 1) % 5 = 4 := by omega
    simp [cellsO, h0, h1, h2, h3, h4]
theorem full_of_made {w : World} {base g n : Nat} {cs : List Value} {ms : List MO} (h : w.ownsRow base 47 5 (.slice (some ⟨g, 0, none⟩) n n) n cs) (hcs : cs = cellsO ms) : FullO w g ms := by
  subst hcs
  obtain ⟨h0, ⟨h1, _⟩ | ⟨g', cap, cur, h1, hg, hh, hle, hm, hs, ht⟩⟩ := h
  · cases h1
  · injection h1 with e1 e2 e3
    injection e1 with e1
    injection e1 with e1
    subst e1 e3
    unfold FullO
    rw [hh]
    rw [List.take_of_length_le (by simpa using Nat.le_of_eq hs)] at ht
    rw [← ht]
theorem blks_append (ms ns : List MO) : blks (ms ++ ns) = blks ms ++ blks ns := by simp [blks]
theorem take_succM {ms : List MO} {k : Nat} (h : k < ms.length) : ms.take (k + 1) = ms.take k ++ [ms.getD k moD] := by
  rw [List.take_add_one, List.getD_eq_getElem?_getD, List.getElem?_eq_getElem h]
  rfl

end Go.Proofs.YtcboojhabolcbaaGreatDoor.gr
namespace Go.Proofs.YtcboojhabolcbaaGreatDoor.gr
open Go.RowKit rows heads
set_option maxRecDepth 100000

theorem abs_len {ms ns : List MO} (h : ms.map MO.abs = ns.map MO.abs) : ms.length = ns.length := by simpa using congrArg List.length h
theorem abs_at {ms ns : List MO} (h : ms.map MO.abs = ns.map MO.abs) (i : Nat) : (ms.getD i moD).abs = (ns.getD i moD).abs := by
  rw [← abs_getD, ← abs_getD, h]

/-- All refs of all objects. -/
def slotsLen : List MO → Nat
  | [] => 0
  | m :: ms => m.slots.length + slotsLen ms
theorem slotsLen_take_succ : ∀ {ms : List MO} {k : Nat}, k < ms.length → slotsLen (ms.take (k + 1)) = slotsLen (ms.take k) + (ms.getD k moD).slots.length
  | [], _, h => by simp at h
  | e :: ms, 0, _ => by simp [slotsLen]
  | e :: ms, k + 1, h => by
    have := slotsLen_take_succ (ms := ms) (k := k) (by simpa using h)
    simp [slotsLen] at this ⊢
    omega
theorem slotsLen_take_le : ∀ (ms : List MO) (k : Nat), slotsLen (ms.take k) ≤ slotsLen ms
  | [], k => by simp [slotsLen]
  | e :: ms, 0 => by simp [slotsLen]
  | e :: ms, k + 1 => by
    have := slotsLen_take_le ms k
    simp [slotsLen]
    omega
theorem slots_le : ∀ {ms : List MO} {m : MO}, m ∈ ms → m.slots.length ≤ slotsLen ms
  | [], _, h => by cases h
  | e :: ms, m, h => by
    rcases List.mem_cons.1 h with rfl | h
    · simp [slotsLen]
    · have := slots_le h
      simp [slotsLen]; omega

/-- What is left when all is taken off; -1: it is too much. -/
def szO (ms : List MO) (left : Nat) : Int := if ms.length + slotsLen ms ≤ left then (left : Int) - (ms.length + slotsLen ms : Nat) else -1
end Go.Proofs.YtcboojhabolcbaaGreatDoor.gr
namespace Go.Proofs.YtcboojhabolcbaaGreatDoor.gr
open Go.RowKit rows heads
set_option maxRecDepth 100000

/-- An object marked from K on. -/
def mk1 (K : Nat) (m : MO) : MO := ⟨(K : Int), (K : Int) + 1, (K : Int) + 1 + 1, (K : Int) + 1 + 1 + 1, m.sv, marksR (K + 4) m.slots.length⟩
/-- The mark at which the object j begins. -/
def kAt (k0 : Nat) (ms : List MO) (j : Nat) : Nat := k0 + 4 * j + 2 * slotsLen (ms.take j)
theorem kAt_succ (k0 : Nat) {ms : List MO} {j : Nat} (h : j < ms.length) : kAt k0 ms (j + 1) = kAt k0 ms j + 4 + 2 * (ms.getD j moD).slots.length := by
  unfold kAt
  rw [slotsLen_take_succ h]
  omega
theorem kAt_le (k0 : Nat) (ms : List MO) {j : Nat} (h : j ≤ ms.length) : kAt k0 ms j ≤ k0 + 4 * ms.length + 2 * slotsLen ms := by
  unfold kAt
  have := slotsLen_take_le ms j
  omega
/-- The list with its first i objects marked. -/
def Lm (k0 : Nat) (ms : List MO) (i : Nat) : List MO := (List.range ms.length).map (fun j => if j < i then mk1 (kAt k0 ms j) (ms.getD j moD) else ms.getD j moD)
theorem Lm_length (k0 : Nat) (ms : List MO) (i : Nat) : (Lm k0 ms i).length = ms.length := by simp [Lm]
theorem Lm_getD (k0 : Nat) {ms : List MO} {i j : Nat} (h : j < ms.length) : (Lm k0 ms i).getD j moD = if j < i then mk1 (kAt k0 ms j) (ms.getD j moD) else ms.getD j moD := by
  simp [Lm, List.getD_eq_getElem?_getD, h]
theorem getD_getElem? {ms : List MO} {j : Nat} (h : j < ms.length) : ms[j]? = some (ms.getD j moD) := by
  rw [List.getD_eq_getElem?_getD, List.getElem?_eq_getElem h]; rfl
theorem Lm_zero (k0 : Nat) (ms : List MO) : Lm k0 ms 0 = ms := by
  apply List.ext_getElem?
  intro j
  rcases Nat.lt_or_ge j ms.length with h | h
  · rw [getD_getElem? (by rw [Lm_length]; exact h), Lm_getD k0 h, if_neg (by omega), getD_getElem? h]
  · rw [List.getElem?_eq_none (by rw [Lm_length]; exact h), List.getElem?_eq_none h]
theorem Lm_set (k0 : Nat) {ms : List MO} {i : Nat} (h : i < ms.length) : (Lm k0 ms i).set i (mk1 (kAt k0 ms i) (ms.getD i moD)) = Lm k0 ms (i + 1) := by
  apply List.ext_getElem?
  intro j
  rcases Nat.lt_or_ge j ms.length with hj | hj
  · rw [List.getElem?_set, getD_getElem? (ms := Lm k0 ms (i + 1)) (by rw [Lm_length]; exact hj), Lm_getD k0 hj]
    by_cases e : i = j
    · subst e
      rw [if_pos rfl, if_pos (by rw [Lm_length]; exact h), if_pos (by omega)]
    · rw [if_neg e, getD_getElem? (by rw [Lm_length]; exact hj), Lm_getD k0 hj]
      by_cases h1 : j < i
      · rw [if_pos h1, if_pos (by omega)]
      · rw [if_neg h1, if_neg (by omega)]
  · rw [List.getElem?_eq_none (by rw [List.length_set, Lm_length]; exact hj), List.getElem?_eq_none (by rw [Lm_length]; exact hj)]
theorem Lm_sv (k0 : Nat) {ms : List MO} (i : Nat) {j : Nat} (h : j < ms.length) : ((Lm k0 ms i).getD j moD).sv = (ms.getD j moD).sv := by
  rw [Lm_getD k0 h]
  split <;> rfl
theorem Lm_svs (k0 : Nat) (ms : List MO) (i : Nat) : (Lm k0 ms i).map MO.sv = ms.map MO.sv := by
  apply List.ext_getElem?
  intro j
  rw [List.getElem?_map, List.getElem?_map]
  rcases Nat.lt_or_ge j ms.length with h | h
  · rw [getD_getElem? (by rw [Lm_length]; exact h), getD_getElem? h]
    simp only [Option.map_some, Lm_sv k0 i h]
  · rw [List.getElem?_eq_none (by rw [Lm_length]; exact h), List.getElem?_eq_none h]
theorem blks_svs (ms : List MO) : blks ms = (ms.map MO.sv).flatMap blk := by simp [blks, List.flatMap_map]
theorem Lm_blks (k0 : Nat) (ms : List MO) (i : Nat) : blks (Lm k0 ms i) = blks ms := by rw [blks_svs, Lm_svs, ← blks_svs]
theorem cellsO_set4 : ∀ (ms : List MO) (i : Nat) (a b c d : Int) (sl : List Rf), i < ms.length → ((((cellsO ms).set (i * 5) (.int .i64 a)).set (i * 5 + 1) (.int .i64 b)).set (i * 5 + 2) (.int .i64 c)).set (i * 5 + 3) (.int .i64 d) = cellsO (ms.set i ⟨a, b, c, d, (ms.getD i moD).sv, sl⟩)
  | [], i, _, _, _, _, _, h => by simp at h
  | e :: ms, 0, a, b, c, d, sl, _ => by simp [cellsO]
  | e :: ms, i + 1, a, b, c, d, sl, h => by
    rw [show (i + 1) * 5 = i * 5 + 1 + 1 + 1 + 1 + 1 by omega]
    have := cellsO_set4 ms i a b c d sl (by simpa using h)
    simp [cellsO] at this ⊢
    rw [this]
/-- No two rows in one block, told apart. -/
theorem apart {v : Value} : ∀ {ms : List MO}, (blk v ++ blks ms).Nodup → (∀ j, j < ms.length → ∀ k ∈ blk (ms.getD j moD).sv, k ∉ blk v) ∧ ∀ i j, i < ms.length → j < ms.length → i ≠ j → ∀ k ∈ blk (ms.getD i moD).sv, k ∉ blk (ms.getD j moD).sv
  | [], _ => ⟨fun j h => by simp at h, fun i j h => by simp at h⟩
  | m :: ms, h => by
    rw [List.nodup_append] at h
    obtain ⟨h1, h2, h3⟩ := h
    have eb : blks (m :: ms) = blk m.sv ++ blks ms := by simp [blks]
    rw [eb] at h2 h3
    rw [List.nodup_append] at h2
    have ih := apart (v := v) (ms := ms) (by
      rw [List.nodup_append]
      exact ⟨h1, h2.2.1, fun a ha b hb => h3 a ha b (by simp [hb])⟩)
    have inb : ∀ j, j < ms.length → ∀ k ∈ blk (ms.getD j moD).sv, k ∈ blks ms := fun j hj k hk => by
      simp only [blks, List.mem_flatMap]; exact ⟨_, mem_getD hj, hk⟩
    refine ⟨fun j hj k hk e => ?_, fun i j hi hj hne k hk e => ?_⟩
    · cases j with
      | zero => exact h3 k e k (by simp only [List.mem_append]; exact .inl (by simpa using hk)) rfl
      | succ j => exact ih.1 j (by simpa using hj) k (by simpa using hk) e
    · cases i with
      | zero =>
        cases j with
        | zero => exact hne rfl
        | succ j => exact h2.2.2 k (by simpa using hk) k (inb j (by simpa using hj) k (by simpa using e)) rfl
      | succ i =>
        cases j with
        | zero => exact h2.2.2 k (by simpa using e) k (inb i (by simpa using hi) k (by simpa using hk)) rfl
        | succ j => exact ih.2 i j (by simpa using hi) (by simpa using hj) (by omega) k (by simpa using hk) (by simpa using e)

end Go.Proofs.YtcboojhabolcbaaGreatDoor.gr
namespace Go.Proofs.YtcboojhabolcbaaGreatDoor.gr
open Go.RowKit rows heads
set_option maxRecDepth 100000

structure Gr where
  objs : List Ob
  roots : List Rf
  mourned : List Rf
  next : Int
  seed : Int
/-- A graph as a value. -/
abbrev gv (o r m : Value) (n s : Int) : Value := .agg #[o, r, m, .int .i64 n, .int .i64 s]
abbrev gb (o r m : Value) (n s : Int) : Obj := .cells #[o, r, m, .int .i64 n, .int .i64 s] 27
/-- A graph that may be read. -/
def GraphAt (w : World) (o r m : Value) (ms : List MO) (G : Gr) : Prop := ms.map MO.abs = G.objs ∧ ObjsAt w o ms ∧ RefsAt w r G.roots ∧ RefsAt w m G.mourned
def gblk (o r m : Value) (ms : List MO) : List Nat := blk o ++ blks ms ++ blk r ++ blk m
/-- A graph of the call's own, no two rows in one block. -/
def OwnG (w : World) (base : Nat) (o r m : Value) (ms : List MO) (G : Gr) : Prop := ms.map MO.abs = G.objs ∧ OwnO w base o ms ∧ OwnR w base r G.roots ∧ OwnR w base m G.mourned ∧ (gblk o r m ms).Nodup
theorem ownG_at {w : World} {base : Nat} {o r m : Value} {ms : List MO} {G : Gr} (h : OwnG w base o r m ms G) : GraphAt w o r m ms G := ⟨h.1, ownO_at h.2.1, ownR_refs h.2.2.1, ownR_refs h.2.2.2.1⟩
theorem graphAt_below {w w' : World} {o r m : Value} {ms : List MO} {G : Gr} (h : GraphAt w o r m ms G) (hb : Below w.heap.size w w') : GraphAt w' o r m ms G := ⟨h.1, objsAt_below h.2.1 hb, refsAt_below h.2.2.1 hb, refsAt_below h.2.2.2 hb⟩
theorem ownG_below {w w' : World} {base : Nat} {o r m : Value} {ms : List MO} {G : Gr} (h : OwnG w base o r m ms G) (hb : Below w.heap.size w w') : OwnG w' base o r m ms G := ⟨h.1, ownO_below h.2.1 hb, ownR_below h.2.2.1 hb, ownR_below h.2.2.2.1 hb, h.2.2.2.2⟩
theorem ownG_base {w : World} {base base' : Nat} {o r m : Value} {ms : List MO} {G : Gr} (h : OwnG w base o r m ms G) (hb : base' ≤ base) : OwnG w base' o r m ms G := ⟨h.1, ownO_base h.2.1 hb, ownR_base h.2.2.1 hb, ownR_base h.2.2.2.1 hb, h.2.2.2.2⟩
theorem ownG_lt {w : World} {base : Nat} {o r m : Value} {ms : List MO} {G : Gr} (h : OwnG w base o r m ms G) : ∀ k ∈ gblk o r m ms, base ≤ k ∧ k < w.heap.size := by
  intro k hk
  simp only [gblk, List.mem_append] at hk
  rcases hk with ((hk | hk) | hk) | hk
  · exact blks_lt h.2.1 k (by simp only [List.mem_append]; exact .inl hk)
  · exact blks_lt h.2.1 k (by simp only [List.mem_append]; exact .inr hk)
  · exact blk_lt h.2.2.1 k hk
  · exact blk_lt h.2.2.2.1 k hk
theorem ownG_ch {S : List Nat} {w w' : World} {base : Nat} {o r m : Value} {ms : List MO} {G : Gr} (h : OwnG w base o r m ms G) (hc : Ch S w w') (hd : ∀ k ∈ gblk o r m ms, k ∉ S) : OwnG w' base o r m ms G := by
  refine ⟨h.1, ownO_ch h.2.1 hc (fun k hk => hd k ?_), row_ch h.2.2.1 hc (fun k hk => hd k ?_), row_ch h.2.2.2.1 hc (fun k hk => hd k ?_), h.2.2.2.2⟩
  · simp only [gblk, List.mem_append] at hk ⊢; exact .inl (.inl hk)
  · simp only [gblk, List.mem_append] at hk ⊢; exact .inl (.inr hk)
  · simp only [gblk, List.mem_append] at hk ⊢; exact .inr hk

/-- How much a graph holds. -/
def gSize (ms : List MO) (G : Gr) : Nat := ms.length + slotsLen ms + G.roots.length + G.mourned.length
theorem gSize_slots {ms : List MO} {G : Gr} (h : gSize ms G ≤ 1048576) : ∀ m ∈ ms, m.slots.length ≤ 1048576 := fun m hm => by
  have := slots_le hm
  unfold gSize at h
  omega

end Go.Proofs.YtcboojhabolcbaaGreatDoor.gr
namespace Go.Proofs.YtcboojhabolcbaaGreatDoor.gr
open Go.RowKit rows heads
set_option maxRecDepth 100000

theorem res_gr {fn : Func} {tmps : Array Value} {X : World} {j b : Nat} {a1 a2 a3 : Option Addr} {n1 c1 n2 c2 n3 c3 : Nat} {x y : Int} (hf : fn.results = #[.cell j 27]) (h2 : tmps[j]? = some (.pointer (some ⟨b, 0, none⟩))) (hX : Five X b 27 (.slice a1 n1 c1) (.slice a2 n2 c2) (.slice a3 n3 c3) (.int .i64 x) (.int .i64 y)) :
    (results fn tmps).run Tryz.prog X = .ok (gv (.slice a1 n1 c1) (.slice a2 n2 c2) (.slice a3 n3 c3) x y) X := by
  obtain ⟨k0, k1, k2, k3, k4, _⟩ := five_cells hX
  clear hX
  simp [results, hf, h2, go_sem, k0, k1, k2, k3, k4]
theorem one_ch (Y : World) (b k : Nat) (u : Value) : Ch [b] Y (Y.setCell ⟨b, k, none⟩ u) := ⟨rfl, rfl, rfl, by simp, fun j _ hn => Below.heap_setCell Y _ u j (fun e => hn (by simp [e]))⟩
theorem five_ch {S : List Nat} {w w' : World} {b : Nat} {t : TypeId} {c0 c1 c2 c3 c4 : Value} (h : Five w b t c0 c1 c2 c3 c4) (hc : Ch S w w') (hb : b ∉ S) : Five w' b t c0 c1 c2 c3 c4 := (hc.block b (lt_of_block h) hb).trans h

end Go.Proofs.YtcboojhabolcbaaGreatDoor.gr
namespace Go.Proofs.YtcboojhabolcbaaGreatDoor.gr
open Go.RowKit rows heads
set_option maxRecDepth 100000

/-- A graph that is marked from k0 on, up to kE. -/
def Marked (w : World) (o r m : Value) (k0 kE : Nat) : Prop := ∃ (ms : List MO) (nr nm : Nat), ms.length + slotsLen ms + nr + nm ≤ 1048576 ∧ ObjsAt w o (Lm k0 ms ms.length) ∧ RefsAt w r (marksR (kAt k0 ms ms.length) nr) ∧ RefsAt w m (marksR (kAt k0 ms ms.length + 2 * nr) nm) ∧ kE = kAt k0 ms ms.length + 2 * nr + 2 * nm
theorem marked_below {w w' : World} {o r m : Value} {k0 kE : Nat} (h : Marked w o r m k0 kE) (hb : Below w.heap.size w w') : Marked w' o r m k0 kE := by
  obtain ⟨ms, nr, nm, h1, h2, h3, h4, h5⟩ := h
  exact ⟨ms, nr, nm, h1, objsAt_below h2 hb, refsAt_below h3 hb, refsAt_below h4 hb, h5⟩
theorem gblk_apart {o r m : Value} {ms : List MO} (h : (gblk o r m ms).Nodup) : (∀ k ∈ blk o ++ blks ms, k ∉ blk r) ∧ (∀ k ∈ blk o ++ blks ms, k ∉ blk m) ∧ ∀ k ∈ blk r, k ∉ blk m := by
  unfold gblk at h
  rw [List.nodup_append, List.nodup_append] at h
  obtain ⟨⟨_, _, h1⟩, _, h2⟩ := h
  exact ⟨fun k hk e => h1 k hk k e rfl, fun k hk e => h2 k (List.mem_append.2 (.inl hk)) k e rfl, fun k hk e => h2 k (List.mem_append.2 (.inr hk)) k e rfl⟩

end Go.Proofs.YtcboojhabolcbaaGreatDoor.gr
namespace Go.Proofs.YtcboojhabolcbaaGreatDoor.gr
open Go.RowKit rows heads
set_option maxRecDepth 100000

theorem graphAt_slices {w : World} {o r m : Value} {ms : List MO} {G : Gr} (h : GraphAt w o r m ms G) : ∃ a1 n1 c1 a2 n2 c2 a3 n3 c3, o = .slice a1 n1 c1 ∧ r = .slice a2 n2 c2 ∧ m = .slice a3 n3 c3 := by
  obtain ⟨_, ⟨⟨a1, c1, e1, _⟩, _⟩, hR, hM⟩ := h
  obtain ⟨a2, n2, c2, e2⟩ := refs_slice hR
  obtain ⟨a3, n3, c3, e3⟩ := refs_slice hM
  exact ⟨a1, _, c1, a2, n2, c2, a3, n3, c3, e1, e2, e3⟩
theorem slotsLen_abs : ∀ {ms ns : List MO}, ms.map MO.abs = ns.map MO.abs → slotsLen ms = slotsLen ns
  | [], [], _ => rfl
  | [], _ :: _, h => by simp at h
  | _ :: _, [], h => by simp at h
  | m :: ms, n :: ns, h => by
    simp only [List.map_cons, List.cons.injEq] at h
    have e : m.slots = n.slots := congrArg Ob.slots h.1
    simp only [slotsLen, e, slotsLen_abs h.2]
theorem gSize_of {ms ns : List MO} {G : Gr} (h : ms.map MO.abs = G.objs) (h' : ns.map MO.abs = G.objs) (hs : gSize ns G ≤ 1048576) : gSize ms G ≤ 1048576 := by
  have e := h.trans h'.symm
  have e1 := slotsLen_abs e
  have e2 := abs_len e
  unfold gSize at hs ⊢
  omega
end Go.Proofs.YtcboojhabolcbaaGreatDoor.gr
