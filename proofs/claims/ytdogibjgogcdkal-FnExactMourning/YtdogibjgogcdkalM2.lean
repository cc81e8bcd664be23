/-
  Heads in memory: a block that holds one; what is read and stored of it. What the laws do with objects and lists of them: made anew, held against one another. Lists of objects made anew, and held against one another. Objects and lists of them held against one another; how much a list of objects holds. Marks written into lists of objects, and found again. Graphs in memory, and what the laws do with them.
-/
import Derived.Test.YtdogibjgogcdkalM1
import Derived.Deep.RegionLaw
namespace Go.Proofs.Ytdogibjgogcdkal.heads
open Go.RowKit

/-- The block b holds such a head. -/
def HeadAt (w : World) (b : Nat) (s f c h : Int) (p m : Bool) : Prop := w.heap[b]? = some (.cells #[.int .i64 s, .int .i64 f, .int .i64 c, .int .i64 h, .bool p, .bool m] 67 (0, 0))

theorem headAt_cells {w : World} {b : Nat} {s f c h : Int} {p m : Bool} (hh : HeadAt w b s f c h p m) :
    w.cell? ⟨b, 0, none⟩ = some (.int .i64 s) ∧ w.cell? ⟨b, 1, none⟩ = some (.int .i64 f) ∧ w.cell? ⟨b, 2, none⟩ = some (.int .i64 c) ∧ w.cell? ⟨b, 3, none⟩ = some (.int .i64 h) ∧ w.cell? ⟨b, 4, none⟩ = some (.bool p) ∧ w.cell? ⟨b, 5, none⟩ = some (.bool m) ∧ ∀ k, w.frozen? ⟨b, k, none⟩ = false := by
  unfold HeadAt at hh
  refine ⟨?_, ?_, ?_, ?_, ?_, ?_, fun k => ?_⟩
  all_goals simp [World.cell?, World.frozen?, hh]

theorem cells_setCell {w : World} {b : Nat} {c : Array Value} {t : TypeId} (h : w.heap[b]? = some (.cells c t (0, 0))) (k : Nat) (u : Value) :
    (w.setCell ⟨b, k, none⟩ u).heap[b]? = some (.cells (c.setIfInBounds k u) t (0, 0)) := by
  have hlt := lt_of_block h
  have h' : w.heap[b] = .cells c t (0, 0) := by simpa [Array.getElem?_eq_getElem hlt] using h
  show (w.heap.modify b _)[b]? = _
  rw [Array.getElem?_eq_getElem (by simpa using hlt), Array.getElem_modify_self, h']
  rfl
theorem headAt_alloc {w : World} {b : Nat} {s f c h : Int} {p m : Bool} (hh : HeadAt w b s f c h p m) (o : Obj) : HeadAt (w.alloc o) b s f c h p m := (Below.heap_alloc w o b (lt_of_block hh)).trans hh
theorem headAt_new (w : World) (s f c h : Int) (p m : Bool) : HeadAt (w.alloc (hb s f c h p m)) w.heap.size s f c h p m := heap_alloc_new w _
theorem headAt_other {w : World} {b : Nat} {s f c h : Int} {p m : Bool} (hh : HeadAt w b s f c h p m) {q : Addr} (hne : b ≠ q.block) (u : Value) : HeadAt (w.setCell q u) b s f c h p m := (Below.heap_setCell w q u b hne).trans hh
theorem headAt_set0 {w : World} {b : Nat} {s f c h : Int} {p m : Bool} (hh : HeadAt w b s f c h p m) (x : Int) : HeadAt (w.setCell ⟨b, 0, none⟩ (.int .i64 x)) b x f c h p m := (cells_setCell hh 0 _).trans rfl
theorem headAt_set1 {w : World} {b : Nat} {s f c h : Int} {p m : Bool} (hh : HeadAt w b s f c h p m) (x : Int) : HeadAt (w.setCell ⟨b, 1, none⟩ (.int .i64 x)) b s x c h p m := (cells_setCell hh 1 _).trans rfl
theorem headAt_set2 {w : World} {b : Nat} {s f c h : Int} {p m : Bool} (hh : HeadAt w b s f c h p m) (x : Int) : HeadAt (w.setCell ⟨b, 2, none⟩ (.int .i64 x)) b s f x h p m := (cells_setCell hh 2 _).trans rfl
theorem headAt_set3 {w : World} {b : Nat} {s f c h : Int} {p m : Bool} (hh : HeadAt w b s f c h p m) (x : Int) : HeadAt (w.setCell ⟨b, 3, none⟩ (.int .i64 x)) b s f c x p m := (cells_setCell hh 3 _).trans rfl
theorem headAt_set4 {w : World} {b : Nat} {s f c h : Int} {p m : Bool} (hh : HeadAt w b s f c h p m) (x : Bool) : HeadAt (w.setCell ⟨b, 4, none⟩ (.bool x)) b s f c h x m := (cells_setCell hh 4 _).trans rfl
theorem headAt_set5 {w : World} {b : Nat} {s f c h : Int} {p m : Bool} (hh : HeadAt w b s f c h p m) (x : Bool) : HeadAt (w.setCell ⟨b, 5, none⟩ (.bool x)) b s f c h p x := (cells_setCell hh 5 _).trans rfl

theorem res_head {fn : Func} {tmps : Array Value} {X : World} {b : Nat} {s f c h : Int} {p m : Bool} (hf : fn.results = #[.cell 2 67]) (h2 : tmps[2]? = some (.pointer (some ⟨b, 0, none⟩))) (hX : HeadAt X b s f c h p m) :
    (results fn tmps).run Try.prog X = .ok (hv s f c h p m) X := by
  obtain ⟨k0, k1, k2, k3, k4, k5, _⟩ := headAt_cells hX
  clear hX
  simp [results, hf, h2, go_sem, k0, k1, k2, k3, k4, k5]
theorem res_head_at {fn : Func} {tmps : Array Value} {X : World} {j b : Nat} {s f c h : Int} {p m : Bool} (hf : fn.results = #[.cell j 67]) (h2 : tmps[j]? = some (.pointer (some ⟨b, 0, none⟩))) (hX : HeadAt X b s f c h p m) :
    (results fn tmps).run Try.prog X = .ok (hv s f c h p m) X := by
  obtain ⟨k0, k1, k2, k3, k4, k5, _⟩ := headAt_cells hX
  clear hX
  simp [results, hf, h2, go_sem, k0, k1, k2, k3, k4, k5]
theorem res_head_two {fn : Func} {tmps : Array Value} {X : World} {j i k b : Nat} {s f c h : Int} {p m : Bool} {v u : Value} (hf : fn.results = #[.cell j 67, .tmp i, .tmp k]) (h2 : tmps[j]? = some (.pointer (some ⟨b, 0, none⟩))) (hi : tmps[i]? = some v) (hk : tmps[k]? = some u) (hX : HeadAt X b s f c h p m) :
    (results fn tmps).run Try.prog X = .ok (.tuple #[hv s f c h p m, v, u]) X := by
  obtain ⟨k0, k1, k2, k3, k4, k5, _⟩ := headAt_cells hX
  clear hX
  simp [results, hf, h2, hi, hk, go_sem, k0, k1, k2, k3, k4, k5]
theorem headAt_below {w w' : World} {b : Nat} {s f c h : Int} {p m : Bool} (T : HeadAt w b s f c h p m) (hb : Below w.heap.size w w') : HeadAt w' b s f c h p m := (hb.block b (lt_of_block T)).trans T
theorem six_set {X : World} {b : Nat} {s' f' c' h' : Int} {p' m' : Bool} (T : HeadAt X b s' f' c' h' p' m') (s f c h : Int) (p m : Bool) :
    HeadAt ((((((X.setCell ⟨b, 0, none⟩ (.int .i64 s)).setCell ⟨b, 1, none⟩ (.int .i64 f)).setCell ⟨b, 2, none⟩ (.int .i64 c)).setCell ⟨b, 3, none⟩ (.int .i64 h)).setCell ⟨b, 4, none⟩ (.bool p)).setCell ⟨b, 5, none⟩ (.bool m)) b s f c h p m :=
  headAt_set5 (headAt_set4 (headAt_set3 (headAt_set2 (headAt_set1 (headAt_set0 T _) _) _) _) _) _
theorem six_below {n : Nat} {w X : World} {b : Nat} (hB : Below n w X) (hb : n ≤ b) (s f c h : Int) (p m : Bool) : Below n w ((((((X.setCell ⟨b, 0, none⟩ (.int .i64 s)).setCell ⟨b, 1, none⟩ (.int .i64 f)).setCell ⟨b, 2, none⟩ (.int .i64 c)).setCell ⟨b, 3, none⟩ (.int .i64 h)).setCell ⟨b, 4, none⟩ (.bool p)).setCell ⟨b, 5, none⟩ (.bool m)) :=
  (((((hB.setCell (p := ⟨b, 0, none⟩) hb _).setCell (p := ⟨b, 1, none⟩) hb _).setCell (p := ⟨b, 2, none⟩) hb _).setCell (p := ⟨b, 3, none⟩) hb _).setCell (p := ⟨b, 4, none⟩) hb _).setCell (p := ⟨b, 5, none⟩) hb _
end Go.Proofs.Ytdogibjgogcdkal.heads
namespace Go.Proofs.Ytdogibjgogcdkal.gr
open Go.RowKit rows heads
set_option maxRecDepth 100000

theorem infoO : (Try.prog.info? 51).map (fun i => (i.zero, i.size, i.bytes)) = some (some (.agg #[.int .i64 0, .int .i64 0, .int .i64 0, .int .i64 0, .slice none 0 0]), 5, 56) := by kernel_rfl

/-- A block of five cells. -/
def Five (w : World) (b : Nat) (t : TypeId) (c0 c1 c2 c3 c4 : Value) : Prop := w.heap[b]? = some (.cells #[c0, c1, c2, c3, c4] t (0, 0))
theorem five_cells {w : World} {b : Nat} {t : TypeId} {c0 c1 c2 c3 c4 : Value} (h : Five w b t c0 c1 c2 c3 c4) : w.cell? ⟨b, 0, none⟩ = some c0 ∧ w.cell? ⟨b, 1, none⟩ = some c1 ∧ w.cell? ⟨b, 2, none⟩ = some c2 ∧ w.cell? ⟨b, 3, none⟩ = some c3 ∧ w.cell? ⟨b, 4, none⟩ = some c4 ∧ ∀ k, w.frozen? ⟨b, k, none⟩ = false := by
  unfold Five at h
  refine ⟨?_, ?_, ?_, ?_, ?_, fun k => ?_⟩
  all_goals simp [World.cell?, World.frozen?, h]
theorem five_below {w w' : World} {b : Nat} {t : TypeId} {c0 c1 c2 c3 c4 : Value} (h : Five w b t c0 c1 c2 c3 c4) (hb : Below w.heap.size w w') : Five w' b t c0 c1 c2 c3 c4 := (hb.block b (lt_of_block h)).trans h
theorem five_new (w : World) (t : TypeId) (c0 c1 c2 c3 c4 : Value) : Five (w.alloc (.cells #[c0, c1, c2, c3, c4] t)) w.heap.size t c0 c1 c2 c3 c4 := heap_alloc_new w _
theorem five_set0 {w : World} {b : Nat} {t : TypeId} {c0 c1 c2 c3 c4 : Value} (h : Five w b t c0 c1 c2 c3 c4) (u : Value) : Five (w.setCell ⟨b, 0, none⟩ u) b t u c1 c2 c3 c4 := (cells_setCell h 0 u).trans (by simp)
theorem five_set1 {w : World} {b : Nat} {t : TypeId} {c0 c1 c2 c3 c4 : Value} (h : Five w b t c0 c1 c2 c3 c4) (u : Value) : Five (w.setCell ⟨b, 1, none⟩ u) b t c0 u c2 c3 c4 := (cells_setCell h 1 u).trans (by simp)
theorem five_set2 {w : World} {b : Nat} {t : TypeId} {c0 c1 c2 c3 c4 : Value} (h : Five w b t c0 c1 c2 c3 c4) (u : Value) : Five (w.setCell ⟨b, 2, none⟩ u) b t c0 c1 u c3 c4 := (cells_setCell h 2 u).trans (by simp)
theorem five_set3 {w : World} {b : Nat} {t : TypeId} {c0 c1 c2 c3 c4 : Value} (h : Five w b t c0 c1 c2 c3 c4) (u : Value) : Five (w.setCell ⟨b, 3, none⟩ u) b t c0 c1 c2 u c4 := (cells_setCell h 3 u).trans (by simp)
theorem five_set4 {w : World} {b : Nat} {t : TypeId} {c0 c1 c2 c3 c4 : Value} (h : Five w b t c0 c1 c2 c3 c4) (u : Value) : Five (w.setCell ⟨b, 4, none⟩ u) b t c0 c1 c2 c3 u := (cells_setCell h 4 u).trans (by simp)
theorem five_sets {w : World} {b : Nat} {t : TypeId} {c0 c1 c2 c3 c4 : Value} (h : Five w b t c0 c1 c2 c3 c4) (u0 u1 u2 u3 u4 : Value) : Five (((((w.setCell ⟨b, 0, none⟩ u0).setCell ⟨b, 1, none⟩ u1).setCell ⟨b, 2, none⟩ u2).setCell ⟨b, 3, none⟩ u3).setCell ⟨b, 4, none⟩ u4) b t u0 u1 u2 u3 u4 :=
  five_set4 (five_set3 (five_set2 (five_set1 (five_set0 h _) _) _) _) _
theorem five_belows {n : Nat} {w X : World} {b : Nat} (hB : Below n w X) (hb : n ≤ b) (u0 u1 u2 u3 u4 : Value) : Below n w (((((X.setCell ⟨b, 0, none⟩ u0).setCell ⟨b, 1, none⟩ u1).setCell ⟨b, 2, none⟩ u2).setCell ⟨b, 3, none⟩ u3).setCell ⟨b, 4, none⟩ u4) :=
  ((((hB.setCell (p := ⟨b, 0, none⟩) hb _).setCell (p := ⟨b, 1, none⟩) hb _).setCell (p := ⟨b, 2, none⟩) hb _).setCell (p := ⟨b, 3, none⟩) hb _).setCell (p := ⟨b, 4, none⟩) hb _
theorem five_other {X : World} {b : Nat} (u0 u1 u2 u3 u4 : Value) : Ch [b] X (((((X.setCell ⟨b, 0, none⟩ u0).setCell ⟨b, 1, none⟩ u1).setCell ⟨b, 2, none⟩ u2).setCell ⟨b, 3, none⟩ u3).setCell ⟨b, 4, none⟩ u4) := by
  have one : ∀ (Y : World) (k : Nat) (u : Value), Ch [b] Y (Y.setCell ⟨b, k, none⟩ u) := fun Y k u => ⟨rfl, rfl, rfl, by simp, fun j _ hn => Below.heap_setCell Y _ u j (fun e => hn (by simp [e]))⟩
  exact ((((one _ 0 _).trans (one _ 1 _)).trans (one _ 2 _)).trans (one _ 3 _)).trans (one _ 4 _)
theorem res_five {fn : Func} {tmps : Array Value} {X : World} {j b : Nat} {x0 x1 x2 x3 : Int} {a : Option Addr} {n c : Nat} (hf : fn.results = #[.cell j 51]) (h2 : tmps[j]? = some (.pointer (some ⟨b, 0, none⟩))) (hX : Five X b 51 (.int .i64 x0) (.int .i64 x1) (.int .i64 x2) (.int .i64 x3) (.slice a n c)) :
    (results fn tmps).run Try.prog X = .ok (.agg #[.int .i64 x0, .int .i64 x1, .int .i64 x2, .int .i64 x3, .slice a n c]) X := by
  obtain ⟨k0, k1, k2, k3, k4, _⟩ := five_cells hX
  clear hX
  simp [results, hf, h2, go_sem, k0, k1, k2, k3, k4]

set_option maxHeartbeats 4000000 in
theorem toObj_any {w : World} (m : MO) (h : RefsAt w m.sv m.slots) (hl : m.slots.length ≤ 1048576) :
    Calls Try.prog 63 #[ov m] w fun e w' => ∃ q, w.heap.size ≤ q ∧ e = .returned (ov { m with sv := .slice (some ⟨q, 0, none⟩) m.slots.length m.slots.length }) ∧ FullR w' q m.slots ∧ Below w.heap.size w w' := by
  obtain ⟨x0, x1, x2, x3, sv, es⟩ := m
  obtain ⟨a, cap, hsv, h1, h2, h4, h3⟩ := h
  have h : RefsAt w sv es := ⟨a, cap, hsv, h1, h2, h4, h3⟩
  clear h1 h2 h4 h3
  have hsv : sv = .slice a es.length cap := hsv
  subst hsv
  obtain ⟨X, hX⟩ : ∃ X, X = ((w.alloc (.cells #[.int .i64 x0, .int .i64 x1, .int .i64 x2, .int .i64 x3, .slice a es.length cap] 75)).alloc (.cells #[.int .i64 0, .int .i64 0, .int .i64 0, .int .i64 0, .slice none 0 0] 51)).alloc (.cells #[.int .i64 x0, .int .i64 x1, .int .i64 x2, .int .i64 x3, .slice none 0 0] 51) := ⟨_, rfl⟩
  have HX : Hid _ := hX
  have BX : Below w.heap.size w X := by
    rw [hX]
    exact (((Below.refl _ w).alloc (Nat.le_refl _) _).alloc (by simp) _).alloc (by simp; omega) _
  have sX : X.heap.size = w.heap.size + 3 := by rw [hX]; simp
  have T2 : Five X (w.heap.size + 1) 51 (.int .i64 0) (.int .i64 0) (.int .i64 0) (.int .i64 0) (.slice none 0 0) := by
    rw [hX]
    have := five_new (w.alloc (.cells #[.int .i64 x0, .int .i64 x1, .int .i64 x2, .int .i64 x3, .slice a es.length cap] 75)) 51 (.int .i64 0) (.int .i64 0) (.int .i64 0) (.int .i64 0) (.slice none 0 0)
    have := five_below this ((Below.refl _ _).alloc (Nat.le_refl _) (.cells #[.int .i64 x0, .int .i64 x1, .int .i64 x2, .int .i64 x3, .slice none 0 0] 51))
    simpa using this
  have T3 : Five X (w.heap.size + 2) 51 (.int .i64 x0) (.int .i64 x1) (.int .i64 x2) (.int .i64 x3) (.slice none 0 0) := by
    rw [hX]
    have := five_new ((w.alloc (.cells #[.int .i64 x0, .int .i64 x1, .int .i64 x2, .int .i64 x3, .slice a es.length cap] 75)).alloc (.cells #[.int .i64 0, .int .i64 0, .int .i64 0, .int .i64 0, .slice none 0 0] 51)) 51 (.int .i64 x0) (.int .i64 x1) (.int .i64 x2) (.int .i64 x3) (.slice none 0 0)
    simpa using this
  have TR := toRefS_any (refsAt_below h BX) hl
  clear hX h
  go_enter Try.func63, Try.ntmps63
  go_wp2_with fail
  rw [← HX.out]
  refine TR.mono ?_
  rintro e w2 ⟨rfl, F2, b2⟩
  have U2 := five_below T2 b2
  have U3 := five_below T3 b2
  have s2 := b2.size
  have hq : w.heap.size ≤ X.heap.size := by omega
  have l2 : w.heap.size ≤ w.heap.size + 1 := by omega
  have l3 : w.heap.size ≤ w.heap.size + 1 + 1 := by omega
  have n23 : w.heap.size + 1 ≠ w.heap.size + 1 + 1 := by omega
  have n2q : X.heap.size ∉ [w.heap.size + 1] := by simp; omega
  have n3q : X.heap.size ∉ [w.heap.size + 1 + 1] := by simp; omega
  have B2 := BX.trans (b2.mono hq)
  have lq := lt_of_block F2
  obtain ⟨k0, k1, k2, k3, k4, kf⟩ := five_cells U2
  obtain ⟨j0, j1, j2, j3, j4, jf⟩ := five_cells U3
  have f4 := jf 4
  have z0 := kf 0
  have z1 := kf 1
  have z2 := kf 2
  have z3 := kf 3
  have z4 := kf 4
  have HU2 : Hid _ := U2
  have HF2 : Hid _ := F2
  have HB2 : Hid _ := B2
  clear U2 U3 T2 T3 TR HX BX b2 F2 B2 kf jf sX s2
  generalize X.heap.size = q at *
  generalize hb3 : w.heap.size + 1 + 1 = B3 at *
  generalize hb2 : w.heap.size + 1 = B2 at *
  go_wp2
  have V2 : Five (w2.setCell ⟨B3, 4, none⟩ (.slice (some ⟨q, 0, none⟩) es.length es.length)) B2 51 (.int .i64 0) (.int .i64 0) (.int .i64 0) (.int .i64 0) (.slice none 0 0) := (Below.heap_setCell w2 ⟨B3, 4, none⟩ _ B2 n23).trans HU2.out
  have V3 : FullR (w2.setCell ⟨B3, 4, none⟩ (.slice (some ⟨q, 0, none⟩) es.length es.length)) q es := (Below.heap_setCell w2 ⟨B3, 4, none⟩ _ q (by simpa using n3q)).trans HF2.out
  exact bodyPost_ret (res_five rfl rfl (five_sets V2 (.int .i64 x0) (.int .i64 x1) (.int .i64 x2) (.int .i64 x3) (.slice (some ⟨q, 0, none⟩) es.length es.length))) rfl ⟨q, hq, rfl, ((five_other _ _ _ _ _).block q (by simpa using lq) n2q).trans V3, five_belows (HB2.out.setCell (p := ⟨B3, 4, none⟩) l3 _) l2 _ _ _ _ _⟩
end Go.Proofs.Ytdogibjgogcdkal.gr
namespace Go.Proofs.Ytdogibjgogcdkal.gr
open Go.RowKit rows heads
set_option maxRecDepth 100000

/-- One block that holds just these objects. -/
def FullO (w : World) (b : Nat) (ms : List MO) : Prop := w.heap[b]? = some (.cells (cellsO ms).toArray 51 (0, 0))
theorem fullO_own {w : World} {b base : Nat} {ms : List MO} (h : FullO w b ms) (hb : base ≤ b) (hm : ms.length ≤ maxLen) : OwnRow w base (.slice (some ⟨b, 0, none⟩) ms.length ms.length) ms :=
  ⟨cellsO_length ms, .inr ⟨b, ms.length, _, rfl, hb, h, Nat.le_refl _, hm, by simp [cellsO_length], List.take_of_length_le (by simp [cellsO_length])⟩⟩
theorem fullO_below {w w' : World} {b : Nat} {ms : List MO} (h : FullO w b ms) (hb : Below w.heap.size w w') : FullO w' b ms := (hb.block b (lt_of_block h)).trans h
theorem fullO_cell {w : World} {b : Nat} {ms : List MO} (h : FullO w b ms) {i : Nat} (hi : i < ms.length) : w.cell? ⟨b, i * 5, none⟩ = some (.int .i64 (ms.getD i moD).id) ∧ w.cell? ⟨b, i * 5 + 1, none⟩ = some (.int .i64 (ms.getD i moD).cls) ∧ w.cell? ⟨b, i * 5 + 2, none⟩ = some (.int .i64 (ms.getD i moD).fmt) ∧ w.cell? ⟨b, i * 5 + 3, none⟩ = some (.int .i64 (ms.getD i moD).hash) ∧ w.cell? ⟨b, i * 5 + 4, none⟩ = some (ms.getD i moD).sv := by
  obtain ⟨c0, c1, c2, c3, c4⟩ := cellsO_at ms i hi
  unfold FullO at h
  refine ⟨?_, ?_, ?_, ?_, ?_⟩
  all_goals simp [World.cell?, h]
  · exact c0
  · exact c1
  · exact c2
  · exact c3
  · exact c4
theorem fullO_frozen {w : World} {b : Nat} {ms : List MO} (h : FullO w b ms) (i : Nat) : w.frozen? ⟨b, i, none⟩ = false := by
  unfold FullO at h
  simp [World.frozen?, h]
theorem fullO_set {w : World} {b : Nat} {ms : List MO} (h : FullO w b ms) (i : Nat) (m : MO) : FullO (((((w.setCell ⟨b, i * 5, none⟩ (.int .i64 m.id)).setCell ⟨b, i * 5 + 1, none⟩ (.int .i64 m.cls)).setCell ⟨b, i * 5 + 2, none⟩ (.int .i64 m.fmt)).setCell ⟨b, i * 5 + 3, none⟩ (.int .i64 m.hash)).setCell ⟨b, i * 5 + 4, none⟩ m.sv) b (ms.set i m) := by
  have h1 := cells_setCell h (i * 5) (.int .i64 m.id)
  have h2 := cells_setCell h1 (i * 5 + 1) (.int .i64 m.cls)
  have h3 := cells_setCell h2 (i * 5 + 2) (.int .i64 m.fmt)
  have h4 := cells_setCell h3 (i * 5 + 3) (.int .i64 m.hash)
  have h5 := cells_setCell h4 (i * 5 + 4) m.sv
  refine h5.trans ?_
  rw [← cellsO_set ms i m]
  simp
/-- An object stored at the place k of a block. -/
abbrev put5 (X : World) (b k : Nat) (m : MO) : World := ((((X.setCell ⟨b, k * 5, none⟩ (.int .i64 m.id)).setCell ⟨b, k * 5 + 1, none⟩ (.int .i64 m.cls)).setCell ⟨b, k * 5 + 2, none⟩ (.int .i64 m.fmt)).setCell ⟨b, k * 5 + 3, none⟩ (.int .i64 m.hash)).setCell ⟨b, k * 5 + 4, none⟩ m.sv
theorem sets_ch {X : World} {b k0 k1 k2 k3 k4 : Nat} (u0 u1 u2 u3 u4 : Value) : Ch [b] X (((((X.setCell ⟨b, k0, none⟩ u0).setCell ⟨b, k1, none⟩ u1).setCell ⟨b, k2, none⟩ u2).setCell ⟨b, k3, none⟩ u3).setCell ⟨b, k4, none⟩ u4) := by
  have one : ∀ (Y : World) (k : Nat) (u : Value), Ch [b] Y (Y.setCell ⟨b, k, none⟩ u) := fun Y k u => ⟨rfl, rfl, rfl, by simp, fun j _ hn => Below.heap_setCell Y _ u j (fun e => hn (by simp [e]))⟩
  exact ((((one _ k0 _).trans (one _ k1 _)).trans (one _ k2 _)).trans (one _ k3 _)).trans (one _ k4 _)
theorem setM_snoc {rs : List MO} {n : Nat} (m : MO) (h : rs.length < n) : (rs ++ List.replicate (n - rs.length) moD).set rs.length m = (rs ++ [m]) ++ List.replicate (n - (rs.length + 1)) moD := by
  rw [List.set_append_right _ _ (Nat.le_refl _), Nat.sub_self]
  obtain ⟨d, hd⟩ : ∃ d, n - rs.length = d + 1 := ⟨n - rs.length - 1, by omega⟩
  rw [hd, List.replicate_succ, show n - (rs.length + 1) = d by omega]
  simp
theorem made_objs (n : Nat) : (madeCells #[Value.int .i64 0, .int .i64 0, .int .i64 0, .int .i64 0, .slice none 0 0] (n * 5)).toList = cellsO (List.replicate n moD) := by
  unfold madeCells
  rw [Array.toList_map, Array.toList_range]
  induction n with
  | zero => rfl
  | succ n ih =>
    rw [show (n + 1) * 5 = n * 5 + 1 + 1 + 1 + 1 + 1 by omega, List.range_succ, List.range_succ, List.range_succ, List.range_succ, List.range_succ, List.replicate_succ', cellsO_append, ← ih]
    have h0 : n * 5 % 5 = 0 := by omega
    have h1 : (n * 5 + 1) % 5 = 1 := by omega
    have h2 : (n * 5 + 1 + 1) % 5 = 2 := by omega
    have h3 : (n * 5 + 1 + 1 + 1) % 5 = 3 := by omega
    have h4 : (n * 5 + 1 + 1 + 1 + 1) % 5 = 4 := by omega
    simp [cellsO, h0, h1, h2, h3, h4]
theorem full_of_made {w : World} {base g n : Nat} {cs : List Value} {ms : List MO} (h : w.ownsRow base 51 5 (.slice (some ⟨g, 0, none⟩) n n) n cs) (hcs : cs = cellsO ms) : FullO w g ms := by
  subst hcs
  obtain ⟨h0, ⟨h1, _⟩ | ⟨g', cap, cur, h1, hg, hh, hle, hm, hs, ht⟩⟩ := h
  · cases h1
  · injection h1 with e1 e2 e3
    injection e1 with e1
    injection e1 with e1
    subst e1 e3
    unfold FullO
    rw [hh]
    rw [List.take_of_length_le (by simpa using Nat.le_of_eq hs)] at ht
    rw [← ht]
theorem blks_append (ms ns : List MO) : blks (ms ++ ns) = blks ms ++ blks ns := by simp [blks]
theorem take_succM {ms : List MO} {k : Nat} (h : k < ms.length) : ms.take (k + 1) = ms.take k ++ [ms.getD k moD] := by
  rw [List.take_add_one, List.getD_eq_getElem?_getD, List.getElem?_eq_getElem h]
  rfl

set_option maxHeartbeats 4000000 in
theorem toObjS_any {w : World} {v : Value} {ms : List MO} (h : ObjsAt w v ms) (hl : ms.length ≤ 1048576) (hsl : ∀ m ∈ ms, m.slots.length ≤ 1048576) :
    Calls Try.prog 31 #[v] w fun e w' => ∃ (u : Value) (rs : List MO), e = .returned u ∧ rs.map MO.abs = ms.map MO.abs ∧ OwnO w' w.heap.size u rs ∧ Below w.heap.size w w' := by
  obtain ⟨⟨a, cap, rfl, hlc, hcm, _, hc⟩, hrefs⟩ := h
  obtain ⟨i0, hi, hz0, hz1, hz2⟩ := info_parts infoO
  have HC : Hid _ := hc
  have HRF : Hid _ := hrefs
  clear hc hrefs
  go_enter Try.func31, Try.ntmps31
  go_wp2_with (at_make; refine wpList_make_full _ rfl _ _ 29 rfl w.heap.size 51 i0 (.agg #[.int .i64 0, .int .i64 0, .int .i64 0, .int .i64 0, .slice none 0 0]) 5 Try.underlying29 hi hz0 hz1 _ _ _ _ ms.length rfl rfl rfl rfl (by rw [hz2]; omega) (by unfold maxLen; omega) (Nat.le_refl _) ?_; intro w1 hown hgrow)
  have F : FullO w1 w.heap.size ([] ++ List.replicate (ms.length - 0) moD) := full_of_made hown (by simpa [Value.cells] using made_objs ms.length)
  have B : Below w.heap.size w w1 := (Below.refl _ _).grown hgrow (Nat.le_refl _) (fun k e => by cases e)
  clear hown hgrow hi hz0 hz1 hz2
  go_loopw [4] (fun i wr => ∃ rs : List MO, rs.length ≤ ms.length ∧ i = .int .i64 (rs.length : Nat) ∧ rs.map MO.abs = (ms.take rs.length).map MO.abs ∧ FullO wr w.heap.size (rs ++ List.replicate (ms.length - rs.length) moD) ∧ (∀ m ∈ rs, OwnR wr w.heap.size m.sv m.slots) ∧ (w.heap.size :: blks rs).Nodup ∧ Below w.heap.size w wr) (fun i _ => ms.length - (intOf i).toNat)
  case atStart => exact ⟨[], Nat.zero_le _, rfl, rfl, F, (fun m hm => by cases hm), by simp [blks], B⟩
  case round =>
    obtain ⟨rs, hk, rfl, hab, Fr, Or, Nr, Br⟩ := hrel
    clear F B
    by_cases hlt : rs.length < ms.length
    · obtain ⟨b, off, rfl, hb, hc⟩ := HC.out (by omega)
      obtain ⟨q0, q1, q2, q3, q4⟩ := hc rs.length hlt
      have c0 := (Br.cell (p := ⟨b, off + rs.length * 5, none⟩) hb).trans q0
      have c1 := (Br.cell (p := ⟨b, off + rs.length * 5 + 1, none⟩) hb).trans q1
      have c2 := (Br.cell (p := ⟨b, off + rs.length * 5 + 2, none⟩) hb).trans q2
      have c3 := (Br.cell (p := ⟨b, off + rs.length * 5 + 3, none⟩) hb).trans q3
      have c4 := (Br.cell (p := ⟨b, off + rs.length * 5 + 4, none⟩) hb).trans q4
      have hmem := mem_getD hlt
      have T := toObj_any (w := wr) (ms.getD rs.length moD) (refsAt_below (HRF.out _ hmem) ⟨Br.os, Br.tape, Br.output, Br.size, Br.block⟩) (hsl _ hmem)
      have hsl' := hsl _ hmem
      have ts := take_succM hlt
      have lt0 := lt_of_block Fr
      obtain ⟨a1, n1, cc1, esv⟩ := refs_slice (HRF.out _ hmem)
      have HAB : Hid _ := hab
      have HTS : Hid _ := ts
      have HFr : Hid _ := Fr
      have HOr : Hid _ := Or
      have HN1 : Hid _ := (List.nodup_cons.1 Nr).1
      have HN2 : Hid _ := (List.nodup_cons.1 Nr).2
      have HBr : Hid _ := Br
      clear hc HC HRF q0 q1 q2 q3 q4 hab ts Fr Or Nr Br hmem
      generalize ms.getD rs.length moD = x at *
      obtain ⟨x0, x1, x2, x3, sv, es⟩ := x
      have esv : sv = .slice a1 n1 cc1 := esv
      subst esv
      go_wp2_with fail
      refine T.mono ?_
      rintro e w2 ⟨q, hq, rfl, F2, b2⟩
      obtain ⟨m', hm'⟩ : ∃ m' : MO, m' = ⟨x0, x1, x2, x3, .slice (some ⟨q, 0, none⟩) es.length es.length, es⟩ := ⟨_, rfl⟩
      have FF := fullO_below HFr.out b2
      have hfit : rs.length < (rs ++ List.replicate (ms.length - rs.length) moD).length := by simp; omega
      obtain ⟨d0, d1, d2, d3, d4⟩ := fullO_cell FF hfit
      have f0 := fullO_frozen FF (rs.length * 5)
      have f1 := fullO_frozen FF (rs.length * 5 + 1)
      have f2 := fullO_frozen FF (rs.length * 5 + 2)
      have f3 := fullO_frozen FF (rs.length * 5 + 3)
      have f4 := fullO_frozen FF (rs.length * 5 + 4)
      have F3 := fullO_set FF rs.length m'
      rw [setM_snoc m' hlt] at F3
      have CH := sets_ch (X := w2) (b := w.heap.size) (k0 := rs.length * 5) (k1 := rs.length * 5 + 1) (k2 := rs.length * 5 + 2) (k3 := rs.length * 5 + 3) (k4 := rs.length * 5 + 4) (.int .i64 m'.id) (.int .i64 m'.cls) (.int .i64 m'.fmt) (.int .i64 m'.hash) m'.sv
      have B3 := ((((((HBr.out.trans (b2.mono HBr.out.size)).setCell (p := ⟨w.heap.size, rs.length * 5, none⟩) (Nat.le_refl _) (.int .i64 m'.id)).setCell (p := ⟨w.heap.size, rs.length * 5 + 1, none⟩) (Nat.le_refl _) (.int .i64 m'.cls)).setCell (p := ⟨w.heap.size, rs.length * 5 + 2, none⟩) (Nat.le_refl _) (.int .i64 m'.fmt)).setCell (p := ⟨w.heap.size, rs.length * 5 + 3, none⟩) (Nat.le_refl _) (.int .i64 m'.hash)).setCell (p := ⟨w.heap.size, rs.length * 5 + 4, none⟩) (Nat.le_refl _) m'.sv)
      have hNr : w.heap.size ∉ blks rs ∧ (blks rs).Nodup := ⟨HN1.out, HN2.out⟩
      have hwq : w.heap.size < q := by omega
      have elen : es.length ≤ 1048576 := by
        have := hsl'
        simpa using this
      have O3 : ∀ m ∈ rs ++ [m'], OwnR (put5 w2 w.heap.size rs.length m') w.heap.size m.sv m.slots := by
        intro m hm
        rw [List.mem_append, List.mem_singleton] at hm
        rcases hm with hm | rfl
        · refine row_ch (ownR_below (HOr.out m hm) b2) CH (fun k hk e => ?_)
          rw [List.mem_singleton] at e
          subst e
          exact hNr.1 (by simp only [blks, List.mem_flatMap]; exact ⟨m, hm, hk⟩)
        · rw [hm']
          refine row_ch (fullR_own F2 (by omega) (by unfold maxLen; omega)) (hm' ▸ CH) (fun k hk e => ?_)
          simp only [blk, Value.ownBlock, Option.toList, List.mem_singleton] at hk e
          omega
      have N3 : (w.heap.size :: blks (rs ++ [m'])).Nodup := by
        have hq' : ∀ k ∈ blks rs, k < q := by
          intro k hk
          simp only [blks, List.mem_flatMap] at hk
          obtain ⟨m, hm, hk⟩ := hk
          have := (blk_lt (HOr.out m hm) k hk).2
          omega
        have eb : blks [m'] = [q] := by rw [hm']; simp [blks, blk, Value.ownBlock]
        rw [blks_append, eb, List.nodup_cons]
        refine ⟨?_, ?_⟩
        · rw [List.mem_append, List.mem_singleton]
          rintro (h1 | h1)
          · exact hNr.1 h1
          · omega
        · rw [List.nodup_append]
          refine ⟨hNr.2, by simp, fun x hx y hy => ?_⟩
          rw [List.mem_singleton] at hy
          have := hq' x hx
          omega
      have A3 : (rs ++ [m']).map MO.abs = (ms.take (rs ++ [m']).length).map MO.abs := by
        rw [List.length_append, List.length_singleton, HTS.out, List.map_append, List.map_append, HAB.out, hm']
        rfl
      have HF3 : Hid _ := F3
      have HB3 : Hid _ := B3
      have HO3 : Hid _ := O3
      have HN3 : Hid _ := N3
      have HA3 : Hid _ := A3
      have HL3 : Hid ((rs ++ [m']).length = rs.length + 1) := by show _ = _; simp
      clear F3 B3 O3 N3 A3 FF CH T HAB HTS HFr HOr HN1 HN2 HBr b2 F2 hNr
      subst hm'
      generalize ((rs ++ List.replicate (ms.length - rs.length) moD).getD rs.length moD) = y at *
      obtain ⟨y0, y1, y2, y3, yv, ys⟩ := y
      go_wp2
      exact ⟨⟨rs ++ [(MO.mk x0 x1 x2 x3 (.slice (some ⟨q, 0, none⟩) es.length es.length) es)], by rw [HL3.out]; omega, by rw [HL3.out]; go_num, HA3.out, by rw [HL3.out]; exact HF3.out, HO3.out, HN3.out, HB3.out⟩, by simp [intOf]; omega⟩
    · have e : rs.length = ms.length := by omega
      have O : OwnO wr w.heap.size (.slice (some ⟨w.heap.size, 0, none⟩) ms.length ms.length) rs := by
        have F0 : FullO wr w.heap.size rs := by
          rw [e] at Fr
          simpa using Fr
        have := fullO_own (base := w.heap.size) F0 (Nat.le_refl _) (by unfold maxLen; omega)
        rw [e] at this
        refine ⟨this, Or, ?_⟩
        have eb : blk (Value.slice (some ⟨w.heap.size, 0, none⟩) ms.length ms.length) = [w.heap.size] := rfl
        rw [eb]
        simpa using Nr
      have A : rs.map MO.abs = ms.map MO.abs := by
        rw [hab, e, List.take_length]
      have HO : Hid _ := O
      have HA : Hid _ := A
      have HB : Hid _ := Br
      clear O A Br Fr Or Nr hab HC HRF
      go_wp2
      go_ret
      exact ⟨_, rs, rfl, HA, HO, HB⟩
end Go.Proofs.Ytdogibjgogcdkal.gr
namespace Go.Proofs.Ytdogibjgogcdkal.gr
open Go.RowKit rows heads
set_option maxRecDepth 100000

set_option maxHeartbeats 4000000 in
theorem eqObj_same {w : World} (m n : MO) (he : m.abs = n.abs) (h1 : RefsAt w m.sv m.slots) (h2 : RefsAt w n.sv n.slots) (hl : m.slots.length ≤ 1048576) :
    Calls Try.prog 72 #[ov m, ov n] w fun e w' => e = .returned (.bool true) ∧ Below w.heap.size w w' := by
  obtain ⟨x0, x1, x2, x3, sv, es⟩ := m
  obtain ⟨y0, y1, y2, y3, tv, fs⟩ := n
  injection he with e0 e1 e2 e3 e4
  have e0 : x0 = y0 := e0
  have e1 : x1 = y1 := e1
  have e2 : x2 = y2 := e2
  have e3 : x3 = y3 := e3
  have e4 : es = fs := e4
  subst e0 e1 e2 e3 e4
  have B : Below w.heap.size w ((w.alloc (ob ⟨x0, x1, x2, x3, sv, es⟩)).alloc (ob ⟨x0, x1, x2, x3, tv, es⟩)) := ((Below.refl _ w).alloc (Nat.le_refl _) _).alloc (by simp) _
  have EQ := eqRefS_same (refsAt_below h1 B) (refsAt_below h2 B) hl
  obtain ⟨a1, n1, cc1, esv⟩ := refs_slice h1
  obtain ⟨a2, n2, cc2, etv⟩ := refs_slice h2
  have esv : sv = .slice a1 n1 cc1 := esv
  have etv : tv = .slice a2 n2 cc2 := etv
  subst esv etv
  have i0 : (x0 != x0) = false := by simp
  have i1 : (x1 != x1) = false := by simp
  have i2 : (x2 != x2) = false := by simp
  have i3 : (x3 != x3) = false := by simp
  have HB : Hid _ := B
  clear B h1 h2
  go_enter Try.func72, Try.ntmps72
  go_wp2_with (go_at_call 36; refine EQ.mono ?_; rintro e w2 ⟨rfl, b2⟩; have HB2 : Hid _ := HB.out.trans (b2.mono HB.out.size); clear b2 EQ)
  go_ret
  exact ⟨rfl, HB2⟩

theorem abs_len {ms ns : List MO} (h : ms.map MO.abs = ns.map MO.abs) : ms.length = ns.length := by simpa using congrArg List.length h
theorem abs_at {ms ns : List MO} (h : ms.map MO.abs = ns.map MO.abs) (i : Nat) : (ms.getD i moD).abs = (ns.getD i moD).abs := by
  rw [← abs_getD, ← abs_getD, h]

set_option maxHeartbeats 4000000 in
theorem eqObjS_same {w : World} {v1 v2 : Value} {ms ns : List MO} (he : ms.map MO.abs = ns.map MO.abs) (h1 : ObjsAt w v1 ms) (h2 : ObjsAt w v2 ns) (hsl : ∀ m ∈ ms, m.slots.length ≤ 1048576) :
    Calls Try.prog 35 #[v1, v2] w fun e w' => e = .returned (.bool true) ∧ Below w.heap.size w w' := by
  have hlen := abs_len he
  obtain ⟨⟨a, cap, rfl, hlc, hcm, _, hc⟩, hrf⟩ := h1
  obtain ⟨⟨a', cap', rfl, hlc', hcm', _, hc'⟩, hrf'⟩ := h2
  rw [← hlen] at *
  have hcb : cap ≤ 9223372036854775807 := hcm
  have HC : Hid _ := hc
  have HC' : Hid _ := hc'
  have HR : Hid _ := hrf
  have HR' : Hid _ := hrf'
  clear hc hc' hrf hrf' hlen
  go_enter Try.func35, Try.ntmps35
  go_wp2_with fail
  go_loopw [5] (fun i wr => ∃ k : Nat, k ≤ ms.length ∧ i = .int .i64 k ∧ Below w.heap.size w wr) (fun i _ => ms.length - (intOf i).toNat)
  case atStart => exact ⟨0, Nat.zero_le _, rfl, Below.refl _ _⟩
  case round =>
    obtain ⟨k, hk, rfl, Br⟩ := hrel
    by_cases hlt : k < ms.length
    · obtain ⟨b, off, rfl, hb, hc⟩ := HC.out (by omega)
      obtain ⟨b', off', rfl, hb', hc'⟩ := HC'.out (by omega)
      obtain ⟨q0, q1, q2, q3, q4⟩ := hc k hlt
      obtain ⟨p0, p1, p2, p3, p4⟩ := hc' k hlt
      have c0 := (Br.cell (p := ⟨b, off + k * 5, none⟩) hb).trans q0
      have c1 := (Br.cell (p := ⟨b, off + k * 5 + 1, none⟩) hb).trans q1
      have c2 := (Br.cell (p := ⟨b, off + k * 5 + 2, none⟩) hb).trans q2
      have c3 := (Br.cell (p := ⟨b, off + k * 5 + 3, none⟩) hb).trans q3
      have c4 := (Br.cell (p := ⟨b, off + k * 5 + 4, none⟩) hb).trans q4
      have d0 := (Br.cell (p := ⟨b', off' + k * 5, none⟩) hb').trans p0
      have d1 := (Br.cell (p := ⟨b', off' + k * 5 + 1, none⟩) hb').trans p1
      have d2 := (Br.cell (p := ⟨b', off' + k * 5 + 2, none⟩) hb').trans p2
      have d3 := (Br.cell (p := ⟨b', off' + k * 5 + 3, none⟩) hb').trans p3
      have d4 := (Br.cell (p := ⟨b', off' + k * 5 + 4, none⟩) hb').trans p4
      have m1 := mem_getD hlt
      have m2 : ns.getD k moD ∈ ns := mem_getD (by have := abs_len he; omega)
      have D : Below w.heap.size w wr.drew := Br.drew
      have E := eqObj_same (w := wr.drew) (ms.getD k moD) (ns.getD k moD) (abs_at he k) (refsAt_below (HR.out _ m1) D) (refsAt_below (HR'.out _ m2) D) (hsl _ m1)
      obtain ⟨a1, n1, cc1, esv⟩ := refs_slice (HR.out _ m1)
      obtain ⟨a2, n2, cc2, etv⟩ := refs_slice (HR'.out _ m2)
      have HB : Hid _ := Br
      clear hc hc' HC HC' HR HR' q0 q1 q2 q3 q4 p0 p1 p2 p3 p4 m1 m2 D Br
      generalize ms.getD k moD = x at *
      generalize ns.getD k moD = y at *
      obtain ⟨x0, x1, x2, x3, sv, es⟩ := x
      obtain ⟨y0, y1, y2, y3, tv, fs⟩ := y
      have esv : sv = .slice a1 n1 cc1 := esv
      have etv : tv = .slice a2 n2 cc2 := etv
      subst esv etv
      go_wp2_with fail
      go_region_law (go_simp; go_at_call 72; refine E.mono ?_; clear E; rintro e w2 ⟨rfl, b2⟩; have HB2 : Hid _ := HB.out.drew.trans (b2.mono HB.out.size); clear b2)
      all_goals go_wp2
      all_goals exact ⟨⟨k + 1, by omega, by go_num, HB2⟩, by simp [intOf]; omega⟩
    · have HB : Hid _ := Br
      clear Br HC HC' HR HR'
      go_wp2
      go_ret
      exact ⟨rfl, HB⟩

/-- All refs of all objects. -/
def slotsLen : List MO → Nat
  | [] => 0
  | m :: ms => m.slots.length + slotsLen ms
theorem slotsLen_take_succ : ∀ {ms : List MO} {k : Nat}, k < ms.length → slotsLen (ms.take (k + 1)) = slotsLen (ms.take k) + (ms.getD k moD).slots.length
  | [], _, h => by simp at h
  | e :: ms, 0, _ => by simp [slotsLen]
  | e :: ms, k + 1, h => by
    have := slotsLen_take_succ (ms := ms) (k := k) (by simpa using h)
    simp [slotsLen] at this ⊢
    omega
theorem slotsLen_take_le : ∀ (ms : List MO) (k : Nat), slotsLen (ms.take k) ≤ slotsLen ms
  | [], k => by simp [slotsLen]
  | e :: ms, 0 => by simp [slotsLen]
  | e :: ms, k + 1 => by
    have := slotsLen_take_le ms k
    simp [slotsLen]
    omega
theorem slots_le : ∀ {ms : List MO} {m : MO}, m ∈ ms → m.slots.length ≤ slotsLen ms
  | [], _, h => by cases h
  | e :: ms, m, h => by
    rcases List.mem_cons.1 h with rfl | h
    · simp [slotsLen]
    · have := slots_le h
      simp [slotsLen]; omega

theorem szObj_any {w : World} (m : MO) (h : RefsAt w m.sv m.slots) (left : Nat) (hl : left ≤ 1048576) :
    Calls Try.prog 57 #[ov m, .int .i64 left] w fun e w' => e = .returned (.int .i64 (if m.slots.length ≤ left then (left : Int) - m.slots.length else -1)) ∧ Below w.heap.size w w' := by
  obtain ⟨x0, x1, x2, x3, sv, es⟩ := m
  have B : Below w.heap.size w (w.alloc (.cells #[.int .i64 x0, .int .i64 x1, .int .i64 x2, .int .i64 x3, sv] 75)) := (Below.refl _ w).alloc (Nat.le_refl _) _
  have SZ := szRefS_any (refsAt_below h B) left hl
  obtain ⟨a1, n1, cc1, esv⟩ := refs_slice h
  have esv : sv = .slice a1 n1 cc1 := esv
  subst esv
  have HB : Hid _ := B
  clear B h
  by_cases hs : es.length ≤ left
  · rw [if_pos hs] at SZ
    have hs' : ¬ (left : Int) - (es.length : Int) < 0 := by omega
    show Calls _ _ _ _ fun e w' => e = .returned (.int .i64 (if es.length ≤ left then (left : Int) - es.length else -1)) ∧ _
    rw [if_pos hs]
    go_enter Try.func57, Try.ntmps57
    go_wp2_with (go_at_call 28; refine SZ.mono ?_; rintro e w2 ⟨rfl, hw2⟩; rw [hw2]; clear hw2 w2 SZ)
    go_ret
    exact ⟨rfl, HB⟩
  · rw [if_neg hs] at SZ
    show Calls _ _ _ _ fun e w' => e = .returned (.int .i64 (if es.length ≤ left then (left : Int) - es.length else -1)) ∧ _
    rw [if_neg hs]
    go_enter Try.func57, Try.ntmps57
    go_wp2_with (go_at_call 28; refine SZ.mono ?_; rintro e w2 ⟨rfl, hw2⟩; rw [hw2]; clear hw2 w2 SZ)
    go_ret
    exact ⟨rfl, HB⟩

/-- What is left when all is taken off; -1: it is too much. -/
def szO (ms : List MO) (left : Nat) : Int := if ms.length + slotsLen ms ≤ left then (left : Int) - (ms.length + slotsLen ms : Nat) else -1
set_option maxHeartbeats 1000000 in
theorem szObjS_any {w : World} {v : Value} {ms : List MO} (h : ObjsAt w v ms) (left : Nat) (hleft : left ≤ 1048576) :
    Calls Try.prog 27 #[v, .int .i64 left] w fun e w' => e = .returned (.int .i64 (szO ms left)) ∧ Below w.heap.size w w' := by
  obtain ⟨⟨a, cap, rfl, hlc, hcm, _, hc⟩, hrf⟩ := h
  have hcm' : cap ≤ 9223372036854775807 := hcm
  have HC : Hid _ := hc
  have HR : Hid _ := hrf
  clear hc hrf
  by_cases h1 : ms.length ≤ left
  · obtain ⟨R, hR⟩ : ∃ R, szO ms left = R := ⟨_, rfl⟩
    rw [hR]
    have HRR : Hid _ := hR
    clear hR
    have h1' : ¬ (left : Int) - (ms.length : Int) < 0 := by omega
    go_enter Try.func27, Try.ntmps27
    go_wp2_with fail
    go_loopw [1, 5] (fun q i wr => ∃ k l : Nat, k ≤ ms.length ∧ i = .int .i64 k ∧ q = .int .i64 l ∧ l + ms.length + slotsLen (ms.take k) = left ∧ Below w.heap.size w wr) (fun _ i _ => ms.length - (intOf i).toNat)
    case atStart => exact ⟨0, left - ms.length, Nat.zero_le _, rfl, by go_num, by simp [slotsLen]; omega, Below.refl _ _⟩
    case round =>
      obtain ⟨k, l, hk, rfl, rfl, hl, Br⟩ := hrel
      by_cases hlt : k < ms.length
      · obtain ⟨b, off, rfl, hbl, hc⟩ := HC.out (by omega)
        obtain ⟨q0, q1, q2, q3, q4⟩ := hc k hlt
        have c0 := (Br.cell (p := ⟨b, off + k * 5, none⟩) hbl).trans q0
        have c1 := (Br.cell (p := ⟨b, off + k * 5 + 1, none⟩) hbl).trans q1
        have c2 := (Br.cell (p := ⟨b, off + k * 5 + 2, none⟩) hbl).trans q2
        have c3 := (Br.cell (p := ⟨b, off + k * 5 + 3, none⟩) hbl).trans q3
        have c4 := (Br.cell (p := ⟨b, off + k * 5 + 4, none⟩) hbl).trans q4
        have ns := slotsLen_take_succ hlt
        have nl := slotsLen_take_le ms (k + 1)
        have m1 := mem_getD hlt
        have SZ := szObj_any (ms.getD k moD) (refsAt_below (HR.out _ m1) Br) l (by omega)
        obtain ⟨a1, n1, cc1, esv⟩ := refs_slice (HR.out _ m1)
        have HB : Hid _ := Br
        clear hc HC HR Br q0 q1 q2 q3 q4 m1
        generalize ms.getD k moD = x at *
        obtain ⟨x0, x1, x2, x3, sv, es⟩ := x
        have esv : sv = .slice a1 n1 cc1 := esv
        subst esv
        have ns : slotsLen (ms.take (k + 1)) = slotsLen (ms.take k) + es.length := ns
        by_cases hs : es.length ≤ l
        · rw [if_pos (show (MO.mk x0 x1 x2 x3 (.slice a1 n1 cc1) es).slots.length ≤ l from hs)] at SZ
          obtain ⟨d, hd⟩ : ∃ d : Nat, (l : Int) - (es.length : Int) = d := ⟨l - es.length, by omega⟩
          have SZ2 := SZ.mono (R' := fun e w' => e = .returned (.int .i64 (d : Int)) ∧ Below wr.heap.size wr w') (by rintro e w' ⟨rfl, hb⟩; exact ⟨by rw [← hd], hb⟩)
          have hd0 : ¬ (d : Int) < 0 := by omega
          clear SZ
          go_wp2_with (go_at_call 57; refine SZ2.mono ?_; clear SZ2; rintro e w2 ⟨rfl, b2⟩; have HB2 : Hid _ := HB.out.trans (b2.mono HB.out.size); clear b2)
          exact ⟨⟨k + 1, d, by omega, by go_num, rfl, by omega, HB2⟩, by simp [intOf]; omega⟩
        · rw [if_neg (show ¬ (MO.mk x0 x1 x2 x3 (.slice a1 n1 cc1) es).slots.length ≤ l from hs)] at SZ
          have ER : Hid (R = -1) := by
            show R = -1
            rw [← HRR.out]
            unfold szO
            rw [if_neg (by omega)]
          clear HRR
          go_wp2_with (go_at_call 57; refine SZ.mono ?_; clear SZ; rintro e w2 ⟨rfl, b2⟩; have HB2 : Hid _ := HB.out.trans (b2.mono HB.out.size); clear b2)
          go_ret
          exact ⟨by rw [ER.out]; rfl, HB2⟩
      · have e : ms.take k = ms := List.take_of_length_le (by omega)
        rw [e] at hl
        have ER : Hid (R = (l : Int)) := by
          show R = (l : Int)
          rw [← HRR.out]
          unfold szO
          rw [if_pos (by omega)]
          omega
        have HB : Hid _ := Br
        clear HRR HC Br HR
        go_wp2
        go_ret
        exact ⟨by rw [ER.out]; rfl, HB⟩
  · have e : szO ms left = -1 := by unfold szO; rw [if_neg (by omega)]
    rw [e]
    have h1' : (left : Int) - (ms.length : Int) < 0 := by omega
    clear HC HR e
    go_enter Try.func27, Try.ntmps27
    go_wp2
    go_ret
    exact ⟨rfl, Below.refl _ _⟩
end Go.Proofs.Ytdogibjgogcdkal.gr
namespace Go.Proofs.Ytdogibjgogcdkal.gr
open Go.RowKit rows heads
set_option maxRecDepth 100000

/-- An object marked from K on. -/
def mk1 (K : Nat) (m : MO) : MO := ⟨(K : Int), (K : Int) + 1, (K : Int) + 1 + 1, (K : Int) + 1 + 1 + 1, m.sv, marksR (K + 4) m.slots.length⟩
/-- The mark at which the object j begins. -/
def kAt (k0 : Nat) (ms : List MO) (j : Nat) : Nat := k0 + 4 * j + 2 * slotsLen (ms.take j)
theorem kAt_succ (k0 : Nat) {ms : List MO} {j : Nat} (h : j < ms.length) : kAt k0 ms (j + 1) = kAt k0 ms j + 4 + 2 * (ms.getD j moD).slots.length := by
  unfold kAt
  rw [slotsLen_take_succ h]
  omega
theorem kAt_le (k0 : Nat) (ms : List MO) {j : Nat} (h : j ≤ ms.length) : kAt k0 ms j ≤ k0 + 4 * ms.length + 2 * slotsLen ms := by
  unfold kAt
  have := slotsLen_take_le ms j
  omega
/-- The list with its first i objects marked. -/
def Lm (k0 : Nat) (ms : List MO) (i : Nat) : List MO := (List.range ms.length).map (fun j => if j < i then mk1 (kAt k0 ms j) (ms.getD j moD) else ms.getD j moD)
theorem Lm_length (k0 : Nat) (ms : List MO) (i : Nat) : (Lm k0 ms i).length = ms.length := by simp [Lm]
theorem Lm_getD (k0 : Nat) {ms : List MO} {i j : Nat} (h : j < ms.length) : (Lm k0 ms i).getD j moD = if j < i then mk1 (kAt k0 ms j) (ms.getD j moD) else ms.getD j moD := by
  simp [Lm, List.getD_eq_getElem?_getD, h]
theorem getD_getElem? {ms : List MO} {j : Nat} (h : j < ms.length) : ms[j]? = some (ms.getD j moD) := by
  rw [List.getD_eq_getElem?_getD, List.getElem?_eq_getElem h]; rfl
theorem Lm_zero (k0 : Nat) (ms : List MO) : Lm k0 ms 0 = ms := by
  apply List.ext_getElem?
  intro j
  rcases Nat.lt_or_ge j ms.length with h | h
  · rw [getD_getElem? (by rw [Lm_length]; exact h), Lm_getD k0 h, if_neg (by omega), getD_getElem? h]
  · rw [List.getElem?_eq_none (by rw [Lm_length]; exact h), List.getElem?_eq_none h]
theorem Lm_set (k0 : Nat) {ms : List MO} {i : Nat} (h : i < ms.length) : (Lm k0 ms i).set i (mk1 (kAt k0 ms i) (ms.getD i moD)) = Lm k0 ms (i + 1) := by
  apply List.ext_getElem?
  intro j
  rcases Nat.lt_or_ge j ms.length with hj | hj
  · rw [List.getElem?_set, getD_getElem? (ms := Lm k0 ms (i + 1)) (by rw [Lm_length]; exact hj), Lm_getD k0 hj]
    by_cases e : i = j
    · subst e
      rw [if_pos rfl, if_pos (by rw [Lm_length]; exact h), if_pos (by omega)]
    · rw [if_neg e, getD_getElem? (by rw [Lm_length]; exact hj), Lm_getD k0 hj]
      by_cases h1 : j < i
      · rw [if_pos h1, if_pos (by omega)]
      · rw [if_neg h1, if_neg (by omega)]
  · rw [List.getElem?_eq_none (by rw [List.length_set, Lm_length]; exact hj), List.getElem?_eq_none (by rw [Lm_length]; exact hj)]
theorem Lm_sv (k0 : Nat) {ms : List MO} (i : Nat) {j : Nat} (h : j < ms.length) : ((Lm k0 ms i).getD j moD).sv = (ms.getD j moD).sv := by
  rw [Lm_getD k0 h]
  split <;> rfl
theorem Lm_svs (k0 : Nat) (ms : List MO) (i : Nat) : (Lm k0 ms i).map MO.sv = ms.map MO.sv := by
  apply List.ext_getElem?
  intro j
  rw [List.getElem?_map, List.getElem?_map]
  rcases Nat.lt_or_ge j ms.length with h | h
  · rw [getD_getElem? (by rw [Lm_length]; exact h), getD_getElem? h]
    simp only [Option.map_some, Lm_sv k0 i h]
  · rw [List.getElem?_eq_none (by rw [Lm_length]; exact h), List.getElem?_eq_none h]
theorem blks_svs (ms : List MO) : blks ms = (ms.map MO.sv).flatMap blk := by simp [blks, List.flatMap_map]
theorem Lm_blks (k0 : Nat) (ms : List MO) (i : Nat) : blks (Lm k0 ms i) = blks ms := by rw [blks_svs, Lm_svs, ← blks_svs]
theorem cellsO_set4 : ∀ (ms : List MO) (i : Nat) (a b c d : Int) (sl : List Rf), i < ms.length → ((((cellsO ms).set (i * 5) (.int .i64 a)).set (i * 5 + 1) (.int .i64 b)).set (i * 5 + 2) (.int .i64 c)).set (i * 5 + 3) (.int .i64 d) = cellsO (ms.set i ⟨a, b, c, d, (ms.getD i moD).sv, sl⟩)
  | [], i, _, _, _, _, _, h => by simp at h
  | e :: ms, 0, a, b, c, d, sl, _ => by simp [cellsO]
  | e :: ms, i + 1, a, b, c, d, sl, h => by
    rw [show (i + 1) * 5 = i * 5 + 1 + 1 + 1 + 1 + 1 by omega]
    have := cellsO_set4 ms i a b c d sl (by simpa using h)
    simp [cellsO] at this ⊢
    rw [this]
/-- No two rows in one block, told apart. -/
theorem apart {v : Value} : ∀ {ms : List MO}, (blk v ++ blks ms).Nodup → (∀ j, j < ms.length → ∀ k ∈ blk (ms.getD j moD).sv, k ∉ blk v) ∧ ∀ i j, i < ms.length → j < ms.length → i ≠ j → ∀ k ∈ blk (ms.getD i moD).sv, k ∉ blk (ms.getD j moD).sv
  | [], _ => ⟨fun j h => by simp at h, fun i j h => by simp at h⟩
  | m :: ms, h => by
    rw [List.nodup_append] at h
    obtain ⟨h1, h2, h3⟩ := h
    have eb : blks (m :: ms) = blk m.sv ++ blks ms := by simp [blks]
    rw [eb] at h2 h3
    rw [List.nodup_append] at h2
    have ih := apart (v := v) (ms := ms) (by
      rw [List.nodup_append]
      exact ⟨h1, h2.2.1, fun a ha b hb => h3 a ha b (by simp [hb])⟩)
    have inb : ∀ j, j < ms.length → ∀ k ∈ blk (ms.getD j moD).sv, k ∈ blks ms := fun j hj k hk => by
      simp only [blks, List.mem_flatMap]; exact ⟨_, mem_getD hj, hk⟩
    refine ⟨fun j hj k hk e => ?_, fun i j hi hj hne k hk e => ?_⟩
    · cases j with
      | zero => exact h3 k e k (by simp only [List.mem_append]; exact .inl (by simpa using hk)) rfl
      | succ j => exact ih.1 j (by simpa using hj) k (by simpa using hk) e
    · cases i with
      | zero =>
        cases j with
        | zero => exact hne rfl
        | succ j => exact h2.2.2 k (by simpa using hk) k (inb j (by simpa using hj) k (by simpa using e)) rfl
      | succ i =>
        cases j with
        | zero => exact h2.2.2 k (by simpa using e) k (inb i (by simpa using hi) k (by simpa using hk)) rfl
        | succ j => exact ih.2 i j (by simpa using hi) (by simpa using hj) (by omega) k (by simpa using hk) (by simpa using e)

set_option maxHeartbeats 4000000 in
theorem markObjS_any {w : World} {base : Nat} {v : Value} {ms : List MO} (h : OwnO w base v ms) (hl : ms.length + slotsLen ms ≤ 1048576) (k0 : Nat) (hk1 : k0 ≤ 1048577) :
    Calls Try.prog 37 #[v, .int .i64 k0] w fun e w' => e = .returned (.int .i64 (kAt k0 ms ms.length : Nat)) ∧ OwnO w' base v (Lm k0 ms ms.length) ∧ Ch (blk v ++ blks ms) w w' := by
  obtain ⟨hrow, hown, hnd⟩ := h
  obtain ⟨hap1, hap2⟩ := apart hnd
  have hrow' := hrow
  obtain ⟨_, ⟨rfl, hn⟩ | ⟨g, cap, cur, rfl, hg, hh, hle, hm, hs, ht⟩⟩ := hrow
  · have e : ms = [] := by simpa using hn
    subst e
    have HO : Hid (OwnO w base (.slice none 0 0) (Lm k0 [] 0)) := ⟨hrow', hown, hnd⟩
    have e2 : kAt k0 [] 0 = k0 := by simp [kAt, slotsLen]
    clear hrow' hn hown hnd hap1 hap2
    go_enter Try.func37, Try.ntmps37
    go_wp2
    refine wp_loop_rounds 1 ?_
    rw [rounds_succ]
    go_wp2
    go_ret
    exact ⟨by simp [e2], HO, Ch.refl _ _⟩
  have hcap : cap ≤ 9223372036854775807 := hm
  have R0 : w.ownsRow base 51 5 (.slice (some ⟨g, 0, none⟩) ms.length cap) ms.length (cellsO (Lm k0 ms 0)) := by rw [Lm_zero]; exact hrow'
  have O0 : ∀ j, j < ms.length → OwnR w base (ms.getD j moD).sv (ms.getD j moD).slots := fun j hj => hown _ (mem_getD hj)
  have eg : blk (Value.slice (some ⟨g, 0, none⟩) ms.length cap) = [g] := rfl
  rw [eg] at hap1 hnd ⊢
  have HAP1 : Hid _ := hap1
  have HAP2 : Hid _ := hap2
  have HND : Hid _ := hnd
  have HR0 : Hid _ := R0
  have HO0 : Hid _ := O0
  clear hrow' hown hnd hap1 hap2 R0 O0 hg hh hs ht cur eg
  go_enter Try.func37, Try.ntmps37
  go_wp2_with fail
  go_loopw [1, 5] (fun q i wr => ∃ k : Nat, k ≤ ms.length ∧ i = .int .i64 k ∧ q = .int .i64 ((kAt k0 ms k : Nat) : Int) ∧ wr.ownsRow base 51 5 (.slice (some ⟨g, 0, none⟩) ms.length cap) ms.length (cellsO (Lm k0 ms k)) ∧ (∀ j, j < ms.length → OwnR wr base (ms.getD j moD).sv (if j < k then marksR (kAt k0 ms j + 4) (ms.getD j moD).slots.length else (ms.getD j moD).slots)) ∧ Ch ([g] ++ blks ms) w wr) (fun _ i _ => ms.length - (intOf i).toNat)
  case atStart => exact ⟨0, Nat.zero_le _, rfl, by simp [kAt, slotsLen], HR0, fun j hj => HO0.out j hj, Ch.refl _ _⟩
  case round =>
    obtain ⟨k, hk, rfl, rfl, Rr, Or, Cr⟩ := hrel
    clear HR0 HO0
    by_cases hlt : k < ms.length
    · have hfit : k < (Lm k0 ms k).length := by rw [Lm_length]; exact hlt
      obtain ⟨t0, t1, t2, t3, t4⟩ := cellsO_at (Lm k0 ms k) k hfit
      have eL := Lm_set k0 hlt
      have eK := kAt_succ k0 hlt
      have bK := kAt_le k0 ms hk
      have esv := Lm_sv k0 k hlt
      have sln := slots_le (mem_getD hlt)
      obtain ⟨K, hK⟩ : ∃ K, kAt k0 ms k = K := ⟨_, rfl⟩
      rw [hK] at eL eK bK ⊢
      have c0 := World.ownsRow.cellAt Rr (k * 5) (by omega)
      rw [t0] at c0
      have f0 := World.ownsRow.frozenAt Rr (k * 5)
      have S0 := World.ownsRow.stored Rr (k * 5) (.int .i64 (K : Int))
      have c1 := World.ownsRow.cellAt S0.1 (k * 5 + 1) (by omega)
      rw [List.getElem?_set_ne (by omega), t1] at c1
      have f1 := World.ownsRow.frozenAt S0.1 (k * 5 + 1)
      have S1 := World.ownsRow.stored S0.1 (k * 5 + 1) (.int .i64 ((K : Int) + 1))
      have c2 := World.ownsRow.cellAt S1.1 (k * 5 + 2) (by omega)
      rw [List.getElem?_set_ne (by omega), List.getElem?_set_ne (by omega), t2] at c2
      have f2 := World.ownsRow.frozenAt S1.1 (k * 5 + 2)
      have S2 := World.ownsRow.stored S1.1 (k * 5 + 2) (.int .i64 ((K : Int) + 1 + 1))
      have c3 := World.ownsRow.cellAt S2.1 (k * 5 + 3) (by omega)
      rw [List.getElem?_set_ne (by omega), List.getElem?_set_ne (by omega), List.getElem?_set_ne (by omega), t3] at c3
      have f3 := World.ownsRow.frozenAt S2.1 (k * 5 + 3)
      have S3 := World.ownsRow.stored S2.1 (k * 5 + 3) (.int .i64 ((K : Int) + 1 + 1 + 1))
      have c4 := World.ownsRow.cellAt S3.1 (k * 5 + 4) (by omega)
      rw [List.getElem?_set_ne (by omega), List.getElem?_set_ne (by omega), List.getElem?_set_ne (by omega), List.getElem?_set_ne (by omega), t4, esv] at c4
      have S4 := S3.1
      rw [cellsO_set4 (Lm k0 ms k) k (K : Int) ((K : Int) + 1) ((K : Int) + 1 + 1) ((K : Int) + 1 + 1 + 1) (marksR (K + 4) (ms.getD k moD).slots.length) hfit, esv] at S4
      have eM : (⟨(K : Int), (K : Int) + 1, (K : Int) + 1 + 1, (K : Int) + 1 + 1 + 1, (ms.getD k moD).sv, marksR (K + 4) (ms.getD k moD).slots.length⟩ : MO) = mk1 K (ms.getD k moD) := rfl
      rw [eM, eL] at S4
      have G4 := grown_both (grown_both (grown_both S0.2 S1.2) S2.2) S3.2
      have C4 : Ch [g] wr _ := ch_grown (v := .slice (some ⟨g, 0, none⟩) ms.length cap) G4
      have OX : ∀ j, j < ms.length → OwnR ((((wr.setCell ⟨g, k * 5, none⟩ (.int .i64 (K : Int))).setCell ⟨g, k * 5 + 1, none⟩ (.int .i64 ((K : Int) + 1))).setCell ⟨g, k * 5 + 2, none⟩ (.int .i64 ((K : Int) + 1 + 1))).setCell ⟨g, k * 5 + 3, none⟩ (.int .i64 ((K : Int) + 1 + 1 + 1))) base (ms.getD j moD).sv (if j < k then marksR (kAt k0 ms j + 4) (ms.getD j moD).slots.length else (ms.getD j moD).slots) := fun j hj => row_ch (Or j hj) C4 (HAP1.out j hj)
      have OK := OX k hlt
      rw [if_neg (Nat.lt_irrefl k)] at OK
      have MR := markRefS_any OK (by omega) (K + 4) (by omega)
      have e4 : ((K + 4 : Nat) : Int) = (K : Int) + 1 + 1 + 1 + 1 := by omega
      rw [e4] at MR
      obtain ⟨a1, n1, cc1, esl⟩ := refs_slice (ownR_refs OK)
      have inB : ∀ q ∈ blk (ms.getD k moD).sv, q ∈ [g] ++ blks ms := fun q hq => by
        simp only [List.mem_append, blks, List.mem_flatMap]
        exact .inr ⟨_, mem_getD hlt, hq⟩
      have HS4 : Hid _ := S4
      have HC4 : Hid _ := Cr.trans (C4.mono (fun q hq => by simp only [List.mem_append]; exact .inl hq))
      have HOX : Hid _ := OX
      have HMR : Hid _ := MR
      have HIN : Hid _ := inB
      have eN : kAt k0 ms (k + 1) = K + 4 + 2 * (ms.getD k moD).slots.length := eK
      have HEK : Hid _ := hK
      clear S0 S1 S2 S3 S4 C4 G4 OX OK MR inB Cr Or Rr t0 t1 t2 t3 t4 eL eM eK hK e4 esv
      generalize hx : ms.getD k moD = x at *
      generalize (Lm k0 ms k).getD k moD = y at *
      obtain ⟨x0, x1, x2, x3, sv, es⟩ := x
      obtain ⟨y0, y1, y2, y3, tv, fs⟩ := y
      have esl : sv = .slice a1 n1 cc1 := esl
      subst esl
      have c4 : ((((wr.setCell ⟨g, k * 5, none⟩ (.int .i64 (K : Int))).setCell ⟨g, k * 5 + 1, none⟩ (.int .i64 ((K : Int) + 1))).setCell ⟨g, k * 5 + 2, none⟩ (.int .i64 ((K : Int) + 1 + 1))).setCell ⟨g, k * 5 + 3, none⟩ (.int .i64 ((K : Int) + 1 + 1 + 1))).cell? ⟨g, k * 5 + 4, none⟩ = some (.slice a1 n1 cc1) := c4
      have HX : Hid _ := hx
      have eN : kAt k0 ms (k + 1) = K + 4 + 2 * es.length := eN
      have HEN : Hid _ := eN
      clear hx eN
      have bK2 : K ≤ 16777216 := by omega
      go_wp2_with fail
      generalize hX4 : ((((wr.setCell ⟨g, k * 5, none⟩ (.int .i64 (K : Int))).setCell ⟨g, k * 5 + 1, none⟩ (.int .i64 ((K : Int) + 1))).setCell ⟨g, k * 5 + 2, none⟩ (.int .i64 ((K : Int) + 1 + 1))).setCell ⟨g, k * 5 + 3, none⟩ (.int .i64 ((K : Int) + 1 + 1 + 1))) = X4 at *
      refine Calls.mono HMR.out ?_
      rintro e w2 ⟨rfl, O2, g2⟩
      have C5 : Ch (blk (.slice a1 n1 cc1)) X4 w2 := ch_grown g2
      have R5 := row_ch HS4.out C5 (fun q hq e => HAP1.out k hlt q (by rw [HX.out]; exact e) hq)
      have O5 : ∀ j, j < ms.length → OwnR w2 base (ms.getD j moD).sv (if j < k + 1 then marksR (kAt k0 ms j + 4) (ms.getD j moD).slots.length else (ms.getD j moD).slots) := by
        intro j hj
        by_cases e : j = k
        · subst e
          rw [if_pos (by omega), HX.out, HEK.out]
          exact O2
        · have := row_ch (HOX.out j hj) C5 (fun q hq e' => HAP2.out j k hj hlt e q hq (by rw [HX.out]; exact e'))
          have e1 : (j < k + 1) = (j < k) := by rw [eq_iff_iff]; omega
          simp only [e1]
          exact this
      have HR5 : Hid _ := R5
      have HO5 : Hid _ := O5
      have HC5 : Hid _ := HC4.out.trans (C5.mono HIN.out)
      clear R5 O5 C5 O2 g2 HS4 HC4 HOX HMR HIN c0 c1 c2 c3 c4 f0 f1 f2 f3 hX4
      go_wp2
      exact ⟨⟨k + 1, by omega, by go_num, by rw [HEN.out]; go_num, HR5, HO5, HC5⟩, by simp [intOf]; omega⟩
    · have e : k = ms.length := by omega
      subst e
      have HS : Hid (OwnO wr base (.slice (some ⟨g, 0, none⟩) ms.length cap) (Lm k0 ms ms.length)) := by
        refine ⟨?_, fun m hm => ?_, ?_⟩
        · show World.ownsRow wr base _ 5 _ (Lm k0 ms ms.length).length _
          rw [Lm_length]
          exact Rr
        · obtain ⟨j, hj, rfl⟩ := List.getElem_of_mem hm
          rw [Lm_length] at hj
          have e1 : (Lm k0 ms ms.length)[j]'(by rw [Lm_length]; exact hj) = (Lm k0 ms ms.length).getD j moD := by
            rw [List.getD_eq_getElem?_getD, List.getElem?_eq_getElem (by rw [Lm_length]; exact hj)]; rfl
          have := Or j hj
          rw [if_pos hj] at this
          rw [e1, Lm_getD k0 hj, if_pos hj]
          exact this
        · rw [Lm_blks]
          exact HND.out
      have HG : Hid _ := Cr
      clear Rr Or Cr
      go_wp2
      go_ret
      exact ⟨rfl, HS, HG⟩

set_option maxHeartbeats 4000000 in
theorem heldObjS_any {w : World} {v : Value} {ms : List MO} (k0 : Nat) (h : ObjsAt w v (Lm k0 ms ms.length)) (hl : ms.length + slotsLen ms ≤ 1048576) (hk1 : k0 ≤ 1048577) :
    Calls Try.prog 46 #[v, .int .i64 k0] w fun e w' => e = .returned (.int .i64 (kAt k0 ms ms.length : Nat)) ∧ w' = w := by
  obtain ⟨⟨a, cap, rfl, hlc, hcm, _, hc⟩, hrf⟩ := h
  rw [Lm_length] at *
  have hcb : cap ≤ 9223372036854775807 := hcm
  have HC : Hid _ := hc
  have HR : Hid _ := hrf
  clear hc hrf
  go_enter Try.func46, Try.ntmps46
  go_wp2_with fail
  go_loopw [1, 5] (fun q i wr => ∃ k : Nat, k ≤ ms.length ∧ i = .int .i64 k ∧ q = .int .i64 ((kAt k0 ms k : Nat) : Int) ∧ wr = w) (fun _ i _ => ms.length - (intOf i).toNat)
  case atStart => exact ⟨0, Nat.zero_le _, rfl, by simp [kAt, slotsLen], rfl⟩
  case round =>
    obtain ⟨k, hk, rfl, rfl, hw⟩ := hrel
    subst hw
    by_cases hlt : k < ms.length
    · obtain ⟨b, off, rfl, hb, hc⟩ := HC.out (by omega)
      obtain ⟨q0, q1, q2, q3, q4⟩ := hc k hlt
      have hmem : (Lm k0 ms ms.length).getD k moD ∈ Lm k0 ms ms.length := mem_getD (by rw [Lm_length]; exact hlt)
      have RF := HR.out _ hmem
      have eK := kAt_succ k0 hlt
      have bK := kAt_le k0 ms hk
      have sln := slots_le (mem_getD hlt)
      rw [Lm_getD k0 hlt, if_pos hlt] at q0 q1 q2 q3 q4 RF
      obtain ⟨K, hK⟩ : ∃ K, kAt k0 ms k = K := ⟨_, rfl⟩
      rw [hK] at q0 q1 q2 q3 q4 RF eK bK ⊢
      have HE := heldRefS_any (w := wr) (v := (ms.getD k moD).sv) (n := (ms.getD k moD).slots.length) (K + 4) RF (by omega) (by omega)
      obtain ⟨a1, n1, cc1, esl⟩ := refs_slice RF
      have e4 : ((K + 4 : Nat) : Int) = (K : Int) + 1 + 1 + 1 + 1 := by omega
      rw [e4] at HE
      have bK2 : K ≤ 16777216 := by omega
      clear hc HC HR hmem RF hK e4
      generalize ms.getD k moD = x at *
      obtain ⟨x0, x1, x2, x3, sv, es⟩ := x
      have esl : sv = .slice a1 n1 cc1 := esl
      subst esl
      have c0 : wr.cell? ⟨b, off + k * 5, none⟩ = some (.int .i64 (K : Int)) := q0
      have c1 : wr.cell? ⟨b, off + k * 5 + 1, none⟩ = some (.int .i64 ((K : Int) + 1)) := q1
      have c2 : wr.cell? ⟨b, off + k * 5 + 2, none⟩ = some (.int .i64 ((K : Int) + 1 + 1)) := q2
      have c3 : wr.cell? ⟨b, off + k * 5 + 3, none⟩ = some (.int .i64 ((K : Int) + 1 + 1 + 1)) := q3
      have c4 : wr.cell? ⟨b, off + k * 5 + 4, none⟩ = some (.slice a1 n1 cc1) := q4
      have eK : kAt k0 ms (k + 1) = K + 4 + 2 * es.length := eK
      have HEN : Hid _ := eK
      obtain ⟨M, hM⟩ : ∃ M : Nat, K + 4 + 2 * es.length = M := ⟨_, rfl⟩
      have HE2 := HE.mono (R' := fun e w' => e = .returned (.int .i64 (M : Int)) ∧ w' = wr) (by rintro e w' ⟨rfl, h⟩; exact ⟨by rw [← hM], h⟩)
      have hM0 : ¬ (M : Int) < 0 := by omega
      have HM : Hid _ := hM
      clear HE eK hM q0 q1 q2 q3 q4
      go_wp2_with (go_at_call 47; refine HE2.mono ?_; clear HE2; rintro e w2 ⟨rfl, hw2⟩; rw [hw2]; clear hw2 w2)
      exact ⟨⟨k + 1, by omega, by go_num, by rw [HEN.out, HM.out], by trivial⟩, by simp [intOf]; omega⟩
    · have e : k = ms.length := by omega
      subst e
      clear HC HR
      go_wp2
      go_ret
      exact ⟨rfl, rfl⟩
end Go.Proofs.Ytdogibjgogcdkal.gr
namespace Go.Proofs.Ytdogibjgogcdkal.gr
open Go.RowKit rows heads
set_option maxRecDepth 100000

structure Gr where
  objs : List Ob
  roots : List Rf
  mourned : List Rf
  next : Int
  seed : Int
/-- A graph as a value. -/
abbrev gv (o r m : Value) (n s : Int) : Value := .agg #[o, r, m, .int .i64 n, .int .i64 s]
abbrev gb (o r m : Value) (n s : Int) : Obj := .cells #[o, r, m, .int .i64 n, .int .i64 s] 32
/-- A graph that may be read. -/
def GraphAt (w : World) (o r m : Value) (ms : List MO) (G : Gr) : Prop := ms.map MO.abs = G.objs ∧ ObjsAt w o ms ∧ RefsAt w r G.roots ∧ RefsAt w m G.mourned
def gblk (o r m : Value) (ms : List MO) : List Nat := blk o ++ blks ms ++ blk r ++ blk m
/-- A graph of the call's own, no two rows in one block. -/
def OwnG (w : World) (base : Nat) (o r m : Value) (ms : List MO) (G : Gr) : Prop := ms.map MO.abs = G.objs ∧ OwnO w base o ms ∧ OwnR w base r G.roots ∧ OwnR w base m G.mourned ∧ (gblk o r m ms).Nodup
theorem ownG_at {w : World} {base : Nat} {o r m : Value} {ms : List MO} {G : Gr} (h : OwnG w base o r m ms G) : GraphAt w o r m ms G := ⟨h.1, ownO_at h.2.1, ownR_refs h.2.2.1, ownR_refs h.2.2.2.1⟩
theorem graphAt_below {w w' : World} {o r m : Value} {ms : List MO} {G : Gr} (h : GraphAt w o r m ms G) (hb : Below w.heap.size w w') : GraphAt w' o r m ms G := ⟨h.1, objsAt_below h.2.1 hb, refsAt_below h.2.2.1 hb, refsAt_below h.2.2.2 hb⟩
theorem ownG_below {w w' : World} {base : Nat} {o r m : Value} {ms : List MO} {G : Gr} (h : OwnG w base o r m ms G) (hb : Below w.heap.size w w') : OwnG w' base o r m ms G := ⟨h.1, ownO_below h.2.1 hb, ownR_below h.2.2.1 hb, ownR_below h.2.2.2.1 hb, h.2.2.2.2⟩
theorem ownG_base {w : World} {base base' : Nat} {o r m : Value} {ms : List MO} {G : Gr} (h : OwnG w base o r m ms G) (hb : base' ≤ base) : OwnG w base' o r m ms G := ⟨h.1, ownO_base h.2.1 hb, ownR_base h.2.2.1 hb, ownR_base h.2.2.2.1 hb, h.2.2.2.2⟩
theorem ownG_lt {w : World} {base : Nat} {o r m : Value} {ms : List MO} {G : Gr} (h : OwnG w base o r m ms G) : ∀ k ∈ gblk o r m ms, base ≤ k ∧ k < w.heap.size := by
  intro k hk
  simp only [gblk, List.mem_append] at hk
  rcases hk with ((hk | hk) | hk) | hk
  · exact blks_lt h.2.1 k (by simp only [List.mem_append]; exact .inl hk)
  · exact blks_lt h.2.1 k (by simp only [List.mem_append]; exact .inr hk)
  · exact blk_lt h.2.2.1 k hk
  · exact blk_lt h.2.2.2.1 k hk
theorem ownG_ch {S : List Nat} {w w' : World} {base : Nat} {o r m : Value} {ms : List MO} {G : Gr} (h : OwnG w base o r m ms G) (hc : Ch S w w') (hd : ∀ k ∈ gblk o r m ms, k ∉ S) : OwnG w' base o r m ms G := by
  refine ⟨h.1, ownO_ch h.2.1 hc (fun k hk => hd k ?_), row_ch h.2.2.1 hc (fun k hk => hd k ?_), row_ch h.2.2.2.1 hc (fun k hk => hd k ?_), h.2.2.2.2⟩
  · simp only [gblk, List.mem_append] at hk ⊢; exact .inl (.inl hk)
  · simp only [gblk, List.mem_append] at hk ⊢; exact .inl (.inr hk)
  · simp only [gblk, List.mem_append] at hk ⊢; exact .inr hk

/-- How much a graph holds. -/
def gSize (ms : List MO) (G : Gr) : Nat := ms.length + slotsLen ms + G.roots.length + G.mourned.length
theorem gSize_slots {ms : List MO} {G : Gr} (h : gSize ms G ≤ 1048576) : ∀ m ∈ ms, m.slots.length ≤ 1048576 := fun m hm => by
  have := slots_le hm
  unfold gSize at h
  omega

set_option maxHeartbeats 1000000 in
theorem szGraph_any {w : World} {o r m : Value} {ms : List MO} {G : Gr} (h : GraphAt w o r m ms G) (left : Nat) (hleft : left ≤ 1048576) :
    Calls Try.prog 8 #[gv o r m G.next G.seed, .int .i64 left] w fun e w' => e = .returned (.int .i64 (if gSize ms G ≤ left then (left : Int) - gSize ms G else -1)) ∧ Below w.heap.size w w' := by
  obtain ⟨_, hO, hR, hM⟩ := h
  have B : Below w.heap.size w (w.alloc (.cells #[o, r, m, .int .i64 G.next, .int .i64 G.seed] 25)) := (Below.refl _ w).alloc (Nat.le_refl _) _
  have SO := szObjS_any (objsAt_below hO B) left hleft
  have hR1 := refsAt_below hR B
  have hM1 := refsAt_below hM B
  obtain ⟨a1, n1, c1, e1⟩ : ∃ a n c, o = .slice a n c := by obtain ⟨⟨a, c, e, _⟩, _⟩ := hO; exact ⟨a, _, c, e⟩
  obtain ⟨a2, n2, c2, e2⟩ := refs_slice hR
  obtain ⟨a3, n3, c3, e3⟩ := refs_slice hM
  subst e1 e2 e3
  obtain ⟨RV, hRV⟩ : ∃ RV : Int, (if gSize ms G ≤ left then (left : Int) - gSize ms G else -1) = RV := ⟨_, rfl⟩
  rw [hRV]
  have HRV : Hid _ := hRV
  have T := five_new w 25 (.slice a1 n1 c1) (.slice a2 n2 c2) (.slice a3 n3 c3) (.int .i64 G.next) (.int .i64 G.seed)
  have HT : Hid _ := T
  have HB : Hid _ := B
  have HR1 : Hid _ := hR1
  have HM1 : Hid _ := hM1
  clear hRV B hO hR hM hR1 hM1 T
  generalize G.next = gn at *
  generalize G.seed = gs at *
  go_enter Try.func8, Try.ntmps8
  go_wp2_with fail
  generalize (w.alloc (Obj.cells #[.slice a1 n1 c1, .slice a2 n2 c2, .slice a3 n3 c3, .int .i64 gn, .int .i64 gs] 25)) = X at *
  refine SO.mono ?_
  rintro e w2 ⟨rfl, b2⟩
  have U2 := five_below HT.out b2
  have hR2 := refsAt_below HR1.out b2
  have hM2 := refsAt_below HM1.out b2
  have B2 := HB.out.trans (b2.mono HB.out.size)
  clear SO HT HR1 HM1 HB b2
  by_cases d1 : ms.length + slotsLen ms ≤ left
  · obtain ⟨l1, hl1⟩ : ∃ l1 : Nat, szO ms left = (l1 : Int) ∧ l1 + (ms.length + slotsLen ms) = left := ⟨left - (ms.length + slotsLen ms), by unfold szO; rw [if_pos d1]; omega, by omega⟩
    have SR := szRefS_any hR2 l1 (by omega)
    rw [hl1.1]
    have n1 : ¬ (l1 : Int) < 0 := by omega
    obtain ⟨k0, k1, k2, k3, k4, _⟩ := five_cells U2
    have HB2 : Hid _ := B2
    have HM2 : Hid _ := hM2
    clear U2 B2 hR2 hM2
    by_cases d2 : G.roots.length ≤ l1
    · rw [if_pos d2] at SR
      obtain ⟨l2, hl2⟩ : ∃ l2 : Nat, (l1 : Int) - (G.roots.length : Int) = (l2 : Int) := ⟨l1 - G.roots.length, by omega⟩
      rw [hl2] at SR
      have n2 : ¬ (l2 : Int) < 0 := by omega
      have SM := szRefS_any HM2.out l2 (by omega)
      clear HM2
      by_cases d3 : G.mourned.length ≤ l2
      · rw [if_pos d3] at SM
        obtain ⟨l3, hl3⟩ : ∃ l3 : Nat, (l2 : Int) - (G.mourned.length : Int) = (l3 : Int) := ⟨l2 - G.mourned.length, by omega⟩
        rw [hl3] at SM
        have n3 : ¬ (l3 : Int) < 0 := by omega
        have ER : Hid (RV = (l3 : Int)) := by
          show RV = _
          rw [← HRV.out, if_pos (by unfold gSize; omega)]
          unfold gSize
          omega
        clear HRV
        go_wp2_with (first
          | (go_at_call 28; refine SR.mono ?_; rintro e w3 ⟨rfl, hw3⟩; rw [hw3]; clear hw3 w3 SR)
          | (go_at_call 28; refine SM.mono ?_; rintro e w3 ⟨rfl, hw3⟩; rw [hw3]; clear hw3 w3 SM))
        go_ret
        exact ⟨by rw [ER.out]; rfl, HB2⟩
      · rw [if_neg d3] at SM
        have ER : Hid (RV = -1) := by
          show RV = _
          rw [← HRV.out, if_neg (by unfold gSize; omega)]
        clear HRV
        go_wp2_with (first
          | (go_at_call 28; refine SR.mono ?_; rintro e w3 ⟨rfl, hw3⟩; rw [hw3]; clear hw3 w3 SR)
          | (go_at_call 28; refine SM.mono ?_; rintro e w3 ⟨rfl, hw3⟩; rw [hw3]; clear hw3 w3 SM))
        go_ret
        exact ⟨by rw [ER.out]; rfl, HB2⟩
    · rw [if_neg d2] at SR
      have ER : Hid (RV = -1) := by
        show RV = _
        rw [← HRV.out, if_neg (by unfold gSize; omega)]
      clear HRV HM2
      go_wp2_with (go_at_call 28; refine SR.mono ?_; rintro e w3 ⟨rfl, hw3⟩; rw [hw3]; clear hw3 w3 SR)
      go_ret
      exact ⟨by rw [ER.out]; rfl, HB2⟩
  · have e1 : szO ms left = -1 := by unfold szO; rw [if_neg d1]
    rw [e1]
    have ER : Hid (RV = -1) := by
      show RV = _
      rw [← HRV.out, if_neg (by unfold gSize; omega)]
    have HB2 : Hid _ := B2
    clear HRV U2 hR2 hM2 B2
    go_wp2
    go_ret
    exact ⟨by rw [ER.out]; rfl, HB2⟩

set_option maxHeartbeats 1000000 in
theorem eqGraph_same {w : World} {o r m o' r' m' : Value} {ms ns : List MO} {G : Gr} (h : GraphAt w o r m ms G) (h' : GraphAt w o' r' m' ns G) (hs : gSize ms G ≤ 1048576) :
    Calls Try.prog 13 #[gv o r m G.next G.seed, gv o' r' m' G.next G.seed] w fun e w' => e = .returned (.bool true) ∧ Below w.heap.size w w' := by
  have hsl := gSize_slots hs
  have hsz : G.roots.length ≤ 1048576 ∧ G.mourned.length ≤ 1048576 := by unfold gSize at hs; omega
  obtain ⟨ea, hO, hR, hM⟩ := h
  obtain ⟨ea', hO', hR', hM'⟩ := h'
  have B : Below w.heap.size w ((w.alloc (gb o r m G.next G.seed)).alloc (gb o' r' m' G.next G.seed)) := ((Below.refl _ w).alloc (Nat.le_refl _) _).alloc (by simp) _
  have EO := eqObjS_same (ea.trans ea'.symm) (objsAt_below hO B) (objsAt_below hO' B) hsl
  have T1 : Five ((w.alloc (gb o r m G.next G.seed)).alloc (gb o' r' m' G.next G.seed)) w.heap.size 32 o r m (.int .i64 G.next) (.int .i64 G.seed) := five_below (five_new w _ _ _ _ _ _) ((Below.refl _ _).alloc (Nat.le_refl _) _)
  have T2 : Five ((w.alloc (gb o r m G.next G.seed)).alloc (gb o' r' m' G.next G.seed)) (w.heap.size + 1) 32 o' r' m' (.int .i64 G.next) (.int .i64 G.seed) := by
    have := five_new (w.alloc (gb o r m G.next G.seed)) 32 o' r' m' (.int .i64 G.next) (.int .i64 G.seed)
    simpa using this
  have hR1 := refsAt_below hR B
  have hM1 := refsAt_below hM B
  have hR1' := refsAt_below hR' B
  have hM1' := refsAt_below hM' B
  obtain ⟨a1, n1, c1, e1⟩ : ∃ a n c, o = .slice a n c := by obtain ⟨⟨a, c, e, _⟩, _⟩ := hO; exact ⟨a, _, c, e⟩
  obtain ⟨a2, n2, c2, e2⟩ := refs_slice hR
  obtain ⟨a3, n3, c3, e3⟩ := refs_slice hM
  obtain ⟨b1, p1, d1, f1⟩ : ∃ a n c, o' = .slice a n c := by obtain ⟨⟨a, c, e, _⟩, _⟩ := hO'; exact ⟨a, _, c, e⟩
  obtain ⟨b2, p2, d2, f2⟩ := refs_slice hR'
  obtain ⟨b3, p3, d3, f3⟩ := refs_slice hM'
  subst e1 e2 e3 f1 f2 f3
  have i1 : (G.next != G.next) = false := by simp
  have i2 : (G.seed != G.seed) = false := by simp
  have HT1 : Hid _ := T1
  have HT2 : Hid _ := T2
  have HB : Hid _ := B
  have HR1 : Hid _ := hR1
  have HM1 : Hid _ := hM1
  have HR1' : Hid _ := hR1'
  have HM1' : Hid _ := hM1'
  clear B hO hR hM hR1 hM1 T1 T2 hO' hR' hM' hR1' hM1' ea ea'
  generalize hgn : G.next = gn at *
  generalize hgs : G.seed = gs at *
  go_enter Try.func13, Try.ntmps13
  go_wp2_with fail
  generalize ((w.alloc (gb (.slice a1 n1 c1) (.slice a2 n2 c2) (.slice a3 n3 c3) gn gs)).alloc (gb (.slice b1 p1 d1) (.slice b2 p2 d2) (.slice b3 p3 d3) gn gs)) = X at *
  refine EO.mono ?_
  rintro e w2 ⟨rfl, q2⟩
  have EQ2 := eqRefS_same (refsAt_below HR1.out q2) (refsAt_below HR1'.out q2) hsz.1
  have U1 := five_below HT1.out q2
  have U2 := five_below HT2.out q2
  have M2 := refsAt_below HM1.out q2
  have M2' := refsAt_below HM1'.out q2
  have B2 := HB.out.trans (q2.mono HB.out.size)
  clear EO q2 HT1 HT2 HB HR1 HM1 HR1' HM1'
  obtain ⟨_, k1, k2, k3, k4, _⟩ := five_cells U1
  obtain ⟨_, j1, j2, j3, j4, _⟩ := five_cells U2
  have HU1 : Hid _ := U1
  have HU2 : Hid _ := U2
  have HM2 : Hid _ := M2
  have HM2' : Hid _ := M2'
  have HB2 : Hid _ := B2
  clear U1 U2 M2 M2' B2
  go_wp2_with fail
  refine EQ2.mono ?_
  rintro e w3 ⟨rfl, q3⟩
  have EQ3 := eqRefS_same (refsAt_below HM2.out q3) (refsAt_below HM2'.out q3) hsz.2
  have V1 := five_below HU1.out q3
  have V2 := five_below HU2.out q3
  have B3 := HB2.out.trans (q3.mono HB2.out.size)
  clear EQ2 q3 HU1 HU2 HB2 HM2 HM2' k1 k2 k3 k4 j1 j2 j3 j4
  obtain ⟨_, _, k2, k3, k4, _⟩ := five_cells V1
  obtain ⟨_, _, j2, j3, j4, _⟩ := five_cells V2
  have HV1 : Hid _ := V1
  have HV2 : Hid _ := V2
  have HB3 : Hid _ := B3
  clear V1 V2 B3
  go_wp2_with fail
  refine EQ3.mono ?_
  rintro e w4 ⟨rfl, q4⟩
  have B4 := HB3.out.trans (q4.mono HB3.out.size)
  have Z1 := five_below HV1.out q4
  have Z2 := five_below HV2.out q4
  clear EQ3 q4 HV1 HV2 HB3 k2 k3 k4 j2 j3 j4
  obtain ⟨_, _, _, k3, k4, _⟩ := five_cells Z1
  obtain ⟨_, _, _, j3, j4, _⟩ := five_cells Z2
  have HB4 : Hid _ := B4
  clear Z1 Z2 B4
  go_wp2
  go_ret
  exact ⟨rfl, HB4⟩
end Go.Proofs.Ytdogibjgogcdkal.gr
