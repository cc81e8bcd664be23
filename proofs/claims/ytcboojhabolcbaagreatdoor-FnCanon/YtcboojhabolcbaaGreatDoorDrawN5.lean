/-
  Chapter 6, the drawn inputs of GPut.
  Made from the template DrawN5.
-/
import Derived.Test.YtcboojhabolcbaaGreatDoorDrawN4
import Derived.Test.YtcboojhabolcbaaGreatDoorM4
namespace Go.Proofs.YtcboojhabolcbaaGreatDoor.gr
open Go.RowKit rows heads draw region
set_option maxRecDepth 100000
set_option linter.unusedVariables false
set_option linter.unusedSimpArgs false

/-- A drawn graph in its box, the cursor, the answers' blocks: filled or not. -/
structure BP (w : World) (P : Nat) (a : Option Addr) (len cap : Nat) (a1 : Option Addr) (n1 c1 : Nat) (a2 : Option Addr) (n2 c2 : Nat) (a3 : Option Addr) (n3 c3 : Nat) (ms : List MO) (G : Gr) (f g : Bool) (V : World) : Prop where
  box : Five V P 27 (.slice a1 n1 c1) (.slice a2 n2 c2) (.slice a3 n3 c3) (.int .i64 G.next) (.int .i64 G.seed)
  res0 : f = false → Five V w.heap.size 27 (.slice none 0 0) (.slice none 0 0) (.slice none 0 0) (.int .i64 0) (.int .i64 0)
  res1 : f = true → Five V w.heap.size 27 (.slice a1 n1 c1) (.slice a2 n2 c2) (.slice a3 n3 c3) (.int .i64 G.next) (.int .i64 G.seed)
  ref0 : g = false → RfAt V (w.heap.size + 1) (0, 0)
  ref1 : g = true → ∃ x y, RfAt V (w.heap.size + 1) (x, y)
  keep : GKeep V (w.heap.size + 3) (.slice a1 n1 c1) (.slice a2 n2 c2) (.slice a3 n3 c3) ms G
  cur : Cur V (w.heap.size + 2) a len cap
  bel : Below w.heap.size w V
  lt : w.heap.size + 3 ≤ P
section
variable {w V V' : World} {P : Nat} {a : Option Addr} {len cap : Nat} {a1 : Option Addr} {n1 c1 : Nat} {a2 : Option Addr} {n2 c2 : Nat} {a3 : Option Addr} {n3 c3 : Nat} {ms : List MO} {G : Gr} {f g : Bool}
theorem BP.step (D : BP w P a len cap a1 n1 c1 a2 n2 c2 a3 n3 c3 ms G f g V) (hg : V.grownBy V' (some (w.heap.size + 2))) (hc : Cur V' (w.heap.size + 2) a len cap) : BP w P a len cap a1 n1 c1 a2 n2 c2 a3 n3 c3 ms G f g V' :=
  ⟨five_ch D.box (ch_cur hg) (fun e => by have := D.lt; rw [List.mem_singleton] at e; omega), fun e => five_ch (D.res0 e) (ch_cur hg) (fun e => by rw [List.mem_singleton] at e; omega), fun e => five_ch (D.res1 e) (ch_cur hg) (fun e => by rw [List.mem_singleton] at e; omega),
    fun e => rfAt_cur (D.ref0 e) (by omega) hg, fun e => by obtain ⟨x, y, h⟩ := D.ref1 e; exact ⟨x, y, rfAt_cur h (by omega) hg⟩, fun U S c hS => D.keep U (S ++ [w.heap.size + 2]) (((ch_cur hg).mono (fun k hk => List.mem_append_right _ hk)).trans (c.mono (fun k hk => List.mem_append_left _ hk))) (fun k hk => by
    rcases List.mem_append.1 hk with h | h
    · exact hS k h
    · rw [List.mem_singleton] at h; omega), hc, D.bel.grown hg D.bel.size (fun k e => by cases e; omega), D.lt⟩
theorem BP.alloc (D : BP w P a len cap a1 n1 c1 a2 n2 c2 a3 n3 c3 ms G f g V) (x : Obj) : BP w P a len cap a1 n1 c1 a2 n2 c2 a3 n3 c3 ms G f g (V.alloc x) :=
  D.step (grownBy_alloc (grownBy_refl _ _) _) (cur_alloc D.cur x)
theorem BP.drew (D : BP w P a len cap a1 n1 c1 a2 n2 c2 a3 n3 c3 ms G f g V) : BP w P a len cap a1 n1 c1 a2 n2 c2 a3 n3 c3 ms G f g V.drew :=
  D.step (grownBy_drew (grownBy_refl _ _)) (cur_drew D.cur)
/-- The graph is laid. -/
theorem BP.lay1 (D : BP w P a len cap a1 n1 c1 a2 n2 c2 a3 n3 c3 ms G false g V) : BP w P a len cap a1 n1 c1 a2 n2 c2 a3 n3 c3 ms G true g (((((V.setCell ⟨w.heap.size, 0, none⟩ (.slice a1 n1 c1)).setCell ⟨w.heap.size, 1, none⟩ (.slice a2 n2 c2)).setCell ⟨w.heap.size, 2, none⟩ (.slice a3 n3 c3)).setCell ⟨w.heap.size, 3, none⟩ (.int .i64 G.next)).setCell ⟨w.heap.size, 4, none⟩ (.int .i64 G.seed)) := by
  have C : Ch [w.heap.size] V _ := five_other (X := V) (b := w.heap.size) (.slice a1 n1 c1) (.slice a2 n2 c2) (.slice a3 n3 c3) (.int .i64 G.next) (.int .i64 G.seed)
  have lt := D.lt
  refine ⟨five_ch D.box C (fun e => by rw [List.mem_singleton] at e; omega), (fun e => by cases e), fun _ => five_sets (D.res0 rfl) _ _ _ _ _, fun e => (C.block _ (lt_of_block (D.ref0 e)) (fun e => by rw [List.mem_singleton] at e; omega)).trans (D.ref0 e), fun e => ?_, fun U S c hS => ?_, ?_, five_belows D.bel (Nat.le_refl _) _ _ _ _ _, lt⟩
  · obtain ⟨x, y, h⟩ := D.ref1 e
    exact ⟨x, y, (C.block _ (lt_of_block h) (fun e => by rw [List.mem_singleton] at e; omega)).trans h⟩
  · exact D.keep U (S ++ [w.heap.size]) ((C.mono (fun k hk => List.mem_append_right _ hk)).trans (c.mono (fun k hk => List.mem_append_left _ hk))) (fun k hk => by
      rcases List.mem_append.1 hk with h | h
      · exact hS k h
      · rw [List.mem_singleton] at h; omega)
  · exact cur_ch D.cur C (fun e => by rw [List.mem_singleton] at e; omega)
/-- The ref is laid. -/
theorem BP.lay2 (D : BP w P a len cap a1 n1 c1 a2 n2 c2 a3 n3 c3 ms G f false V) (x y : Int) : BP w P a len cap a1 n1 c1 a2 n2 c2 a3 n3 c3 ms G f true ((V.setCell ⟨w.heap.size + 1, 0, none⟩ (.int .i64 x)).setCell ⟨w.heap.size + 1, 1, none⟩ (.int .i64 y)) := by
  have C : Ch [w.heap.size + 1] V ((V.setCell ⟨w.heap.size + 1, 0, none⟩ (.int .i64 x)).setCell ⟨w.heap.size + 1, 1, none⟩ (.int .i64 y)) := (one_ch V _ _ _).trans (one_ch _ _ _ _)
  have lt := D.lt
  refine ⟨five_ch D.box C (fun e => by rw [List.mem_singleton] at e; omega), fun e => five_ch (D.res0 e) C (fun e => by rw [List.mem_singleton] at e; omega), fun e => five_ch (D.res1 e) C (fun e => by rw [List.mem_singleton] at e; omega), (fun e => by cases e), fun _ => ⟨x, y, rfAt_sets (D.ref0 rfl) x y⟩, fun U S c hS => ?_, ?_, ?_, lt⟩
  · exact D.keep U (S ++ [w.heap.size + 1]) ((C.mono (fun k hk => List.mem_append_right _ hk)).trans (c.mono (fun k hk => List.mem_append_left _ hk))) (fun k hk => by
      rcases List.mem_append.1 hk with h | h
      · exact hS k h
      · rw [List.mem_singleton] at h; omega)
  · exact cur_ch D.cur C (fun e => by rw [List.mem_singleton] at e; omega)
  · exact (D.bel.setCell (p := ⟨w.heap.size + 1, 0, none⟩) (by show w.heap.size ≤ w.heap.size + 1; omega) _).setCell (p := ⟨w.heap.size + 1, 1, none⟩) (by show w.heap.size ≤ w.heap.size + 1; omega) _
theorem BP.gr (D : BP w P a len cap a1 n1 c1 a2 n2 c2 a3 n3 c3 ms G f g V) : GraphAt V (.slice a1 n1 c1) (.slice a2 n2 c2) (.slice a3 n3 c3) ms G := D.keep V [] (Ch.refl _ _) (fun k hk => by cases hk)
end
theorem res_grP {fn : Func} {tmps : Array Value} {X : World} {b b' : Nat} {a1 a2 a3 : Option Addr} {n1 c1 n2 c2 n3 c3 : Nat} {x y x0 r0 r1 : Int} (hf : fn.results = #[.cell 2 27, .tmp 3, .cell 4 31]) (h2 : tmps[2]? = some (.pointer (some ⟨b, 0, none⟩))) (i0 : tmps[3]? = some (.int .i64 x0)) (h4 : tmps[4]? = some (.pointer (some ⟨b', 0, none⟩))) (hX : Five X b 27 (.slice a1 n1 c1) (.slice a2 n2 c2) (.slice a3 n3 c3) (.int .i64 x) (.int .i64 y)) (hR : RfAt X b' (r0, r1)) :
    (results fn tmps).run Tryz.prog X = .ok (.tuple #[gv (.slice a1 n1 c1) (.slice a2 n2 c2) (.slice a3 n3 c3) x y, .int .i64 x0, rv (r0, r1)]) X := by
  obtain ⟨k0, k1, k2, k3, k4, _⟩ := five_cells hX
  obtain ⟨p0, p1, _⟩ := rfAt_cells hR
  clear hX hR
  simp [results, hf, h2, h4, i0, go_sem, k0, k1, k2, k3, k4, p0, p1]
abbrev lit4 : Obj := .cells #[.int .i64 0, .int .i64 1, .int .i64 100000, .int .i64 100001] 2 (0, 0)
theorem run_lit4 (w : World) : (Instr.buildSlice 71 4 #[(0, .int .i64 0), (1, .int .i64 1), (2, .int .i64 100000), (3, .int .i64 100001)]).run Tryz.prog w = .ok (.slice (some ⟨w.heap.size, 0, none⟩) 4 4) (w.alloc lit4) := by
  go_simp
theorem run_ix4 (g j : Nat) (hj : j < 4) (w : World) : (Instr.indexAt 71 (.slice (some ⟨g, 0, none⟩) 4 4) (.int .i64 (j : Nat))).run Tryz.prog w = .ok (.pointer (some ⟨g, j, none⟩)) w := by
  have h1 : (j : Int) < 4 := by omega
  have h2 : (0 : Int) ≤ (j : Int) := by omega
  go_simp
theorem run_ld4 (g j : Nat) (hj : j < 4) (w : World) (h : w.heap[g]? = some lit4) : ∃ x : Int, (Instr.loadAt 2 (.pointer (some ⟨g, j, none⟩))).run Tryz.prog w = .ok (.int .i64 x) w := by
  rcases (show j = 0 ∨ j = 1 ∨ j = 2 ∨ j = 3 by omega) with rfl | rfl | rfl | rfl
  · have c : w.cell? ⟨g, 0, none⟩ = some (.int .i64 0) := by simp [World.cell?, h]
    exact ⟨0, by go_simp⟩
  · have c : w.cell? ⟨g, 1, none⟩ = some (.int .i64 1) := by simp [World.cell?, h]
    exact ⟨1, by go_simp⟩
  · have c : w.cell? ⟨g, 2, none⟩ = some (.int .i64 100000) := by simp [World.cell?, h]
    exact ⟨100000, by go_simp⟩
  · have c : w.cell? ⟨g, 3, none⟩ = some (.int .i64 100001) := by simp [World.cell?, h]
    exact ⟨100001, by go_simp⟩

theorem all_listedB {ops : Array Oper} {l : Array Bool} (hacyc : ∀ (k : Nat) (o : Oper), ops[k]? = some o → ∀ e ∈ o.after, Region.binds .any e = true → e.on < k) (hl : l.size = ops.size) (h : Region.ready .any ops l = []) : ∀ k, k < ops.size → l.getD k false = true := by
  intro k
  induction k using Nat.strongRecOn with
  | ind k ih =>
    intro hk
    have hl' : k < l.size := by omega
    cases hv : l.getD k false with
    | true => rfl
    | false =>
      have h1 : l.getD k true = false := by
        simp only [Array.getD, hl', dite_true] at hv ⊢
        exact hv
      have : k ∈ Region.ready .any ops l := mem_ready.2 ⟨h1, ops[k], Array.getElem?_eq_getElem hk, fun e he hb => ih e.on (hacyc k _ (Array.getElem?_eq_getElem hk) e he hb) (by have := hacyc k _ (Array.getElem?_eq_getElem hk) e he hb; omega)⟩
      rw [h] at this
      cases this
theorem wp_region_factsB {P : Program} {id : Nat} {ops : Array Oper} {Q : Exit → Act → World → Prop} {a0 : Act} {w : World} (hm : P.follows .mixedOrders = true) (D : Nat → Bool)
    (hg : ∀ o ∈ ops, o.guard = none) (hacyc : ∀ (k : Nat) (o : Oper), ops[k]? = some o → ∀ e ∈ o.after, Region.binds .any e = true → e.on < k)
    (I : Array Bool → (Nat → Value) → World → Prop)
    (start : I (Array.replicate ops.size false) (fun s => a0.tmps.getD s undef) w.drew)
    (fin : ∀ l u w, I l u w → (∀ k, k < ops.size → l.getD k false = true) → Q .normal (ovr D a0 u) w)
    (stp : ∀ l u w k o, I l u w → l.size = ops.size → l.getD k false = false → ops[k]? = some o → (∀ e ∈ o.after, Region.binds .any e = true → l.getD e.on false = true) →
      o.wp P (ovr D a0 u) w (fun a' w' => ∃ u', a' = ovr D a0 u' ∧ I (l.setIfInBounds k true) u' w') Q) : (Code.region id ops true).wp P Q a0 w := by
  refine wp_region_inv hm (fun l a w => l.size = ops.size ∧ ∃ u, a = ovr D a0 u ∧ I l u w) ⟨by simp, _, (ovr_self D a0).symm, start⟩ ?_ ?_
  · rintro l a w ⟨hl, u, rfl, h⟩ hr
    exact fin l u w h (all_listedB hacyc hl hr)
  · rintro l a w i ⟨hl, u, rfl, h⟩ hi
    obtain ⟨h1, o, ho, hd⟩ := mem_ready.1 hi
    have hi' : i < ops.size := (Array.getElem?_eq_some_iff.1 ho).1
    have h1' : l.getD i false = false := by
      have hl' : i < l.size := by omega
      simp only [Array.getD, hl', dite_true] at h1 ⊢
      exact h1
    have hgo := hg o (Array.mem_of_getElem? ho)
    unfold wpOp
    rw [ho]
    simp only
    rw [if_pos (by simp [Region.wanted, hgo])]
    refine .inl (Oper.wp_mono (fun a' w' h' => ?_) (stp l u w i o h hl h1' ho hd))
    obtain ⟨u', e, h'⟩ := h'
    exact ⟨by simpa using hl, u', e, h'⟩

def dP (k : Nat) : Nat := match k with
  | 0 => 16
  | 1 => 17
  | 2 => 18
  | 3 => 19
  | 4 => 20
  | 5 => 21
  | 6 => 22
  | 7 => 23
  | 8 => 24
  | 9 => 25
  | 10 => 2000
  | 11 => 3
  | _ => 2001
theorem dP_inj : ∀ k, k < 13 → ∀ j, j < 13 → dP j = dP k → j = k := by decide
def DP (s : Nat) : Bool := s == 3 || (decide (16 ≤ s) && decide (s ≤ 25))
def FP (n0 : Nat) (gvv pc : Value) (x0 : Int) (k : Nat) (t : Value) (W : World) : Prop :=
  match k with
  | 0 => t = gvv
  | 1 => t = .int .i64 x0
  | 2 => t = pc
  | 3 => ∃ y : Int, t = .int .i64 y
  | 4 => ∃ g, n0 ≤ g ∧ t = .slice (some ⟨g, 0, none⟩) 4 4 ∧ W.heap[g]? = some lit4
  | 5 => t = pc
  | 6 => ∃ j : Nat, j < 4 ∧ t = .int .i64 j
  | 7 => ∃ g j : Nat, n0 ≤ g ∧ j < 4 ∧ t = .pointer (some ⟨g, j, none⟩) ∧ W.heap[g]? = some lit4
  | 8 => ∃ z : Int, t = .int .i64 z
  | 9 => ∃ y z : Int, t = rv (y, z)
  | 11 => t = .int .i64 x0
  | _ => True
theorem FP_kept {n0 : Nat} {gvv pc : Value} {x0 : Int} {W W' : World} (hk : ∀ g, n0 ≤ g → g < W.heap.size → W'.heap[g]? = W.heap[g]?) (k : Nat) (hk13 : k < 13) (t : Value) (h : FP n0 gvv pc x0 k t W) : FP n0 gvv pc x0 k t W' := by
  match k, hk13, h with
  | 0, _, h => exact h
  | 1, _, h => exact h
  | 2, _, h => exact h
  | 3, _, h => exact h
  | 4, _, ⟨g, h1, h2, h3⟩ => exact ⟨g, h1, h2, (hk g h1 (lt_of_block h3)).trans h3⟩
  | 5, _, h => exact h
  | 6, _, h => exact h
  | 7, _, ⟨g, j, h1, h2, h3, h4⟩ => exact ⟨g, j, h1, h2, h3, (hk g h1 (lt_of_block h4)).trans h4⟩
  | 8, _, h => exact h
  | 9, _, h => exact h
  | 10, _, _ => exact trivial
  | 11, _, h => exact h
  | 12, _, _ => exact trivial
/-- What is known as the region goes on. -/
structure IP (w : World) (P : Nat) (a : Option Addr) (len cap : Nat) (a1 : Option Addr) (n1 c1 : Nat) (a2 : Option Addr) (n2 c2 : Nat) (a3 : Option Addr) (n3 c3 : Nat) (ms : List MO) (G : Gr) (n0 : Nat) (x0 : Int) (l : Array Bool) (u : Nat → Value) (W : World) : Prop where
  bp : BP w P a len cap a1 n1 c1 a2 n2 c2 a3 n3 c3 ms G (l.getD 10 false) (l.getD 12 false) W
  sz : n0 ≤ W.heap.size
  fact : ∀ k, k < 13 → l.getD k false = true → FP n0 (gv (.slice a1 n1 c1) (.slice a2 n2 c2) (.slice a3 n3 c3) G.next G.seed) (.pointer (some ⟨w.heap.size + 2, 0, none⟩)) x0 k (u (dP k)) W
section
variable {w : World} {P : Nat} {a : Option Addr} {len cap : Nat} {a1 : Option Addr} {n1 c1 : Nat} {a2 : Option Addr} {n2 c2 : Nat} {a3 : Option Addr} {n3 c3 : Nat} {ms : List MO} {G : Gr} {n0 : Nat} {x0 : Int} {l : Array Bool} {u : Nat → Value} {W W' : World}
theorem IP.step (h : IP w P a len cap a1 n1 c1 a2 n2 c2 a3 n3 c3 ms G n0 x0 l u W) {k : Nat} (hk : k < 13) (h10 : k ≠ 10) (h12 : k ≠ 12) (hn : w.heap.size + 2 < n0) {v : Value} (hg : W.grownBy W' (some (w.heap.size + 2))) (hc : Cur W' (w.heap.size + 2) a len cap) (hv : FP n0 (gv (.slice a1 n1 c1) (.slice a2 n2 c2) (.slice a3 n3 c3) G.next G.seed) (.pointer (some ⟨w.heap.size + 2, 0, none⟩)) x0 k v W') :
    IP w P a len cap a1 n1 c1 a2 n2 c2 a3 n3 c3 ms G n0 x0 (l.setIfInBounds k true) (upd u (dP k) v) W' := by
  refine ⟨?_, Nat.le_trans h.sz hg.size, ?_⟩
  · rw [getD_other l h10, getD_other l h12]
    exact h.bp.step hg hc
  · exact facts_put (dst := dP) (dP_inj k hk) h.fact (fun j hj _ _ t => FP_kept (fun g h1 h2 => hg.block g h2 (fun e => by injection e with e; omega)) j hj t) hv
theorem IP.laid (h : IP w P a len cap a1 n1 c1 a2 n2 c2 a3 n3 c3 ms G n0 x0 l u W) (hl : l.size = 13) {k : Nat} (hk : k = 10 ∨ k = 12) {b : Nat} (hb : b < n0) (C : Ch [b] W W') (hB : BP w P a len cap a1 n1 c1 a2 n2 c2 a3 n3 c3 ms G ((l.setIfInBounds k true).getD 10 false) ((l.setIfInBounds k true).getD 12 false) W') :
    IP w P a len cap a1 n1 c1 a2 n2 c2 a3 n3 c3 ms G n0 x0 (l.setIfInBounds k true) u W' := by
  refine ⟨hB, Nat.le_trans h.sz C.size, fun j hj hlj => ?_⟩
  by_cases e : j = k
  · subst e
    rcases hk with rfl | rfl <;> exact trivial
  · rw [getD_other l (Ne.symm e)] at hlj
    exact FP_kept (fun g h1 h2 => C.block g h2 (fun e => by rw [List.mem_singleton] at e; omega)) j hj _ (h.fact j hj hlj)
theorem IP.same (h : IP w P a len cap a1 n1 c1 a2 n2 c2 a3 n3 c3 ms G n0 x0 l u W) {k : Nat} (hk : k < 13) (h10 : k ≠ 10) (h12 : k ≠ 12) (hn : w.heap.size + 2 < n0) {v : Value} (hv : FP n0 (gv (.slice a1 n1 c1) (.slice a2 n2 c2) (.slice a3 n3 c3) G.next G.seed) (.pointer (some ⟨w.heap.size + 2, 0, none⟩)) x0 k v W) :
    IP w P a len cap a1 n1 c1 a2 n2 c2 a3 n3 c3 ms G n0 x0 (l.setIfInBounds k true) (upd u (dP k) v) W := h.step hk h10 h12 hn (grownBy_refl _ _) h.bp.cur hv
end

set_option maxHeartbeats 8000000 in
theorem dGPut_any {W w : World} {a : Option Addr} {len cap : Nat} {zs : List Int} (hr : IsRow .u8 W a len cap zs) (hW : Below W.heap.size W w) (hlen : len ≤ 4096) :
    Calls Tryz.prog 7 #[.slice a len cap] w fun e w' => ∃ (o r m : Value) (ms : List MO) (G : Gr) (x0 r0 r1 : Int), e = .returned (.tuple #[gv o r m G.next G.seed, .int .i64 x0, rv (r0, r1)]) ∧ GraphAt w' o r m ms G ∧ gSize ms G ≤ 1048576 ∧ Below w.heap.size w w' := by
  obtain ⟨Z, hZ⟩ : ∃ Z, Z = (w.alloc (gb (.slice none 0 0) (.slice none 0 0) (.slice none 0 0) 0 0)).alloc (rb refD) := ⟨_, rfl⟩
  have BZ : Below w.heap.size w Z := by rw [hZ]; exact ((Below.refl _ w).alloc (Nat.le_refl _) _).alloc (by simp) _
  have s0 : Z.heap.size = w.heap.size + 2 := by rw [hZ]; simp
  have sWw := hW.size
  have NW := new_any hr (hW.trans (BZ.mono hW.size)) hlen
  rw [s0] at NW
  have T0 : Five Z w.heap.size 27 (.slice none 0 0) (.slice none 0 0) (.slice none 0 0) (.int .i64 0) (.int .i64 0) := by rw [hZ]; exact five_below (five_new w _ _ _ _ _ _) ((Below.refl _ _).alloc (Nat.le_refl _) _)
  have R0 : RfAt Z (w.heap.size + 1) (0, 0) := by
    have := rfAt_new (w.alloc (gb (.slice none 0 0) (.slice none 0 0) (.slice none 0 0) 0 0)) refD
    rw [hZ]
    rw [show (w.alloc (gb (.slice none 0 0) (.slice none 0 0) (.slice none 0 0) 0 0)).heap.size = w.heap.size + 1 by simp] at this
    exact this
  have HT0 : Hid _ := T0
  have HR0 : Hid _ := R0
  have HBZ : Hid _ := BZ
  have HS0 : Hid _ := s0
  clear T0 BZ s0 R0
  go_enter Tryz.func7, Tryz.ntmps7
  go_wp2_with fail
  rw [← hZ]
  clear hZ
  refine NW.mono ?_
  rintro e w1 ⟨rfl, c1, s1, b1⟩
  have sZ := HS0.out
  have B1 := HBZ.out.trans (b1.mono (by omega))
  have T1 := (b1.block w.heap.size (by omega)).trans HT0.out
  have R1 : RfAt w1 (w.heap.size + 1) (0, 0) := (b1.block (w.heap.size + 1) (by omega)).trans HR0.out
  have step : ∀ {V : World}, Below w.heap.size w V → Below W.heap.size W V := fun h => hW.trans (h.mono hW.size)
  have DA := l6DrawAny_any hr (step B1) (show W.heap.size ≤ w.heap.size + 2 by omega) c1
  have HB1 : Hid _ := B1
  have HT1 : Hid _ := T1
  have HR1 : Hid _ := R1
  have s1' : w1.heap.size = w.heap.size + 3 := by omega
  have HS1 : Hid _ := s1'
  clear NW c1 b1 B1 T1 HT0 HBZ HS0 s1 s1' HR0 R1
  go_wp2_with fail
  refine DA.mono ?_
  rintro e w2 ⟨o, r, m, ms, G, rfl, K2, ⟨Z2, _⟩, hg2, hc2⟩
  rw [HS1.out] at K2
  obtain ⟨a1, n1, c1, a2, n2, c2, a3, n3, c3, e1, e2, e3⟩ := graphAt_slices (K2 w2 [] (Ch.refl _ _) (fun k hk => by cases hk))
  subst e1 e2 e3
  have N2 : Below w2.heap.size w2 (w2.alloc (gb (.slice a1 n1 c1) (.slice a2 n2 c2) (.slice a3 n3 c3) G.next G.seed)) := (Below.refl _ _).alloc (Nat.le_refl _) _
  have s2 := hg2.size
  have hd : BP w w2.heap.size a len cap a1 n1 c1 a2 n2 c2 a3 n3 c3 ms G false false (w2.alloc (gb (.slice a1 n1 c1) (.slice a2 n2 c2) (.slice a3 n3 c3) G.next G.seed)) := by
    have h1 := HS1.out
    refine ⟨five_new w2 _ _ _ _ _ _, fun _ => five_below (five_ch HT1.out (ch_cur hg2) (fun e => by rw [List.mem_singleton] at e; omega)) N2, (fun e => by cases e), fun _ => ?_, (fun e => by cases e), fun U S c hS => K2 U S ((ch_below N2).trans c) hS, cur_alloc hc2 _, (HB1.out.grown hg2 HB1.out.size (fun k e => by cases e; omega)).alloc (Nat.le_trans HB1.out.size s2) _, by omega⟩
    have := rfAt_cur (show RfAt w1 (w.heap.size + 1) (0, 0) from HR1.out) (by omega) hg2
    exact (N2.block _ (lt_of_block this)).trans this
  have HD : Hid _ := hd
  clear K2 hg2 hc2 N2 s2 HB1 HT1 HS1 DA HR1 hd
  go_wp2_with fail
  generalize (w2.alloc (gb (.slice a1 n1 c1) (.slice a2 n2 c2) (.slice a3 n3 c3) G.next G.seed)) = X3 at *
  generalize w2.heap.size = P at *
  refine (drawRoot_any hr (step HD.out.bel) (by omega) HD.out.cur).mono ?_
  rintro e y0 ⟨x0, _, rfl, hg, hc⟩
  have HD0 : Hid _ := HD.out.step hg hc
  clear HD hg hc
  go_wp2_with fail
  refine (once_any 3 hr (step HD0.out.bel) (by omega) HD0.out.cur).mono ?_
  rintro e y1 ⟨b1, rfl, hg, hc⟩
  have HD : Hid _ := HD0.out.step hg hc
  clear HD0 hg hc
  cases b1
  · go_wp2_with fail
    have HKE : Hid (∀ U, y1.drew.grownBy U (some (w.heap.size + 2)) → Cur U (w.heap.size + 2) a len cap → BP w P a len cap a1 n1 c1 a2 n2 c2 a3 n3 c3 ms G false false U) := fun U hg hc => HD.out.step (grownBy_trans (grownBy_drew (grownBy_refl y1 _)) hg) hc
    have CL := below_any 9 hr (step (HD.out.bel.drew)) (show W.heap.size ≤ w.heap.size + 2 by omega) (cur_drew HD.out.cur)
    obtain ⟨z0, z1, z2, z3, z4, _⟩ := five_cells HD.out.box
    clear HD
    go_region_law (go_simp; go_at_call 34; refine CL.mono ?_; clear CL; rintro e u1 ⟨x2, _, _, _, rfl, hg, hc⟩; have D9 := HKE.out u1 hg hc; obtain ⟨p0, p1, p2, p3, p4, _⟩ := five_cells D9.box; obtain ⟨q0, q1, q2, q3, q4, qf⟩ := five_cells (D9.res0 rfl); have qf0 := qf 0; have qf1 := qf 1; have qf2 := qf 2; have qf3 := qf 3; have qf4 := qf 4; obtain ⟨r0, r1, rf⟩ := rfAt_cells (D9.ref0 rfl); have rf0 := rf 0; have rf1 := rf 1; have HF : Hid _ := D9.lay1.lay2 1 x2; have HF5 : Hid _ := rfAt_sets (D9.lay1.ref0 rfl) 1 x2; clear D9 hg hc qf rf)
    all_goals go_wp2
    all_goals exact bodyPost_ret (res_grP rfl rfl rfl rfl (HF.out.res1 rfl) HF5.out) rfl ⟨_, _, _, ms, G, ⟨_, _, _, rfl⟩, HF.out.gr, Z2, HF.out.bel⟩
  · go_upto_region 5 with (fail)
    have l3 := HD.out.bel.size
    have hn : w.heap.size + 2 < y1.heap.size := by have := cur_lt HD.out.cur; omega
    have HN : Hid _ := hn
    generalize hA0 : (Act.mk _ []) = A0
    have e2 : A0.tmps.getD 2 undef = .pointer (some ⟨w.heap.size, 0, none⟩) := by rw [← hA0]; rfl
    have e4 : A0.tmps.getD 4 undef = .pointer (some ⟨w.heap.size + 1, 0, none⟩) := by rw [← hA0]; rfl
    have e5 : A0.tmps.getD 5 undef = .pointer (some ⟨w.heap.size + 2, 0, none⟩) := by rw [← hA0]; rfl
    have e6 : A0.tmps.getD 6 undef = .pointer (some ⟨P, 0, none⟩) := by rw [← hA0]; rfl
    have e7 : A0.tmps.getD 7 undef = .int .i64 x0 := by rw [← hA0]; rfl
    have sz : A0.tmps.size = 31 := by rw [← hA0]; rfl
    have ed : A0.defers = [] := by rw [← hA0]
    refine wp_region_factsB (by kernel_rfl) DP (by simp) ?_ (IP w P a len cap a1 n1 c1 a2 n2 c2 a3 n3 c3 ms G y1.heap.size x0) ?_ ?_ ?_
    · intro k o ho
      have hk : k < 13 := (Array.getElem?_eq_some_iff.1 ho).1
      rcases (show k = 0 ∨ k = 1 ∨ k = 2 ∨ k = 3 ∨ k = 4 ∨ k = 5 ∨ k = 6 ∨ k = 7 ∨ k = 8 ∨ k = 9 ∨ k = 10 ∨ k = 11 ∨ k = 12 by omega) with rfl | rfl | rfl | rfl | rfl | rfl | rfl | rfl | rfl | rfl | rfl | rfl | rfl <;> (obtain rfl := Option.some.inj ho; simp [Region.binds])
    · refine ⟨?_, Nat.le_refl _, fun k hk h => ?_⟩
      · exact HD.out.drew
      · simp [Array.getD, hk] at h
    · intro l u V I hl
      have D := I.bp
      have h10 := hl 10 (by decide)
      have h12 := hl 12 (by decide)
      have f11 : u 3 = .int .i64 x0 := I.fact 11 (by decide) (hl 11 (by decide))
      rw [h10, h12] at D
      obtain ⟨r0, r1, hrf⟩ := D.ref1 rfl
      have HF : Hid _ := D
      have HRF : Hid _ := hrf
      clear D hrf I hl h10 h12 HD
      subst hA0
      simp [ovr, DP, List.range, List.range.loop, f11]
      go_wp2
      exact bodyPost_ret (res_grP rfl rfl rfl rfl (HF.out.res1 rfl) HRF.out) rfl ⟨_, _, _, ms, G, ⟨_, _, _, rfl⟩, HF.out.gr, Z2, HF.out.bel⟩
    · intro l u V k o I hl hlk ho hd
      have hk : k < 13 := (Array.getElem?_eq_some_iff.1 ho).1
      have ev : ∀ s, DP s = true → s < 31 → (ovr DP A0 u).tmps[s]?.getD undef = u s := fun s h1 h2 => (getD_at _ _).symm.trans (eval_in h1 (by omega))
      have o2 : (ovr DP A0 u).tmps[2]?.getD undef = _ := (getD_at _ _).symm.trans ((eval_out (D := DP) (a0 := A0) (u := u) (s := 2) rfl (by omega)).trans e2)
      have o4 : (ovr DP A0 u).tmps[4]?.getD undef = _ := (getD_at _ _).symm.trans ((eval_out (D := DP) (a0 := A0) (u := u) (s := 4) rfl (by omega)).trans e4)
      have o5 : (ovr DP A0 u).tmps[5]?.getD undef = _ := (getD_at _ _).symm.trans ((eval_out (D := DP) (a0 := A0) (u := u) (s := 5) rfl (by omega)).trans e5)
      have o6 : (ovr DP A0 u).tmps[6]?.getD undef = _ := (getD_at _ _).symm.trans ((eval_out (D := DP) (a0 := A0) (u := u) (s := 6) rfl (by omega)).trans e6)
      have o7 : (ovr DP A0 u).tmps[7]?.getD undef = _ := (getD_at _ _).symm.trans ((eval_out (D := DP) (a0 := A0) (u := u) (s := 7) rfl (by omega)).trans e7)
      rcases (show k = 0 ∨ k = 1 ∨ k = 2 ∨ k = 3 ∨ k = 4 ∨ k = 5 ∨ k = 6 ∨ k = 7 ∨ k = 8 ∨ k = 9 ∨ k = 10 ∨ k = 11 ∨ k = 12 by omega) with rfl | rfl | rfl | rfl | rfl | rfl | rfl | rfl | rfl | rfl | rfl | rfl | rfl
      all_goals obtain rfl := Option.some.inj ho
      · obtain ⟨z0, z1, z2, z3, z4, _⟩ := five_cells I.bp.box
        exact wp_value (v := gv (.slice a1 n1 c1) (.slice a2 n2 c2) (.slice a3 n3 c3) G.next G.seed) (w' := V) (by simp only [execOp]; go_simp) ⟨_, put_in rfl rfl u _, I.same (by decide) (by decide) (by decide) HN.out rfl⟩
      · exact wp_value (v := .int .i64 x0) (w' := V) (by simp only [execOp]; go_simp) ⟨_, put_in rfl rfl u _, I.same (by decide) (by decide) (by decide) HN.out rfl⟩
      · exact wp_value (v := .pointer (some ⟨w.heap.size + 2, 0, none⟩)) (w' := V) (by simp only [execOp]; go_simp) ⟨_, put_in rfl rfl u _, I.same (by decide) (by decide) (by decide) HN.out rfl⟩
      · have x2 := (ev 18 rfl (by decide)).trans (I.fact 2 (by decide) (hd ⟨2, .data⟩ (by simp) (by simp [Region.binds])))
        refine wp_call (f := 33) (args := #[.pointer (some ⟨w.heap.size + 2, 0, none⟩), .int .i64 (-1), .int .i64 5]) (by simp only [execOp]; go_simp) ?_
        refine (from_any (-1) 5 (by decide) (by decide) (by decide) hr (step I.bp.bel) (by omega) I.bp.cur).mono ?_
        rintro e v1 ⟨y, _, _, rfl, hg, hc⟩
        exact ⟨_, rfl, _, put_in rfl rfl u _, I.step (by decide) (by decide) (by decide) HN.out hg hc ⟨y, rfl⟩⟩
      · exact wp_value (v := .slice (some ⟨V.heap.size, 0, none⟩) 4 4) (w' := V.alloc lit4) (by simp only [execOp]; go_simp) ⟨_, put_in rfl rfl u _, I.step (by decide) (by decide) (by decide) HN.out (grownBy_alloc (grownBy_refl _ _) _) (cur_alloc I.bp.cur _) ⟨V.heap.size, I.sz, rfl, heap_alloc_new V _⟩⟩
      · exact wp_value (v := .pointer (some ⟨w.heap.size + 2, 0, none⟩)) (w' := V) (by simp only [execOp]; go_simp) ⟨_, put_in rfl rfl u _, I.same (by decide) (by decide) (by decide) HN.out rfl⟩
      · have x5 := (ev 21 rfl (by decide)).trans (I.fact 5 (by decide) (hd ⟨5, .data⟩ (by simp) (by simp [Region.binds])))
        refine wp_call (f := 34) (args := #[.pointer (some ⟨w.heap.size + 2, 0, none⟩), .int .i64 4]) (by simp only [execOp]; go_simp) ?_
        refine (below_any 4 hr (step I.bp.bel) (by omega) I.bp.cur).mono ?_
        rintro e v1 ⟨y, y0, _, y1', rfl, hg, hc⟩
        obtain ⟨j, rfl⟩ := Int.eq_ofNat_of_zero_le y0
        have := y1' (by decide)
        exact ⟨_, rfl, _, put_in rfl rfl u _, I.step (by decide) (by decide) (by decide) HN.out hg hc ⟨j, by omega, rfl⟩⟩
      · obtain ⟨g, g1, g2, g3⟩ := I.fact 4 (by decide) (hd ⟨4, .data⟩ (by simp) (by simp [Region.binds]))
        obtain ⟨j, j1, j2⟩ := I.fact 6 (by decide) (hd ⟨6, .data⟩ (by simp) (by simp [Region.binds]))
        have x4 := (ev 20 rfl (by decide)).trans g2
        have x6 := (ev 22 rfl (by decide)).trans j2
        exact wp_value (v := .pointer (some ⟨g, j, none⟩)) (w' := V) (by simp [execOp, Act.eval, getD_at, x4, x6, run_ix4 g j j1, Result.andThen]) ⟨_, put_in rfl rfl u _, I.same (by decide) (by decide) (by decide) HN.out ⟨g, j, g1, j1, rfl, g3⟩⟩
      · obtain ⟨g, j, g1, j1, g2, g3⟩ := I.fact 7 (by decide) (hd ⟨7, .data⟩ (by simp) (by simp [Region.binds]))
        have x7 := (ev 23 rfl (by decide)).trans g2
        obtain ⟨z, zr⟩ := run_ld4 g j j1 V g3
        exact wp_value (v := .int .i64 z) (w' := V) (by simp [execOp, Act.eval, getD_at, x7, zr, Result.andThen]) ⟨_, put_in rfl rfl u _, I.same (by decide) (by decide) (by decide) HN.out ⟨z, rfl⟩⟩
      · obtain ⟨y, hy⟩ := I.fact 3 (by decide) (hd ⟨3, .data⟩ (by simp) (by simp [Region.binds]))
        obtain ⟨z, hz⟩ := I.fact 8 (by decide) (hd ⟨8, .data⟩ (by simp) (by simp [Region.binds]))
        have x3 := (ev 19 rfl (by decide)).trans hy
        have x8 := (ev 24 rfl (by decide)).trans hz
        exact wp_value (v := rv (y, z)) (w' := V) (by simp only [execOp]; go_simp) ⟨_, put_in rfl rfl u _, I.same (by decide) (by decide) (by decide) HN.out ⟨y, z, rfl⟩⟩
      · have h0 := I.fact 0 (by decide) (hd ⟨0, .data⟩ (by simp) (by simp [Region.binds]))
        have x0' := (ev 16 rfl (by decide)).trans h0
        have D := I.bp
        rw [hlk] at D
        obtain ⟨q0, q1, q2, q3, q4, qf⟩ := five_cells (D.res0 rfl)
        have qf0 := qf 0
        have qf1 := qf 1
        have qf2 := qf 2
        have qf3 := qf 3
        have qf4 := qf 4
        refine wp_skipped (w' := (((((V.setCell ⟨w.heap.size, 0, none⟩ (.slice a1 n1 c1)).setCell ⟨w.heap.size, 1, none⟩ (.slice a2 n2 c2)).setCell ⟨w.heap.size, 2, none⟩ (.slice a3 n3 c3)).setCell ⟨w.heap.size, 3, none⟩ (.int .i64 G.next)).setCell ⟨w.heap.size, 4, none⟩ (.int .i64 G.seed))) (by simp only [execOp]; go_simp) ⟨u, put_no rfl u undef, I.laid hl (.inl rfl) (b := w.heap.size) (by have := HN.out; omega) (five_other (X := V) (b := w.heap.size) (.slice a1 n1 c1) (.slice a2 n2 c2) (.slice a3 n3 c3) (.int .i64 G.next) (.int .i64 G.seed)) ?_⟩
        rw [listed_ne (show 10 < l.size by rw [hl]; decide), getD_other l (show ¬ (10 : Nat) = 12 by decide)]
        exact D.lay1
      · have x1 := (ev 17 rfl (by decide)).trans (I.fact 1 (by decide) (hd ⟨1, .data⟩ (by simp) (by simp [Region.binds])))
        exact wp_value (v := .int .i64 x0) (w' := V) (by simp only [execOp]; go_simp) ⟨_, put_in rfl rfl u _, I.same (by decide) (by decide) (by decide) HN.out rfl⟩
      · obtain ⟨y, z, h9⟩ := I.fact 9 (by decide) (hd ⟨9, .data⟩ (by simp) (by simp [Region.binds]))
        have x9 := (ev 25 rfl (by decide)).trans h9
        have D := I.bp
        rw [hlk] at D
        obtain ⟨r0, r1, rf⟩ := rfAt_cells (D.ref0 rfl)
        have rf0 := rf 0
        have rf1 := rf 1
        refine wp_skipped (w' := ((V.setCell ⟨w.heap.size + 1, 0, none⟩ (.int .i64 y)).setCell ⟨w.heap.size + 1, 1, none⟩ (.int .i64 z))) (by simp only [execOp]; go_simp) ⟨u, put_no rfl u undef, I.laid hl (.inr rfl) (b := w.heap.size + 1) (by have := HN.out; omega) ((one_ch V _ _ _).trans (one_ch _ _ _ _)) ?_⟩
        rw [listed_ne (show 12 < l.size by rw [hl]; decide), getD_other l (show ¬ (12 : Nat) = 10 by decide)]
        exact D.lay2 y z
end Go.Proofs.YtcboojhabolcbaaGreatDoor.gr
