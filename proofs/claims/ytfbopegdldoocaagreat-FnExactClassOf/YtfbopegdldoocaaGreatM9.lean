/-
  A region that leaves its order open and whose calls make memory: by the class of the worlds that grow out of one (for seats without graphs). 'copy' and 'clear' on slices whose elements take more than one cell. Chunks in memory: a block that holds one; what is read and stored of it. What the program asks of a row, and a piece cut off one. What the program's ReadAt answers. What the program's headAt and sizeBy answer.
-/
import Derived.Test.YtfbopegdldoocaaGreatM8
import Derived.Deep.QuietTactic
import Derived.BigQuiet
import Derived.Test.YtfbopegdldoocaaGreatProg
import Derived.Laws.CopyOwn
import Derived.Deep.RegionLaw
import Derived.Test.YtfbopegdldoocaaGreatM3
import Derived.Test.YtfbopegdldoocaaGreatM2
namespace Go.Proofs.YtfbopegdldoocaaGreat.hp
open Go.RowKit rows heads words walks

/-- The worlds that grow out of one. -/
def Ext (n : Nat) (w : World) : Type := { w' : World // Below n w w' }
def Ext.to {n : Nat} {w : World} (x : Ext n w) : World := x.1
theorem Ext.below {n : Nat} {w : World} (x : Ext n w) : Below n w x.to := x.2
theorem Ext.of {n : Nat} {w w' : World} (h : Below n w w') : ∃ x : Ext n w, w' = x.to := ⟨⟨w', h⟩, rfl⟩
theorem region_grow {P : Program} {id n : Nat} {Q : Exit → Act → World → Prop} {a : Act} {w : World} {l : List Oper} (hm : P.follows .mixedOrders = true) (hB : Region.lexB .any l.toArray = true)
    (h : wpQuiet P l.toArray (fun w' => ∃ x : Ext n w, w' = x.to) (fun a' => ∀ w', (∃ x : Ext n w, w' = x.to) → Q .normal a' w') l a) : (Code.region id l.toArray true).wp P Q a w :=
  wp_region_quiet (C := fun w' => ∃ x : Ext n w, w' = x.to) hm hB (Ext.of (Below.refl n w).drew) (by simpa using h)
theorem calls_grow {P : Program} {f : FuncId} {args : Array Value} {n : Nat} {w : World} {x : Ext n w} {v : Value} (hn : n ≤ w.heap.size)
    (h : Calls P f args x.to fun e w' => e = .returned v ∧ Below x.to.heap.size x.to w') : Calls P f args x.to fun e w'' => e = .returned v ∧ ∃ y : Ext n w, w'' = y.to :=
  h.mono fun _ _ ⟨he, hb⟩ => ⟨he, Ext.of (x.below.trans (hb.mono (Nat.le_trans hn x.below.size)))⟩
theorem ext_any (w : World) : Nonempty (Ext w.heap.size w) := ⟨⟨w, Below.refl _ _⟩⟩
theorem nine_grow {w : World} {b : Nat} {t : TypeId} {c0 c1 c2 c3 c4 c5 c6 c7 c8 : Value} (h : Nine w b t c0 c1 c2 c3 c4 c5 c6 c7 c8) :
    ((∀ x : Ext w.heap.size w, x.to.cell? ⟨b, 0, none⟩ = some c0) ∧ (∀ x : Ext w.heap.size w, x.to.cell? ⟨b, 1, none⟩ = some c1) ∧ (∀ x : Ext w.heap.size w, x.to.cell? ⟨b, 2, none⟩ = some c2) ∧ (∀ x : Ext w.heap.size w, x.to.cell? ⟨b, 3, none⟩ = some c3) ∧ (∀ x : Ext w.heap.size w, x.to.cell? ⟨b, 4, none⟩ = some c4)) ∧
    ((∀ x : Ext w.heap.size w, x.to.cell? ⟨b, 5, none⟩ = some c5) ∧ (∀ x : Ext w.heap.size w, x.to.cell? ⟨b, 6, none⟩ = some c6) ∧ (∀ x : Ext w.heap.size w, x.to.cell? ⟨b, 7, none⟩ = some c7) ∧ (∀ x : Ext w.heap.size w, x.to.cell? ⟨b, 8, none⟩ = some c8)) := by
  obtain ⟨⟨k0, k1, k2, k3, k4⟩, ⟨k5, k6, k7, k8⟩, _⟩ := nine_cells h
  have hb := lt_of_block h
  exact ⟨⟨fun x => (x.below.cell (p := ⟨b, 0, none⟩) hb).trans k0, fun x => (x.below.cell (p := ⟨b, 1, none⟩) hb).trans k1, fun x => (x.below.cell (p := ⟨b, 2, none⟩) hb).trans k2, fun x => (x.below.cell (p := ⟨b, 3, none⟩) hb).trans k3, fun x => (x.below.cell (p := ⟨b, 4, none⟩) hb).trans k4⟩, fun x => (x.below.cell (p := ⟨b, 5, none⟩) hb).trans k5, fun x => (x.below.cell (p := ⟨b, 6, none⟩) hb).trans k6, fun x => (x.below.cell (p := ⟨b, 7, none⟩) hb).trans k7, fun x => (x.below.cell (p := ⟨b, 8, none⟩) hb).trans k8⟩
theorem cell_grow {w : World} {p : Addr} {v : Value} (h : w.cell? p = some v) : ∀ x : Ext w.heap.size w, x.to.cell? p = some v := fun x => (x.below.cell (p := p) (World.block_lt_of_cell? _ _ h)).trans h

/-- The words of a chunk, one by one. -/
theorem slots_len {H : Hp} {j : Nat} (hc : chunk H.row j ≠ 0) : (slotsOf H j).length = (cnS (H.row.getD j 0)).toNat := by
  have := chunk_slots hc
  unfold slotsOf
  rw [Int.toNat_natCast, List.length_take, List.length_drop]
  omega
theorem slots_getD {H : Hp} {j : Nat} {k : Nat} (hk : k < (cnS (H.row.getD j 0)).toNat) : (slotsOf H j).getD k 0 = H.row.getD (j + 1 + k) 0 := by
  unfold slotsOf
  rw [Int.toNat_natCast]
  generalize (cnS (H.row.getD j 0)).toNat = n at *
  rw [List.getD_eq_getElem?_getD, List.getD_eq_getElem?_getD, List.getElem?_take, if_pos hk, List.getElem?_drop]
theorem chunk_note {xs : List Int} {j : Nat} (hc : chunk xs j ≠ 0) (h7 : uF (xs.getD j 0) = 7) : isA (xs.getD (j + 1) 0) = true := by
  unfold chunk at hc
  split at hc
  · rw [if_neg (by omega)] at hc
    split at hc
    · rename_i h
      exact h.2 h7
    · exact absurd rfl hc
  · exact absurd rfl hc
theorem notes_of {H : Hp} {ps : List Int} (hp : ∀ p ∈ ps, ∃ j : Nat, p = j ∧ j < H.row.length ∧ chunk H.row j ≠ 0) (hs : slotsOk H ps = true) : Notes H ps := by
  intro p hpp h7
  obtain ⟨j, rfl, hj, hc⟩ := hp p hpp
  rw [Int.toNat_natCast] at h7 ⊢
  have cn : cnS (H.row.getD j 0) = 1 := by unfold cnS; rw [if_pos h7]
  have hb := chunk_slots hc
  rw [cn] at hb
  have hA := chunk_note hc h7
  refine ⟨by omega, hA, ?_⟩
  unfold slotsOk at hs
  rw [List.all_eq_true] at hs
  have h1 := hs _ hpp
  have hl : 0 < (slotsOf H (j : Int)).length := by rw [slots_len hc, cn]; decide
  have h2 := all_at h1 hl
  rw [slots_getD (by rw [cn]; decide)] at h2
  unfold wordIn at h2
  rw [show j + 1 + 0 = j + 1 from rfl, hA] at h2
  simp only [Bool.not_true, Bool.false_or, Bool.and_eq_true, decide_eq_true_eq] at h2
  exact h2.2.1
end Go.Proofs.YtfbopegdldoocaaGreat.hp
namespace Go.Proofs.YtfbopegdldoocaaGreat.copyk
open Go.RowKit

theorem run_copy_k {P : Program} (w : World) (dT sT ty elem : TypeId) (sz : Nat) (hz : 0 < sz) (hu : P.underlying dT = some (.slice elem)) (hs : (P.info? elem).map (·.size) = some sz)
    (dp sp : Option Addr) (dLen dCap sLen sCap : Nat) (g off : Nat) (cur : List Value) (t : TypeId) (hg : w.heap[g]? = some (.cells cur.toArray t (0, 0))) (cs : List Value) (hn : cs.length = Nat.min sLen dLen * sz)
    (hpos : 0 < cs.length → dp = some ⟨g, off, none⟩ ∧ ∃ ad, sp = some ad ∧ ∀ j v, cs[j]? = some v → w.cell? (ad.add j) = some v)
    (hfit : off + cs.length ≤ cur.length) (h1 : ∀ v ∈ cs, v.oneCell' = true) :
    (Builtin.copy_ #[dT, sT] ty #[.slice dp dLen dCap, .slice sp sLen sCap]).run P w = .ok (goInt (Nat.min sLen dLen)) (w.setRow g (splice cur off cs).toArray) := by
  cases hq : P.info? elem with
  | none => simp [hq] at hs
  | some i =>
    have hi : i.size = sz := by simpa [hq] using hs
    by_cases h0 : cs.length = 0
    · obtain rfl : cs = [] := List.eq_nil_of_length_eq_zero h0
      have hm : Nat.min sLen dLen = 0 := by
        rcases Nat.mul_eq_zero.1 hn.symm with h | h
        · exact h
        · omega
      have e : w.setRow g (splice cur off []).toArray = w := by
        have := setRow_self w g cur.toArray t (0, 0) hg
        simpa [splice] using this
      rw [e, hm]
      have hl : ∀ (x : Addr), (loadCells x 0).run P w = .ok #[] w := fun x => by simpa using run_loadCells_list (P := P) w x [] (by simp)
      cases dp <;> cases sp <;> simp [Builtin.copy_, run_underlying hu, Builtin.lenOf, Builtin.firstCells, sizeOf, typeInfo, hq, hm, storeCells, hl]
    · obtain ⟨rfl, ad, rfl, hsrc⟩ := hpos (by omega)
      have hl := run_loadCells_list (P := P) w ad cs hsrc
      have hst := run_storeCells_at P g off t cs 0 cur.toArray w hg (by simpa using hfit) h1
      rw [hn] at hl
      simp [Builtin.copy_, run_underlying hu, Builtin.lenOf, Builtin.firstCells, sizeOf, typeInfo, hq, hi, hl, hst, splice]

theorem setRow_below {B g : Nat} {w0 w : World} (hb : Below B w0 w) (hBg : B ≤ g) (cs : Array Value) : Below B w0 (w.setRow g cs) := below_setRow hb hBg cs

theorem wpList_copy_k {P : Program} {w : World} {ops : Array Oper} {rest : List Oper} {o : Oper} {a : Act} {Q : Exit → Act → World → Prop} (hgd : o.guard = none) (d s : Operand) (dT sT : TypeId)
    (ho : o.op = .call { callee := .builtin .copy, args := #[d, s], argTypes := #[dT, sT] }) (elem : TypeId) (sz : Nat) (hz : 0 < sz) (hu : P.underlying dT = some (.slice elem)) (hsz : (P.info? elem).map (·.size) = some sz)
    (dp sp : Option Addr) (dLen dCap sLen sCap : Nat) (hd : a.eval d = .slice dp dLen dCap) (hs : a.eval s = .slice sp sLen sCap)
    (g off : Nat) (cur : List Value) (t : TypeId) (hg : w.heap[g]? = some (.cells cur.toArray t (0, 0))) (cs : List Value) (hn : cs.length = Nat.min sLen dLen * sz)
    (hpos : 0 < cs.length → dp = some ⟨g, off, none⟩ ∧ ∃ ad, sp = some ad ∧ ∀ j v, cs[j]? = some v → w.cell? (ad.add j) = some v)
    (hfit : off + cs.length ≤ cur.length) (h1 : ∀ v ∈ cs, v.oneCell' = true) (B : Nat) (w0 : World) (hb : Below B w0 w) (hBg : B ≤ g)
    (h : ∀ w', Hid (w'.heap[g]? = some (.cells (splice cur off cs).toArray t (0, 0))) → Hid (∀ k, k ≠ g → w'.heap[k]? = w.heap[k]?) → Below B w0 w' → wpList P ops Q rest (a.put o.dst (goInt (Nat.min sLen dLen))) w') :
    wpList P ops Q (o :: rest) a w := by
  refine wpList_plain hgd fun K hK => ?_
  have hrun := run_copy_k (P := P) w dT sT o.type elem sz hz hu hsz dp sp dLen dCap sLen sCap g off cur t hg cs hn hpos hfit h1
  unfold Oper.wp
  simp [execOp, ho, resolve, invoke, builtin, hd, hs, hrun, Result.andThen]
  refine hK _ _ ?_
  have := h (w.setRow g (splice cur off cs).toArray) (setRow_heap w g _ _ t _ hg) (fun k hk => setRow_other w g k _ hk) (below_setRow hb hBg _)
  exact this

theorem step_copy_k {P : Program} {ops : Array Oper} {o : Oper} {a : Act} {w : World} {K : Act → World → Prop} {Q : Exit → Act → World → Prop} {E : Prop} (hgd : o.guard = none) (d s : Operand) (dT sT : TypeId)
    (ho : o.op = .call { callee := .builtin .copy, args := #[d, s], argTypes := #[dT, sT] }) (elem : TypeId) (sz : Nat) (hz : 0 < sz) (hu : P.underlying dT = some (.slice elem)) (hsz : (P.info? elem).map (·.size) = some sz)
    (dp sp : Option Addr) (dLen dCap sLen sCap : Nat) (hd : a.eval d = .slice dp dLen dCap) (hs : a.eval s = .slice sp sLen sCap)
    (g off : Nat) (cur : List Value) (t : TypeId) (hg : w.heap[g]? = some (.cells cur.toArray t (0, 0))) (cs : List Value) (hn : cs.length = Nat.min sLen dLen * sz)
    (hpos : 0 < cs.length → dp = some ⟨g, off, none⟩ ∧ ∃ ad, sp = some ad ∧ ∀ j v, cs[j]? = some v → w.cell? (ad.add j) = some v)
    (hfit : off + cs.length ≤ cur.length) (h1 : ∀ v ∈ cs, v.oneCell' = true) (B : Nat) (w0 : World) (hb : Below B w0 w) (hBg : B ≤ g)
    (h : ∀ w', Hid (w'.heap[g]? = some (.cells (splice cur off cs).toArray t (0, 0))) → Hid (∀ k, k ≠ g → w'.heap[k]? = w.heap[k]?) → Below B w0 w' → K (a.put o.dst (goInt (Nat.min sLen dLen))) w') :
    if Region.wanted o (yielded ops a.tmps) = true then Oper.wp P o a w K Q else E := by
  have hw : Region.wanted o (yielded ops a.tmps) = true := by simp [Region.wanted, hgd]
  rw [if_pos hw]
  have hrun := run_copy_k (P := P) w dT sT o.type elem sz hz hu hsz dp sp dLen dCap sLen sCap g off cur t hg cs hn hpos hfit h1
  unfold Oper.wp
  simp [execOp, ho, resolve, invoke, builtin, hd, hs, hrun, Result.andThen]
  exact h (w.setRow g (splice cur off cs).toArray) (setRow_heap w g _ _ t _ hg) (fun k hk => setRow_other w g k _ hk) (below_setRow hb hBg _)

/-- 'clear(s)': the zero value's cells, over and over. -/
theorem run_clear_k {P : Program} (w : World) (t e ty : TypeId) (z : Value) (sz : Nat) (hu : P.underlying t = some (.slice e)) (hv : ∀ w, (zeroValue e).run P w = .ok z w)
    (ap : Option Addr) (n c : Nat) (g off : Nat) (cur : List Value) (ct : TypeId) (hg : w.heap[g]? = some (.cells cur.toArray ct (0, 0))) (hpos : 0 < n → ap = some ⟨g, off, none⟩)
    (hl : (Builtin.zeroCells z.cells n).toList.length = n * sz) (h1 : ∀ v ∈ (Builtin.zeroCells z.cells n).toList, v.oneCell' = true) (hfit : off + n * sz ≤ cur.length) :
    ∃ w', (Builtin.clear_ #[t] ty #[.slice ap n c]).run P w = .ok (.tuple #[]) w' ∧ w'.heap[g]? = some (.cells (if n = 0 then cur else splice cur off (Builtin.zeroCells z.cells n).toList).toArray ct (0, 0)) ∧ (∀ k, k ≠ g → w'.heap[k]? = w.heap[k]?) ∧ ∀ {B : Nat} {w0 : World}, Below B w0 w → B ≤ g → Below B w0 w' := by
  cases n with
  | zero =>
    refine ⟨w, ?_, by simpa using hg, fun _ _ => rfl, fun h _ => h⟩
    cases ap <;> simp [Builtin.clear_, run_underlying hu]
  | succ n =>
    obtain rfl := hpos (by omega)
    have hst := run_storeCells_at P g off ct (Builtin.zeroCells z.cells (n + 1)).toList 0 cur.toArray w hg (by rw [hl]; simpa using hfit) h1
    refine ⟨w.setRow g (splice cur off (Builtin.zeroCells z.cells (n + 1)).toList).toArray, ?_, ?_, fun k hk => setRow_other w g k _ hk, fun h h' => below_setRow h h' _⟩
    · simp only [Builtin.clear_]
      simp [run_underlying hu, hv, hst, splice]
    · simpa using setRow_heap w g _ (splice cur off (Builtin.zeroCells z.cells (n + 1)).toList).toArray ct _ hg
end Go.Proofs.YtfbopegdldoocaaGreat.copyk
namespace Go.Proofs.YtfbopegdldoocaaGreat.heads
open Go.RowKit
set_option maxRecDepth 100000

/-- A chunk as a value: its head's six fields and its words. -/
abbrev cv (s f c h : Int) (p m : Bool) (u : Value) : Value := .agg #[.int .i64 s, .int .i64 f, .int .i64 c, .int .i64 h, .bool p, .bool m, u]
/-- The block in which a chunk lies. -/
abbrev cb (s f c h : Int) (p m : Bool) (u : Value) : Obj := .cells #[.int .i64 s, .int .i64 f, .int .i64 c, .int .i64 h, .bool p, .bool m, u] 41
/-- The block b holds such a chunk. -/
def ChAt (w : World) (b : Nat) (s f c h : Int) (p m : Bool) (u : Value) : Prop := w.heap[b]? = some (.cells #[.int .i64 s, .int .i64 f, .int .i64 c, .int .i64 h, .bool p, .bool m, u] 41 (0, 0))

theorem chAt_cells {w : World} {b : Nat} {s f c h : Int} {p m : Bool} {u : Value} (hh : ChAt w b s f c h p m u) :
    w.cell? ⟨b, 0, none⟩ = some (.int .i64 s) ∧ w.cell? ⟨b, 1, none⟩ = some (.int .i64 f) ∧ w.cell? ⟨b, 2, none⟩ = some (.int .i64 c) ∧ w.cell? ⟨b, 3, none⟩ = some (.int .i64 h) ∧ w.cell? ⟨b, 4, none⟩ = some (.bool p) ∧ w.cell? ⟨b, 5, none⟩ = some (.bool m) ∧ w.cell? ⟨b, 6, none⟩ = some u ∧ ∀ k, w.frozen? ⟨b, k, none⟩ = false := by
  unfold ChAt at hh
  refine ⟨?_, ?_, ?_, ?_, ?_, ?_, ?_, fun k => ?_⟩
  all_goals simp [World.cell?, World.frozen?, hh]
theorem chAt_new (w : World) (s f c h : Int) (p m : Bool) (u : Value) : ChAt (w.alloc (cb s f c h p m u)) w.heap.size s f c h p m u := heap_alloc_new w _
theorem chAt_alloc {w : World} {b : Nat} {s f c h : Int} {p m : Bool} {u : Value} (hh : ChAt w b s f c h p m u) (o : Obj) : ChAt (w.alloc o) b s f c h p m u := (Below.heap_alloc w o b (lt_of_block hh)).trans hh
theorem chAt_below {w w' : World} {b : Nat} {s f c h : Int} {p m : Bool} {u : Value} (T : ChAt w b s f c h p m u) (hb : Below w.heap.size w w') : ChAt w' b s f c h p m u := (hb.block b (lt_of_block T)).trans T
theorem chAt_set0 {w : World} {b : Nat} {s f c h : Int} {p m : Bool} {u : Value} (hh : ChAt w b s f c h p m u) (x : Int) : ChAt (w.setCell ⟨b, 0, none⟩ (.int .i64 x)) b x f c h p m u := (cells_setCell hh 0 _).trans rfl
theorem chAt_set1 {w : World} {b : Nat} {s f c h : Int} {p m : Bool} {u : Value} (hh : ChAt w b s f c h p m u) (x : Int) : ChAt (w.setCell ⟨b, 1, none⟩ (.int .i64 x)) b s x c h p m u := (cells_setCell hh 1 _).trans rfl
theorem chAt_set2 {w : World} {b : Nat} {s f c h : Int} {p m : Bool} {u : Value} (hh : ChAt w b s f c h p m u) (x : Int) : ChAt (w.setCell ⟨b, 2, none⟩ (.int .i64 x)) b s f x h p m u := (cells_setCell hh 2 _).trans rfl
theorem chAt_set3 {w : World} {b : Nat} {s f c h : Int} {p m : Bool} {u : Value} (hh : ChAt w b s f c h p m u) (x : Int) : ChAt (w.setCell ⟨b, 3, none⟩ (.int .i64 x)) b s f c x p m u := (cells_setCell hh 3 _).trans rfl
theorem chAt_set4 {w : World} {b : Nat} {s f c h : Int} {p m : Bool} {u : Value} (hh : ChAt w b s f c h p m u) (x : Bool) : ChAt (w.setCell ⟨b, 4, none⟩ (.bool x)) b s f c h x m u := (cells_setCell hh 4 _).trans rfl
theorem chAt_set5 {w : World} {b : Nat} {s f c h : Int} {p m : Bool} {u : Value} (hh : ChAt w b s f c h p m u) (x : Bool) : ChAt (w.setCell ⟨b, 5, none⟩ (.bool x)) b s f c h p x u := (cells_setCell hh 5 _).trans rfl
theorem chAt_set6 {w : World} {b : Nat} {s f c h : Int} {p m : Bool} {u : Value} (hh : ChAt w b s f c h p m u) (x : Value) : ChAt (w.setCell ⟨b, 6, none⟩ x) b s f c h p m x := (cells_setCell hh 6 _).trans rfl
theorem seven_set {X : World} {b : Nat} {s' f' c' h' : Int} {p' m' : Bool} {u' : Value} (T : ChAt X b s' f' c' h' p' m' u') (s f c h : Int) (p m : Bool) (u : Value) :
    ChAt (((((((X.setCell ⟨b, 0, none⟩ (.int .i64 s)).setCell ⟨b, 1, none⟩ (.int .i64 f)).setCell ⟨b, 2, none⟩ (.int .i64 c)).setCell ⟨b, 3, none⟩ (.int .i64 h)).setCell ⟨b, 4, none⟩ (.bool p)).setCell ⟨b, 5, none⟩ (.bool m)).setCell ⟨b, 6, none⟩ u) b s f c h p m u := 
  chAt_set6 (chAt_set5 (chAt_set4 (chAt_set3 (chAt_set2 (chAt_set1 (chAt_set0 T _) _) _) _) _) _) _
theorem seven_below {n : Nat} {w X : World} {b : Nat} (hB : Below n w X) (hb : n ≤ b) (s f c h : Int) (p m : Bool) (u : Value) : Below n w (((((((X.setCell ⟨b, 0, none⟩ (.int .i64 s)).setCell ⟨b, 1, none⟩ (.int .i64 f)).setCell ⟨b, 2, none⟩ (.int .i64 c)).setCell ⟨b, 3, none⟩ (.int .i64 h)).setCell ⟨b, 4, none⟩ (.bool p)).setCell ⟨b, 5, none⟩ (.bool m)).setCell ⟨b, 6, none⟩ u) :=
  (six_below hB hb s f c h p m).setCell (p := ⟨b, 6, none⟩) hb _
theorem res_chunk_one {fn : Func} {tmps : Array Value} {X : World} {j k b : Nat} {s f c h : Int} {p m : Bool} {u v : Value} (hf : fn.results = #[.cell j 41, .tmp k]) (h2 : tmps[j]? = some (.pointer (some ⟨b, 0, none⟩))) (hk : tmps[k]? = some v) (hX : ChAt X b s f c h p m u) :
    (results fn tmps).run Tryz.prog X = .ok (.tuple #[cv s f c h p m u, v]) X := by
  obtain ⟨k0, k1, k2, k3, k4, k5, k6, _⟩ := chAt_cells hX
  clear hX
  simp [results, hf, h2, hk, go_sem, k0, k1, k2, k3, k4, k5, k6]
theorem res_head_one {fn : Func} {tmps : Array Value} {X : World} {j k b : Nat} {s f c h : Int} {p m : Bool} {v : Value} (hf : fn.results = #[.cell j 36, .tmp k]) (h2 : tmps[j]? = some (.pointer (some ⟨b, 0, none⟩))) (hk : tmps[k]? = some v) (hX : HeadAt X b s f c h p m) :
    (results fn tmps).run Tryz.prog X = .ok (.tuple #[hv s f c h p m, v]) X := by
  obtain ⟨k0, k1, k2, k3, k4, k5, _⟩ := headAt_cells hX
  clear hX
  simp [results, hf, h2, hk, go_sem, k0, k1, k2, k3, k4, k5]

theorem size_any (s f c h : Int) (p m : Bool) (a : Option Addr) (len cap : Nat) (w : World) :
    Calls Tryz.prog 103 #[cv s f c h p m (.slice a len cap)] w fun e w' => e = .returned (.int .i64 len) ∧ w' = w.alloc (cb s f c h p m (.slice a len cap)) := by
  go_enter Tryz.func103, Tryz.ntmps103
  go_wp2
  go_ret
  exact ⟨rfl, rfl⟩
theorem isNote_any (s f c h : Int) (p m : Bool) (u : Value) (w : World) :
    Calls Tryz.prog 28 #[cv s f c h p m u] w fun e w' => e = .returned (.bool (f == 7)) ∧ w' = w.alloc (cb s f c h p m u) := by
  go_enter Tryz.func28, Tryz.ntmps28
  go_wp2
  go_ret
  exact ⟨rfl, rfl⟩
end Go.Proofs.YtfbopegdldoocaaGreat.heads
namespace Go.Proofs.YtfbopegdldoocaaGreat.rows
open Go.RowKit
set_option maxRecDepth 100000

theorem isRow_any {w : World} {v : Value} {xs : List Int} (h : IntsAt w v xs) :
    Calls Tryz.prog 101 #[v] w fun e w' => e = .returned (.bool (rowOk xs)) ∧ w' = w := by
  obtain ⟨a, cap, rfl, hlc, hcm, _, hc⟩ := h
  clear hc
  by_cases h1 : xs.length ≤ 1000
  · have h2 : (xs.length : Int) ≤ 1000 := by omega
    go_enter Tryz.func101, Tryz.ntmps101
    go_wp2
    go_ret
    exact ⟨by simp [rowOk, h1], rfl⟩
  · have h2 : ¬ (xs.length : Int) ≤ 1000 := by omega
    go_enter Tryz.func101, Tryz.ntmps101
    go_wp2
    go_ret
    exact ⟨by simp [rowOk]; omega, rfl⟩

/-- Is there a piece of n places from f on? -/
def cutOk (len : Nat) (f n : Int) : Bool := decide (0 ≤ f ∧ 0 ≤ n ∧ f + n ≤ len)
theorem cutOk_true {len : Nat} {f n : Int} (h : cutOk len f n = true) : 0 ≤ f ∧ 0 ≤ n ∧ f + n ≤ len := by simpa [cutOk] using h
theorem cutOk_false {len : Nat} {f n : Int} (h : cutOk len f n = false) : ¬ (0 ≤ f ∧ 0 ≤ n ∧ f + n ≤ len) := by simpa [cutOk] using h
/-- The piece of n places from f on. -/
def piece (a : Option Addr) (f n : Nat) : Value := .slice (if n = 0 then a else a.map (·.add f)) n n

theorem cut_no {w : World} {a : Option Addr} {len cap : Nat} (hlc : len ≤ cap) (hcm : cap ≤ maxLen) (f n : Int) (hf : I64 f) (hn : I64 n) (d : cutOk len f n = false) :
    Calls Tryz.prog 100 #[.slice a len cap, .int .i64 f, .int .i64 n] w fun e w' => e = .returned (.tuple #[.slice none 0 0, .bool false]) ∧ w' = w := by
  unfold I64 at hf hn
  unfold maxLen at hcm
  have d' := cutOk_false d
  clear d
  by_cases h1 : f < 0
  · go_enter Tryz.func100, Tryz.ntmps100
    go_wp2
    go_ret2
    exact ⟨rfl, rfl⟩
  · by_cases h2 : n < 0
    · go_enter Tryz.func100, Tryz.ntmps100
      go_wp2
      go_ret2
      exact ⟨rfl, rfl⟩
    · have h3 : n > (len : Int) - f := by omega
      go_enter Tryz.func100, Tryz.ntmps100
      go_wp2
      go_ret2
      exact ⟨rfl, rfl⟩

theorem cut_yes {w : World} {a : Option Addr} {len cap : Nat} (hlc : len ≤ cap) (hcm : cap ≤ maxLen) (F N : Nat) (fn : F + N ≤ len) :
    Calls Tryz.prog 100 #[.slice a len cap, .int .i64 F, .int .i64 N] w fun e w' => e = .returned (.tuple #[piece a F N, .bool true]) ∧ w' = w := by
  unfold maxLen at hcm
  have h1 : ¬ (F : Int) < 0 := by omega
  have h2 : ¬ (N : Int) < 0 := by omega
  have h3 : ¬ (N : Int) > (len : Int) - F := by omega
  go_enter Tryz.func100, Tryz.ntmps100
  go_wp2
  all_goals go_ret2
  · exact ⟨by simp [piece, *], rfl⟩
  · exact ⟨by simp [piece, *], rfl⟩

theorem piece_at (b off k n : Nat) (hn : 0 < n) : piece (some ⟨b, off, none⟩) k n = .slice (some ⟨b, off + k, none⟩) n n := by
  have hn' : n ≠ 0 := by omega
  by_cases h0 : k = 0
  · subst h0; simp [piece, Addr.add]
  · simp [piece, Addr.add, h0, hn']
theorem piece_none (a : Option Addr) (k : Nat) : piece a k 0 = .slice a 0 0 := by simp [piece]

end Go.Proofs.YtfbopegdldoocaaGreat.rows
namespace Go.Proofs.YtfbopegdldoocaaGreat.rows
open Go.RowKit
set_option maxRecDepth 100000

theorem implReadAt (w : World) (v : Value) (xs : List Int) (i : Int) (h : IntsAt w v xs) (hl : xs.length ≤ 1048576) (hi : I64 i) :
    Calls Tryz.prog 110 #[v, .int .i64 i] w fun e w' => e = .returned (.tuple #[.int .i64 (readAt xs i), .bool (okAt xs i)]) ∧ Below w.heap.size w w' := by
  have h' := h
  obtain ⟨a, cap, rfl, hlc, hcm, _, hc⟩ := h
  cases d1 : rowOk xs
  · have eo : okAt xs i = false := by simp [okAt, d1]
    have er : readAt xs i = 0 := by simp [readAt, eo]
    rw [er, eo]
    clear hc er
    go_enter Tryz.func110, Tryz.ntmps110
    go_wp2_with (go_at_call 101; refine (isRow_any h').mono ?_; rintro e w' ⟨rfl, hw⟩; rw [hw]; clear hw w')
    go_ret2
    exact ⟨rfl, Below.refl _ _⟩
  · cases d2 : atOk xs i
    · have eo : okAt xs i = false := by simp [okAt, d2]
      have er : readAt xs i = 0 := by simp [readAt, eo]
      have dc : cutOk xs.length i 1 = false := by simp [cutOk, atOk] at d2 ⊢; omega
      rw [er, eo]
      clear hc er
      go_enter Tryz.func110, Tryz.ntmps110
      go_wp2_with (go_at_call 101; refine (isRow_any h').mono ?_; rintro e w' ⟨rfl, hw⟩; rw [hw]; clear hw w')
      refine (cut_no hlc hcm i 1 hi ⟨by decide, by decide⟩ dc).mono ?_
      rintro e w' ⟨rfl, hw⟩
      rw [hw]
      clear hw w'
      go_wp2
      go_ret2
      exact ⟨rfl, Below.refl _ _⟩
    · have eo : okAt xs i = true := by simp [okAt, d1, d2]
      obtain ⟨p1, p2⟩ := atOk_true d2
      obtain ⟨k, rfl⟩ := Int.eq_ofNat_of_zero_le p1
      obtain ⟨b, off, rfl, hb, hcc⟩ := hc (by omega)
      have c0 := hcc k (by omega)
      have er : readAt xs k = xs.getD k 0 := by simp [readAt, eo]
      have ep := piece_at b off k 1 (by decide)
      rw [er, eo]
      clear hc hcc er
      generalize xs.getD k 0 = x at *
      go_enter Tryz.func110, Tryz.ntmps110
      go_wp2_with (go_at_call 101; refine (isRow_any h').mono ?_; rintro e w' ⟨rfl, hw⟩; rw [hw]; clear hw w')
      refine (cut_yes hlc hcm k 1 (by omega)).mono ?_
      rintro e w' ⟨rfl, hw⟩
      rw [hw, ep]
      clear hw w' ep
      go_wp2
      go_ret2
      exact ⟨rfl, Below.refl _ _⟩
end Go.Proofs.YtfbopegdldoocaaGreat.rows
namespace Go.Proofs.YtfbopegdldoocaaGreat.walks
open Go.RowKit rows heads words
set_option maxRecDepth 100000

theorem headAt_no {w : World} {v : Value} {xs : List Int} (h : IntsAt w v xs) (hl : xs.length ≤ 1048576) (i : Int) (hi : I64 i) (d : okAt xs i = false) :
    Calls Tryz.prog 104 #[v, .int .i64 i] w fun e w' => e = .returned (.tuple #[hv 0 0 0 0 false false, .bool false]) ∧ Below w.heap.size w w' := by
  have B0 : Below w.heap.size w (w.alloc (hb 0 0 0 0 false false)) := (Below.refl _ _).alloc (Nat.le_refl _) _
  have T0 := headAt_new w 0 0 0 0 false false
  have s0 : w.heap.size + 1 ≤ (w.alloc (hb 0 0 0 0 false false)).heap.size := by simp
  have RD := implReadAt _ v xs i (intsAt_below h B0) hl hi
  rw [d] at RD
  go_enter Tryz.func104, Tryz.ntmps104
  go_wp2_with fail
  generalize (w.alloc (Obj.cells #[.int .i64 0, .int .i64 0, .int .i64 0, .int .i64 0, .bool false, .bool false] 36)) = X at *
  refine RD.mono ?_
  rintro e w1 ⟨rfl, b1⟩
  have T1 := headAt_below T0 b1
  have B1 := B0.trans (b1.mono (by omega))
  obtain ⟨t0, t1, t2, t3, t4, t5, tf⟩ := headAt_cells T1
  have f0 := tf 0; have f1 := tf 1; have f2 := tf 2; have f3 := tf 3; have f4 := tf 4; have f5 := tf 5
  have T2 : Hid _ := six_set T1 0 0 0 0 false false
  have B2 : Hid _ := six_below B1 (Nat.le_refl _) 0 0 0 0 false false
  clear b1 RD T0 B0 B1 tf T1
  generalize readAt xs i = z at *
  go_wp2
  exact bodyPost_ret (v := .tuple #[hv 0 0 0 0 false false, .bool false]) (res_head_one rfl rfl rfl T2) rfl ⟨rfl, B2⟩

theorem headAt_drew {w : World} {b : Nat} {s f c h : Int} {p m : Bool} (hh : HeadAt w b s f c h p m) : HeadAt w.drew b s f c h p m := hh

theorem headAt_yes {w : World} {v : Value} {xs : List Int} (h : IntsAt w v xs) (hl : xs.length ≤ 1048576) (k : Nat) (d : okAt xs k = true) (hx : I64 (xs.getD k 0)) :
    Calls Tryz.prog 104 #[v, .int .i64 k] w fun e w' => e = .returned (.tuple #[hv (uS (xs.getD k 0)) (uF (xs.getD k 0)) (uC (xs.getD k 0)) (uH (xs.getD k 0)) (uP (xs.getD k 0)) (uM (xs.getD k 0)), .bool (ok (xs.getD k 0) && !uM (xs.getD k 0))]) ∧ Below w.heap.size w w' := by
  have hk : (k : Int) < xs.length := (atOk_true (by simp only [okAt, Bool.and_eq_true] at d; exact d.2)).2
  have B0 : Below w.heap.size w (w.alloc (hb 0 0 0 0 false false)) := (Below.refl _ _).alloc (Nat.le_refl _) _
  have T0 := headAt_new w 0 0 0 0 false false
  have s0 : w.heap.size + 1 ≤ (w.alloc (hb 0 0 0 0 false false)).heap.size := by simp
  have RD := implReadAt _ v xs k (intsAt_below h B0) hl ⟨by omega, by omega⟩
  have er : readAt xs k = xs.getD k 0 := by simp [readAt, d]
  rw [d, er] at RD
  generalize xs.getD k 0 = x at *
  have UN : ∀ W, _ := fun W => unpacked_any x hx.2 W
  generalize ok x = o at *
  generalize uS x = s at *
  generalize uF x = f at *
  generalize uC x = c at *
  generalize uH x = g at *
  generalize uP x = p at *
  generalize uM x = m at *
  clear er
  go_enter Tryz.func104, Tryz.ntmps104
  go_wp2_with fail
  generalize (w.alloc (Obj.cells #[.int .i64 0, .int .i64 0, .int .i64 0, .int .i64 0, .bool false, .bool false] 36)) = X at *
  refine RD.mono ?_
  rintro e w1 ⟨rfl, b1⟩
  have s1 := b1.size
  have T1 := headAt_below T0 b1
  have B1 := B0.trans (b1.mono (by omega))
  clear b1 RD T0 B0
  go_wp2_with fail
  refine (UN _).mono ?_
  clear UN
  rintro e w2 ⟨rfl, b2⟩
  have s2 := b2.size
  have T2 := headAt_alloc (headAt_below T1 b2) (hb s f c g p m)
  have B2 := (B1.trans (b2.mono (by omega))).alloc (by omega) (hb s f c g p m)
  have N2 := headAt_new w2 s f c g p m
  clear b2 T1 B1
  have ne : w.heap.size ≠ w2.heap.size := by omega
  go_wp2_with fail
  generalize hY : w2.alloc (Obj.cells #[.int .i64 s, .int .i64 f, .int .i64 c, .int .i64 g, .bool p, .bool m] 36) = Y at *
  clear hY
  have T2 : HeadAt Y w.heap.size 0 0 0 0 false false := T2
  have N2 : HeadAt Y w2.heap.size s f c g p m := N2
  have B2 : Below w.heap.size w Y := B2
  obtain ⟨t0, t1, t2, t3, t4, t5, tf⟩ := headAt_cells T2
  have f0 := tf 0; have f1 := tf 1; have f2 := tf 2; have f3 := tf 3; have f4 := tf 4; have f5 := tf 5
  obtain ⟨n0, n1, n2, n3, n4, n5, nf⟩ := headAt_cells N2
  have T3 : Hid _ := headAt_drew (six_set T2 s f c g p m)
  have B3 : Hid _ := (six_below B2 (Nat.le_refl _) s f c g p m).drew
  clear tf nf N2 B2 T2
  cases o
  · go_region
    all_goals go_wp2
    all_goals exact bodyPost_ret (v := .tuple #[hv s f c g p m, .bool false]) (res_head_one rfl rfl rfl T3) rfl ⟨rfl, B3⟩
  · go_region
    all_goals go_wp2
    all_goals exact bodyPost_ret (v := .tuple #[hv s f c g p m, .bool (!m)]) (res_head_one rfl rfl rfl T3) rfl ⟨rfl, B3⟩

/-- Is this what a free chunk may say of itself? -/
def csOk (n : Int) : Bool := decide (2 ≤ n ∧ n % 2 = 0)
theorem chunkSizeOk_any (n : Int) (w : World) (hn : I64 n) :
    Calls Tryz.prog 113 #[.int .i64 n] w fun e w' => e = .returned (.bool (csOk n)) ∧ w' = w := by
  unfold I64 at hn
  by_cases h1 : n ≥ 2
  · by_cases h2 : n % 2 = 0
    · have e : csOk n = true := by simp [csOk, h2]; omega
      go_enter Tryz.func113, Tryz.ntmps113
      go_wp2
      go_ret
      exact ⟨by simp [e], rfl⟩
    · have e : csOk n = false := by simp [csOk, h2]
      go_enter Tryz.func113, Tryz.ntmps113
      go_wp2
      go_ret
      exact ⟨by simp [e, h2], rfl⟩
  · have e : csOk n = false := by simp [csOk]; omega
    go_enter Tryz.func113, Tryz.ntmps113
    go_wp2
    go_ret
    exact ⟨rfl, rfl⟩

/-- What the head, or the word behind it, tells of the size; 0: nothing. -/
def sbOf (xs : List Int) (k : Nat) (s f : Int) : Int := if f = 6 then (if csOk (readAt xs ((k : Int) + 1)) = true then readAt xs ((k : Int) + 1) else 0) else sz s

theorem readAt_I {xs : List Int} (h : AllI xs) (i : Int) : I64 (readAt xs i) := by
  unfold readAt
  split
  · rename_i d
    simp only [okAt, Bool.and_eq_true] at d
    have := atOk_true d.2
    exact allI_at h (by omega)
  · exact ⟨by decide, by decide⟩

theorem sizeBy_any {w : World} {v : Value} {xs : List Int} (h : IntsAt w v xs) (hl : xs.length ≤ 1048576) (ha : AllI xs) (k : Nat) (hk : k ≤ 1048576) (s f c g : Int) (p m : Bool) :
    Calls Tryz.prog 105 #[v, .int .i64 k, hv s f c g p m] w fun e w' => e = .returned (.int .i64 (sbOf xs k s f)) ∧ Below w.heap.size w w' := by
  have B0 : Below w.heap.size w (w.alloc (hb s f c g p m)) := (Below.refl _ _).alloc (Nat.le_refl _) _
  have s0 : w.heap.size ≤ (w.alloc (hb s f c g p m)).heap.size := by simp
  have RD := implReadAt _ v xs ((k : Int) + 1) (intsAt_below h B0) hl ⟨by omega, by omega⟩
  have IY := readAt_I ha ((k : Int) + 1)
  by_cases h6 : f = 6
  · have e : sbOf xs k s f = if csOk (readAt xs ((k : Int) + 1)) = true then readAt xs ((k : Int) + 1) else 0 := by simp [sbOf, h6]
    rw [e]
    generalize readAt xs ((k : Int) + 1) = y at *
    generalize okAt xs ((k : Int) + 1) = o at *
    have CS : ∀ W, _ := fun W => chunkSizeOk_any y W IY
    subst h6
    clear e ha
    cases d : csOk y
    · have E : (if false = true then y else 0) = 0 := rfl
      rw [E]
      clear E
      go_enter Tryz.func105, Tryz.ntmps105
      go_wp2_with fail
      generalize (w.alloc (Obj.cells #[.int .i64 s, .int .i64 6, .int .i64 c, .int .i64 g, .bool p, .bool m] 36)) = X at *
      refine RD.mono ?_
      rintro e w1 ⟨rfl, b1⟩
      have B1 : Hid _ := B0.trans (b1.mono s0)
      clear b1 RD B0
      go_wp2_with (go_at_call 113; refine (CS _).mono ?_; rintro e w2 ⟨rfl, rfl⟩)
      go_ret
      exact ⟨rfl, B1⟩
    · have E : (if true = true then y else 0) = y := rfl
      rw [E]
      clear E
      go_enter Tryz.func105, Tryz.ntmps105
      go_wp2_with fail
      generalize (w.alloc (Obj.cells #[.int .i64 s, .int .i64 6, .int .i64 c, .int .i64 g, .bool p, .bool m] 36)) = X at *
      refine RD.mono ?_
      rintro e w1 ⟨rfl, b1⟩
      have B1 : Hid _ := B0.trans (b1.mono s0)
      clear b1 RD B0
      go_wp2_with (go_at_call 113; refine (CS _).mono ?_; rintro e w2 ⟨rfl, rfl⟩)
      go_ret
      exact ⟨rfl, B1⟩
  · have e : sbOf xs k s f = sz s := by simp [sbOf, h6]
    rw [e]
    clear RD e
    go_enter Tryz.func105, Tryz.ntmps105
    go_wp2_with (go_at_call 112; refine (sizeOf_any _ _).mono ?_; rintro e w2 ⟨rfl, rfl⟩)
    go_ret
    exact ⟨rfl, B0⟩
end Go.Proofs.YtfbopegdldoocaaGreat.walks
