/-
  'copy' and 'clear' on slices whose elements take more than one cell. Lists of entries (a number and a text) in memory: what may be read of one (EntsAt); a row of the call's own (OwnE).
-/
import Derived.Test.YtcboojhabolcbaaGreatDoorProg
import Derived.Laws.CopyOwn
import Derived.Deep.RegionLaw
import Derived.Test.YtcboojhabolcbaaGreatDoorM1
namespace Go.Proofs.YtcboojhabolcbaaGreatDoor.copyk
open Go.RowKit

theorem run_copy_k {P : Program} (w : World) (dT sT ty elem : TypeId) (sz : Nat) (hz : 0 < sz) (hu : P.underlying dT = some (.slice elem)) (hs : (P.info? elem).map (·.size) = some sz)
    (dp sp : Option Addr) (dLen dCap sLen sCap : Nat) (g off : Nat) (cur : List Value) (t : TypeId) (hg : w.heap[g]? = some (.cells cur.toArray t (0, 0))) (cs : List Value) (hn : cs.length = Nat.min sLen dLen * sz)
    (hpos : 0 < cs.length → dp = some ⟨g, off, none⟩ ∧ ∃ ad, sp = some ad ∧ ∀ j v, cs[j]? = some v → w.cell? (ad.add j) = some v)
    (hfit : off + cs.length ≤ cur.length) (h1 : ∀ v ∈ cs, v.oneCell' = true) :
    (Builtin.copy_ #[dT, sT] ty #[.slice dp dLen dCap, .slice sp sLen sCap]).run P w = .ok (goInt (Nat.min sLen dLen)) (w.setRow g (splice cur off cs).toArray) := by
  cases hq : P.info? elem with
  | none => simp [hq] at hs
  | some i =>
    have hi : i.size = sz := by simpa [hq] using hs
    by_cases h0 : cs.length = 0
    · obtain rfl : cs = [] := List.eq_nil_of_length_eq_zero h0
      have hm : Nat.min sLen dLen = 0 := by
        rcases Nat.mul_eq_zero.1 hn.symm with h | h
        · exact h
        · omega
      have e : w.setRow g (splice cur off []).toArray = w := by
        have := setRow_self w g cur.toArray t (0, 0) hg
        simpa [splice] using this
      rw [e, hm]
      have hl : ∀ (x : Addr), (loadCells x 0).run P w = .ok #[] w := fun x => by simpa using run_loadCells_list (P := P) w x [] (by simp)
      cases dp <;> cases sp <;> simp [Builtin.copy_, run_underlying hu, Builtin.lenOf, Builtin.firstCells, sizeOf, typeInfo, hq, hm, storeCells, hl]
    · obtain ⟨rfl, ad, rfl, hsrc⟩ := hpos (by omega)
      have hl := run_loadCells_list (P := P) w ad cs hsrc
      have hst := run_storeCells_at P g off t cs 0 cur.toArray w hg (by simpa using hfit) h1
      rw [hn] at hl
      simp [Builtin.copy_, run_underlying hu, Builtin.lenOf, Builtin.firstCells, sizeOf, typeInfo, hq, hi, hl, hst, splice]

theorem setRow_below {B g : Nat} {w0 w : World} (hb : Below B w0 w) (hBg : B ≤ g) (cs : Array Value) : Below B w0 (w.setRow g cs) := below_setRow hb hBg cs

theorem wpList_copy_k {P : Program} {w : World} {ops : Array Oper} {rest : List Oper} {o : Oper} {a : Act} {Q : Exit → Act → World → Prop} (hgd : o.guard = none) (d s : Operand) (dT sT : TypeId)
    (ho : o.op = .call { callee := .builtin .copy, args := #[d, s], argTypes := #[dT, sT] }) (elem : TypeId) (sz : Nat) (hz : 0 < sz) (hu : P.underlying dT = some (.slice elem)) (hsz : (P.info? elem).map (·.size) = some sz)
    (dp sp : Option Addr) (dLen dCap sLen sCap : Nat) (hd : a.eval d = .slice dp dLen dCap) (hs : a.eval s = .slice sp sLen sCap)
    (g off : Nat) (cur : List Value) (t : TypeId) (hg : w.heap[g]? = some (.cells cur.toArray t (0, 0))) (cs : List Value) (hn : cs.length = Nat.min sLen dLen * sz)
    (hpos : 0 < cs.length → dp = some ⟨g, off, none⟩ ∧ ∃ ad, sp = some ad ∧ ∀ j v, cs[j]? = some v → w.cell? (ad.add j) = some v)
    (hfit : off + cs.length ≤ cur.length) (h1 : ∀ v ∈ cs, v.oneCell' = true) (B : Nat) (w0 : World) (hb : Below B w0 w) (hBg : B ≤ g)
    (h : ∀ w', Hid (w'.heap[g]? = some (.cells (splice cur off cs).toArray t (0, 0))) → Hid (∀ k, k ≠ g → w'.heap[k]? = w.heap[k]?) → Below B w0 w' → wpList P ops Q rest (a.put o.dst (goInt (Nat.min sLen dLen))) w') :
    wpList P ops Q (o :: rest) a w := by
  refine wpList_plain hgd fun K hK => ?_
  have hrun := run_copy_k (P := P) w dT sT o.type elem sz hz hu hsz dp sp dLen dCap sLen sCap g off cur t hg cs hn hpos hfit h1
  unfold Oper.wp
  simp [execOp, ho, resolve, invoke, builtin, hd, hs, hrun, Result.andThen]
  refine hK _ _ ?_
  have := h (w.setRow g (splice cur off cs).toArray) (setRow_heap w g _ _ t _ hg) (fun k hk => setRow_other w g k _ hk) (below_setRow hb hBg _)
  exact this

theorem step_copy_k {P : Program} {ops : Array Oper} {o : Oper} {a : Act} {w : World} {K : Act → World → Prop} {Q : Exit → Act → World → Prop} {E : Prop} (hgd : o.guard = none) (d s : Operand) (dT sT : TypeId)
    (ho : o.op = .call { callee := .builtin .copy, args := #[d, s], argTypes := #[dT, sT] }) (elem : TypeId) (sz : Nat) (hz : 0 < sz) (hu : P.underlying dT = some (.slice elem)) (hsz : (P.info? elem).map (·.size) = some sz)
    (dp sp : Option Addr) (dLen dCap sLen sCap : Nat) (hd : a.eval d = .slice dp dLen dCap) (hs : a.eval s = .slice sp sLen sCap)
    (g off : Nat) (cur : List Value) (t : TypeId) (hg : w.heap[g]? = some (.cells cur.toArray t (0, 0))) (cs : List Value) (hn : cs.length = Nat.min sLen dLen * sz)
    (hpos : 0 < cs.length → dp = some ⟨g, off, none⟩ ∧ ∃ ad, sp = some ad ∧ ∀ j v, cs[j]? = some v → w.cell? (ad.add j) = some v)
    (hfit : off + cs.length ≤ cur.length) (h1 : ∀ v ∈ cs, v.oneCell' = true) (B : Nat) (w0 : World) (hb : Below B w0 w) (hBg : B ≤ g)
    (h : ∀ w', Hid (w'.heap[g]? = some (.cells (splice cur off cs).toArray t (0, 0))) → Hid (∀ k, k ≠ g → w'.heap[k]? = w.heap[k]?) → Below B w0 w' → K (a.put o.dst (goInt (Nat.min sLen dLen))) w') :
    if Region.wanted o (yielded ops a.tmps) = true then Oper.wp P o a w K Q else E := by
  have hw : Region.wanted o (yielded ops a.tmps) = true := by simp [Region.wanted, hgd]
  rw [if_pos hw]
  have hrun := run_copy_k (P := P) w dT sT o.type elem sz hz hu hsz dp sp dLen dCap sLen sCap g off cur t hg cs hn hpos hfit h1
  unfold Oper.wp
  simp [execOp, ho, resolve, invoke, builtin, hd, hs, hrun, Result.andThen]
  exact h (w.setRow g (splice cur off cs).toArray) (setRow_heap w g _ _ t _ hg) (fun k hk => setRow_other w g k _ hk) (below_setRow hb hBg _)

/-- 'clear(s)': the zero value's cells, over and over. -/
theorem run_clear_k {P : Program} (w : World) (t e ty : TypeId) (z : Value) (sz : Nat) (hu : P.underlying t = some (.slice e)) (hv : ∀ w, (zeroValue e).run P w = .ok z w)
    (ap : Option Addr) (n c : Nat) (g off : Nat) (cur : List Value) (ct : TypeId) (hg : w.heap[g]? = some (.cells cur.toArray ct (0, 0))) (hpos : 0 < n → ap = some ⟨g, off, none⟩)
    (hl : (Builtin.zeroCells z.cells n).toList.length = n * sz) (h1 : ∀ v ∈ (Builtin.zeroCells z.cells n).toList, v.oneCell' = true) (hfit : off + n * sz ≤ cur.length) :
    ∃ w', (Builtin.clear_ #[t] ty #[.slice ap n c]).run P w = .ok (.tuple #[]) w' ∧ w'.heap[g]? = some (.cells (if n = 0 then cur else splice cur off (Builtin.zeroCells z.cells n).toList).toArray ct (0, 0)) ∧ (∀ k, k ≠ g → w'.heap[k]? = w.heap[k]?) ∧ ∀ {B : Nat} {w0 : World}, Below B w0 w → B ≤ g → Below B w0 w' := by
  cases n with
  | zero =>
    refine ⟨w, ?_, by simpa using hg, fun _ _ => rfl, fun h _ => h⟩
    cases ap <;> simp [Builtin.clear_, run_underlying hu]
  | succ n =>
    obtain rfl := hpos (by omega)
    have hst := run_storeCells_at P g off ct (Builtin.zeroCells z.cells (n + 1)).toList 0 cur.toArray w hg (by rw [hl]; simpa using hfit) h1
    refine ⟨w.setRow g (splice cur off (Builtin.zeroCells z.cells (n + 1)).toList).toArray, ?_, ?_, fun k hk => setRow_other w g k _ hk, fun h h' => below_setRow h h' _⟩
    · simp only [Builtin.clear_]
      simp [run_underlying hu, hv, hst, splice]
    · simpa using setRow_heap w g _ (splice cur off (Builtin.zeroCells z.cells (n + 1)).toList).toArray ct _ hg
end Go.Proofs.YtcboojhabolcbaaGreatDoor.copyk
namespace Go.Proofs.YtcboojhabolcbaaGreatDoor.ents
open Go.RowKit rows

theorem bel_drewN {B n : Nat} {w w' : World} (h : Below B w w') : Below B w (w'.drewN n) := ⟨h.os, h.tape, h.output, h.size, h.block⟩

/-- An entry: its Index, its Name. -/
abbrev Ent := Int × ByteArray
abbrev entD : Ent := (0, ByteArray.empty)
/-- The entries as cells. -/
def cellsE : List Ent → List Value
  | [] => []
  | e :: es => .int .i64 e.1 :: .string e.2 :: cellsE es
theorem cellsE_length : ∀ es : List Ent, (cellsE es).length = es.length * 2
  | [] => rfl
  | _ :: es => by simp [cellsE, cellsE_length es]; omega
theorem cellsE_append : ∀ es fs : List Ent, cellsE (es ++ fs) = cellsE es ++ cellsE fs
  | [], _ => rfl
  | _ :: es, fs => by simp [cellsE, cellsE_append es fs]
theorem cellsE_at : ∀ (es : List Ent) (i : Nat), i < es.length → (cellsE es)[i * 2]? = some (.int .i64 (es.getD i entD).1) ∧ (cellsE es)[i * 2 + 1]? = some (.string (es.getD i entD).2)
  | [], _, h => by simp at h
  | e :: es, 0, _ => by simp [cellsE]
  | e :: es, i + 1, h => by
    have := cellsE_at es i (by simpa using h)
    rw [show (i + 1) * 2 = i * 2 + 1 + 1 by omega]
    simpa [cellsE] using this
theorem cellsE_one : ∀ es : List Ent, ∀ v ∈ cellsE es, v.oneCell' = true
  | [], v, h => by simp [cellsE] at h
  | e :: es, v, h => by
    simp only [cellsE, List.mem_cons] at h
    rcases h with rfl | rfl | h
    · rfl
    · rfl
    · exact cellsE_one es v h

/-- The value v is a slice whose entries are es. -/
def EntsAt (w : World) (v : Value) (es : List Ent) : Prop :=
  ∃ a cap, v = .slice a es.length cap ∧ es.length ≤ cap ∧ cap ≤ maxLen ∧ (a = none → cap = 0) ∧
    (0 < es.length → ∃ b off, a = some ⟨b, off, none⟩ ∧ b < w.heap.size ∧ ∀ i, i < es.length → w.cell? ⟨b, off + i * 2, none⟩ = some (.int .i64 (es.getD i entD).1) ∧ w.cell? ⟨b, off + i * 2 + 1, none⟩ = some (.string (es.getD i entD).2))

theorem entsAt_below {w w' : World} {v : Value} {es : List Ent} (h : EntsAt w v es) (hb : Below w.heap.size w w') : EntsAt w' v es := by
  obtain ⟨a, cap, rfl, h1, h2, h4, h3⟩ := h
  refine ⟨a, cap, rfl, h1, h2, h4, fun hp => ?_⟩
  obtain ⟨b, off, rfl, hlt, hc⟩ := h3 hp
  exact ⟨b, off, rfl, Nat.lt_of_lt_of_le hlt hb.size, fun i hi => ⟨(hb.cell (p := ⟨b, off + i * 2, none⟩) hlt).trans (hc i hi).1, (hb.cell (p := ⟨b, off + i * 2 + 1, none⟩) hlt).trans (hc i hi).2⟩⟩
theorem entsAt_drewN {w : World} {n : Nat} {v : Value} {es : List Ent} (h : EntsAt w v es) : EntsAt (w.drewN n) v es := h

/-- An entry as a value. -/
abbrev ev (e : Ent) : Value := .agg #[.int .i64 e.1, .string e.2]
end Go.Proofs.YtcboojhabolcbaaGreatDoor.ents
