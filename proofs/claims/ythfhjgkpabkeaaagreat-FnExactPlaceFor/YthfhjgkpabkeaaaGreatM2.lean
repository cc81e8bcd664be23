/-
  Lists of entries (a number and a text) in memory: what may be read of one (EntsAt); a row of the call's own (OwnE). How much a list of entries holds, as the laws reckon it. A region that draws its order, by an invariant of what has come up, of the frame and of the world: each operation that may come up keeps it, in whatever order; no branching. A region that draws its order, by facts: what is known of the slot of each operation that has come up, and of the world. A drawn region's operations, handed in by their numbers. A drawn region whose last operation waits for all others: by one fact a slot, each of which stays where the world only grows. A drawn region whose operations may be guarded, by one fact a slot, under a relation between worlds of one's own: each operation that comes up is wanted and keeps its fact, or is not wanted and its slot is empty. 'copy' and 'clear' on slices whose elements take more than one cell. What the program asks of a row, and a piece cut off one. What the program's ReadAt answers. A copy by make and copy: a block of its own that holds just these numbers.
-/
import Derived.Test.YthfhjgkpabkeaaaGreatM1
import Derived.Test.YthfhjgkpabkeaaaGreatProg
import Derived.Orders
import Derived.Deep.Quiet
import Derived.Below
import Derived.Tactics
import Derived.Laws.CopyOwn
import Derived.Deep.RegionLaw
import Derived.Deep.Cut
import Derived.Deep.CutRange
namespace Go.Proofs.YthfhjgkpabkeaaaGreat.ents
open Go.RowKit rows

theorem bel_drewN {B n : Nat} {w w' : World} (h : Below B w w') : Below B w (w'.drewN n) := ⟨h.os, h.tape, h.output, h.size, h.block⟩

/-- An entry: its Index, its Name. -/
abbrev Ent := Int × ByteArray
abbrev entD : Ent := (0, ByteArray.empty)
/-- The entries as cells. -/
def cellsE : List Ent → List Value
  | [] => []
  | e :: es => .int .i64 e.1 :: .string e.2 :: cellsE es
theorem cellsE_length : ∀ es : List Ent, (cellsE es).length = es.length * 2
  | [] => rfl
  | _ :: es => by simp [cellsE, cellsE_length es]; omega
theorem cellsE_append : ∀ es fs : List Ent, cellsE (es ++ fs) = cellsE es ++ cellsE fs
  | [], _ => rfl
  | _ :: es, fs => by simp [cellsE, cellsE_append es fs]
theorem cellsE_at : ∀ (es : List Ent) (i : Nat), i < es.length → (cellsE es)[i * 2]? = some (.int .i64 (es.getD i entD).1) ∧ (cellsE es)[i * 2 + 1]? = some (.string (es.getD i entD).2)
  | [], _, h => by simp at h
  | e :: es, 0, _ => by simp [cellsE]
  | e :: es, i + 1, h => by
    have := cellsE_at es i (by simpa using h)
    rw [show (i + 1) * 2 = i * 2 + 1 + 1 by omega]
    simpa [cellsE] using this
theorem cellsE_one : ∀ es : List Ent, ∀ v ∈ cellsE es, v.oneCell' = true
  | [], v, h => by simp [cellsE] at h
  | e :: es, v, h => by
    simp only [cellsE, List.mem_cons] at h
    rcases h with rfl | rfl | h
    · rfl
    · rfl
    · exact cellsE_one es v h

/-- The value v is a slice whose entries are es. -/
def EntsAt (w : World) (v : Value) (es : List Ent) : Prop :=
  ∃ a cap, v = .slice a es.length cap ∧ es.length ≤ cap ∧ cap ≤ maxLen ∧ (a = none → cap = 0) ∧
    (0 < es.length → ∃ b off, a = some ⟨b, off, none⟩ ∧ b < w.heap.size ∧ ∀ i, i < es.length → w.cell? ⟨b, off + i * 2, none⟩ = some (.int .i64 (es.getD i entD).1) ∧ w.cell? ⟨b, off + i * 2 + 1, none⟩ = some (.string (es.getD i entD).2))

theorem entsAt_below {w w' : World} {v : Value} {es : List Ent} (h : EntsAt w v es) (hb : Below w.heap.size w w') : EntsAt w' v es := by
  obtain ⟨a, cap, rfl, h1, h2, h4, h3⟩ := h
  refine ⟨a, cap, rfl, h1, h2, h4, fun hp => ?_⟩
  obtain ⟨b, off, rfl, hlt, hc⟩ := h3 hp
  exact ⟨b, off, rfl, Nat.lt_of_lt_of_le hlt hb.size, fun i hi => ⟨(hb.cell (p := ⟨b, off + i * 2, none⟩) hlt).trans (hc i hi).1, (hb.cell (p := ⟨b, off + i * 2 + 1, none⟩) hlt).trans (hc i hi).2⟩⟩
theorem entsAt_drewN {w : World} {n : Nat} {v : Value} {es : List Ent} (h : EntsAt w v es) : EntsAt (w.drewN n) v es := h

/-- An entry as a value. -/
abbrev ev (e : Ent) : Value := .agg #[.int .i64 e.1, .string e.2]
end Go.Proofs.YthfhjgkpabkeaaaGreat.ents
namespace Go.Proofs.YthfhjgkpabkeaaaGreat.ents
open Go.RowKit rows

/-- The bytes of all Names. -/
def namesLen : List Ent → Nat
  | [] => 0
  | e :: es => e.2.size + namesLen es
theorem namesLen_take_succ : ∀ {es : List Ent} {k : Nat}, k < es.length → namesLen (es.take (k + 1)) = namesLen (es.take k) + (es.getD k entD).2.size
  | [], _, h => by simp at h
  | e :: es, 0, _ => by simp [namesLen]
  | e :: es, k + 1, h => by
    have := namesLen_take_succ (es := es) (k := k) (by simpa using h)
    simp [namesLen] at this ⊢
    omega
theorem namesLen_take_le : ∀ (es : List Ent) (k : Nat), namesLen (es.take k) ≤ namesLen es
  | [], k => by simp [namesLen]
  | e :: es, 0 => by simp [namesLen]
  | e :: es, k + 1 => by
    have := namesLen_take_le es k
    simp [namesLen]
    omega
theorem size_le_names : ∀ {es : List Ent} {k : Nat}, k < es.length → (es.getD k entD).2.size ≤ namesLen es
  | [], _, h => by simp at h
  | e :: es, 0, _ => by simp [namesLen]
  | e :: es, k + 1, h => by
    have := size_le_names (es := es) (k := k) (by simpa using h)
    simp [namesLen] at this ⊢
    omega
/-- All Names are such as a machine bears. -/
def Borne (es : List Ent) : Prop := ∀ k, k < es.length → I64 (es.getD k entD).1 ∧ (es.getD k entD).2.size ≤ 9223372036854775807
/-- What is left when all is taken off; -1: it is too much. -/
def szE (es : List Ent) (left : Nat) : Int := if es.length + namesLen es ≤ left then (left : Int) - (es.length + namesLen es : Nat) else -1

end Go.Proofs.YthfhjgkpabkeaaaGreat.ents
namespace Go.Proofs.YthfhjgkpabkeaaaGreat.region
open Go

theorem count_set (l : Array Bool) (i : Nat) (h : l.getD i true = false) : (l.setIfInBounds i true).toList.count false + 1 = l.toList.count false := by
  have hi : i < l.size := by
    rcases Nat.lt_or_ge i l.size with h' | h'
    · exact h'
    · simp [Array.getD, Nat.not_lt.2 h'] at h
  have he : l.toList[i]'(by simpa using hi) = false := by
    simpa [Array.getD, hi] using h
  rw [Array.toList_setIfInBounds, List.count_set (by simpa using hi)]
  have hc : 0 < l.toList.count false := List.count_pos_iff.2 (by rw [← he]; exact List.getElem_mem _)
  simp [he]
  have hc' : 0 < l.count false := by simpa using hc
  omega

theorem wpAny_inv {P : Program} {md : Region.Mode} {ops : Array Oper} {Q : Exit → Act → World → Prop} (I : Array Bool → Act → World → Prop)
    (fin : ∀ l a w, I l a w → Region.ready md ops l = [] → Q .normal a w)
    (stp : ∀ l a w i, I l a w → i ∈ Region.ready md ops l → wpOp P ops Q i (I (l.setIfInBounds i true)) a w) :
    ∀ (fuel : Nat) (l : Array Bool) (a : Act) (w : World), l.toList.count false ≤ fuel → I l a w → wpAny P md ops Q fuel l a w
  | 0, l, a, w, hc, h => by
    have e : Region.ready md ops l = [] := by
      rw [List.eq_nil_iff_forall_not_mem]
      intro i hi
      have := count_set l i (mem_ready.1 hi).1
      omega
    exact ⟨e, fin l a w h e⟩
  | fuel + 1, l, a, w, hc, h => by
    refine ⟨fun e => fin l a w h e, fun i hi => wpOp_mono (fun a' w' h' => ?_) (stp l a w i h hi)⟩
    have := count_set l i (mem_ready.1 hi).1
    exact wpAny_inv I fin stp fuel _ a' w' (by omega) h'

theorem wp_region_inv {P : Program} {id : Nat} {ops : Array Oper} {Q : Exit → Act → World → Prop} {a : Act} {w : World} (hm : P.follows .mixedOrders = true) (I : Array Bool → Act → World → Prop)
    (start : I (Array.replicate ops.size false) a w.drew)
    (fin : ∀ l a w, I l a w → Region.ready .any ops l = [] → Q .normal a w)
    (stp : ∀ l a w i, I l a w → i ∈ Region.ready .any ops l → wpOp P ops Q i (I (l.setIfInBounds i true)) a w) : (Code.region id ops true).wp P Q a w :=
  wp_region_any hm (wpAny_inv I fin stp _ _ _ _ (by simp) start)
end Go.Proofs.YthfhjgkpabkeaaaGreat.region
namespace Go.Proofs.YthfhjgkpabkeaaaGreat.region
open Go

/-- The frame a0 with other values in the slots of D. -/
def ovr (D : Nat → Bool) (a0 : Act) (u : Nat → Value) : Act := { a0 with tmps := ((List.range a0.tmps.size).map fun s => if D s then u s else a0.tmps.getD s undef).toArray }
def upd (u : Nat → Value) (d : Nat) (v : Value) : Nat → Value := fun s => if s = d then v else u s

theorem getD_at (t : Array Value) (s : Nat) : t.getD s undef = t[s]?.getD undef := by
  rw [Array.getD_eq_getD_getElem?]
theorem ovr_at (D : Nat → Bool) (a0 : Act) (u : Nat → Value) (s : Nat) (hs : s < a0.tmps.size) : (ovr D a0 u).tmps[s]? = some (if D s then u s else a0.tmps.getD s undef) := by
  simp [ovr, hs]
theorem ovr_size (D : Nat → Bool) (a0 : Act) (u : Nat → Value) : (ovr D a0 u).tmps.size = a0.tmps.size := by simp [ovr]
theorem ovr_self (D : Nat → Bool) (a0 : Act) : ovr D a0 (fun s => a0.tmps.getD s undef) = a0 := by
  cases a0 with
  | mk tmps defers =>
    unfold ovr
    congr 1
    apply Array.ext_getElem?
    intro s
    rcases Nat.lt_or_ge s tmps.size with h | h
    · simp [h]
    · simp [h]
theorem ovr_put {D : Nat → Bool} {a0 : Act} {u : Nat → Value} {d : Nat} {v : Value} (hd : D d = true) : (ovr D a0 u).put (some d) v = ovr D a0 (upd u d v) := by
  have e : ((ovr D a0 u).put (some d) v).tmps = (ovr D a0 (upd u d v)).tmps := by
    show (ovr D a0 u).tmps.setIfInBounds d v = _
    apply Array.ext_getElem?
    intro s
    rcases Nat.lt_or_ge s a0.tmps.size with h | h
    · rw [ovr_at D a0 _ s h, Array.getElem?_setIfInBounds]
      by_cases hs : d = s
      · subst hs
        rw [if_pos rfl, ovr_size, if_pos h, if_pos hd]
        simp [upd]
      · rw [if_neg hs, ovr_at D a0 _ s h]
        have : ¬ s = d := fun e => hs e.symm
        simp [upd, this]
    · rw [Array.getElem?_eq_none (by simpa [ovr_size] using h), Array.getElem?_eq_none (by simpa [ovr_size] using h)]
  have e' : ((ovr D a0 u).put (some d) v).defers = (ovr D a0 (upd u d v)).defers := rfl
  cases h1 : (ovr D a0 u).put (some d) v
  cases h2 : ovr D a0 (upd u d v)
  rw [h1, h2] at e e'
  simp only at e e'
  rw [e, e']

theorem all_listed {ops : Array Oper} {l : Array Bool} (hacyc : ∀ (k : Nat) (o : Oper), ops[k]? = some o → ∀ e ∈ o.after, e.on < k) (hl : l.size = ops.size) (h : Region.ready .any ops l = []) : ∀ k, k < ops.size → l.getD k false = true := by
  intro k
  induction k using Nat.strongRecOn with
  | ind k ih =>
    intro hk
    have hl' : k < l.size := by omega
    cases hv : l.getD k false with
    | true => rfl
    | false =>
      have h1 : l.getD k true = false := by
        simp only [Array.getD, hl', dite_true] at hv ⊢
        exact hv
      have : k ∈ Region.ready .any ops l := mem_ready.2 ⟨h1, ops[k], Array.getElem?_eq_getElem hk, fun e he _ => ih e.on (hacyc k _ (Array.getElem?_eq_getElem hk) e he) (by have := hacyc k _ (Array.getElem?_eq_getElem hk) e he; omega)⟩
      rw [h] at this
      cases this

theorem wp_region_facts {P : Program} {id : Nat} {ops : Array Oper} {Q : Exit → Act → World → Prop} {a0 : Act} {w : World} (hm : P.follows .mixedOrders = true) (D : Nat → Bool)
    (hg : ∀ o ∈ ops, o.guard = none) (hacyc : ∀ (k : Nat) (o : Oper), ops[k]? = some o → ∀ e ∈ o.after, e.on < k)
    (I : Array Bool → (Nat → Value) → World → Prop)
    (start : I (Array.replicate ops.size false) (fun s => a0.tmps.getD s undef) w.drew)
    (fin : ∀ l u w, I l u w → (∀ k, k < ops.size → l.getD k false = true) → Q .normal (ovr D a0 u) w)
    (stp : ∀ l u w k o, I l u w → l.size = ops.size → l.getD k false = false → ops[k]? = some o → (∀ e ∈ o.after, Region.binds .any e = true → l.getD e.on false = true) →
      o.wp P (ovr D a0 u) w (fun a' w' => ∃ u', a' = ovr D a0 u' ∧ I (l.setIfInBounds k true) u' w') Q) : (Code.region id ops true).wp P Q a0 w := by
  refine wp_region_inv hm (fun l a w => l.size = ops.size ∧ ∃ u, a = ovr D a0 u ∧ I l u w) ⟨by simp, _, (ovr_self D a0).symm, start⟩ ?_ ?_
  · rintro l a w ⟨hl, u, rfl, h⟩ hr
    exact fin l u w h (all_listed hacyc hl hr)
  · rintro l a w i ⟨hl, u, rfl, h⟩ hi
    obtain ⟨h1, o, ho, hd⟩ := mem_ready.1 hi
    have hi' : i < ops.size := (Array.getElem?_eq_some_iff.1 ho).1
    have h1' : l.getD i false = false := by
      have hl' : i < l.size := by omega
      simp only [Array.getD, hl', dite_true] at h1 ⊢
      exact h1
    have hgo := hg o (Array.mem_of_getElem? ho)
    unfold wpOp
    rw [ho]
    simp only
    rw [if_pos (by simp [Region.wanted, hgo])]
    refine .inl (Oper.wp_mono (fun a' w' h' => ?_) (stp l u w i o h hl h1' ho hd))
    obtain ⟨u', e, h'⟩ := h'
    exact ⟨by simpa using hl, u', e, h'⟩

theorem getD_other (l : Array Bool) {k j : Nat} (h : ¬ k = j) : (l.setIfInBounds k true).getD j false = l.getD j false := by
  rw [Array.getD_eq_getD_getElem?, Array.getElem?_setIfInBounds, if_neg h, Array.getD_eq_getD_getElem?]

/-- What is known of the slots stays known where one more is known. -/
theorem facts_put {n : Nat} {F : Nat → Value → World → Prop} {dst : Nat → Nat} {l : Array Bool} {u : Nat → Value} {w w' : World} {k : Nat} {v : Value} (hi : ∀ j, j < n → dst j = dst k → j = k)
    (H : ∀ j, j < n → l.getD j false = true → F j (u (dst j)) w) (hs : ∀ j, j < n → j ≠ k → l.getD j false = true → ∀ t, F j t w → F j t w') (hv : F k v w') :
    ∀ j, j < n → (l.setIfInBounds k true).getD j false = true → F j (upd u (dst k) v (dst j)) w' := by
  intro j hj hlj
  by_cases e : j = k
  · subst e
    simp only [upd, if_true]
    exact hv
  · have : ¬ dst j = dst k := fun e' => e (hi j hj e')
    simp only [upd, this, if_false]
    have hlj' : l.getD j false = true := by rwa [getD_other l (Ne.symm e)] at hlj
    exact hs j hj e hlj' _ (H j hj hlj')
theorem listed_put {l : Array Bool} {k j : Nat} (hl : k < l.size) (h : (l.setIfInBounds k true).getD j false = false) : l.getD j false = false := by
  by_cases e : k = j
  · subst e
    simp [Array.getD, hl] at h
  · rwa [getD_other l e] at h
theorem listed_ne {l : Array Bool} {k : Nat} (hk : k < l.size) : (l.setIfInBounds k true).getD k false = true := by
  simp [Array.getD, hk]
end Go.Proofs.YthfhjgkpabkeaaaGreat.region
namespace Go.Proofs.YthfhjgkpabkeaaaGreat.region
open Go

/-- The operation k of a region: its slot, what it is, what it waits for. -/
def Has (ops : Array Oper) (k : Nat) (d : Option Nat) (op : Op) (deps : List Nat) : Prop := ∃ o, ops[k]? = some o ∧ o.dst = d ∧ o.op = op ∧ ∀ j ∈ deps, ∃ e ∈ o.after, e.on = j ∧ Region.binds .any e = true
theorem has_at {ops : Array Oper} {k : Nat} {d : Option Nat} {op : Op} {deps : List Nat} (h : Has ops k d op deps) {o : Oper} (ho : ops[k]? = some o) {l : Array Bool} (hd : ∀ e ∈ o.after, Region.binds .any e = true → l.getD e.on false = true) : o.dst = d ∧ o.op = op ∧ ∀ j ∈ deps, l.getD j false = true := by
  obtain ⟨o', ho', h1, h2, h3⟩ := h
  rw [ho] at ho'
  injection ho' with ho'
  subst ho'
  refine ⟨h1, h2, fun j hj => ?_⟩
  obtain ⟨e, he, rfl, hb⟩ := h3 j hj
  exact hd e he hb
theorem wp_value {P : Program} {o : Oper} {a : Act} {w w' : World} {K : Act → World → Prop} {Q : Exit → Act → World → Prop} {v : Value} (h : (execOp a.eval o).run P w = .ok (.value v) w') (hk : K (a.put o.dst v) w') : o.wp P a w K Q := by
  unfold Oper.wp
  rw [h]
  exact hk
theorem wp_call {P : Program} {o : Oper} {a : Act} {w : World} {K : Act → World → Prop} {Q : Exit → Act → World → Prop} {f : FuncId} {args : Array Value} (h : (execOp a.eval o).run P w = .ok (.enter f args) w) (hk : Calls P f args w fun e w' => ∃ v, e = .returned v ∧ K (a.put o.dst v) w') : o.wp P a w K Q := by
  unfold Oper.wp
  rw [h, Oper.upon_enter]
  refine hk.mono ?_
  rintro e w' ⟨v, rfl, h⟩
  exact h
theorem eval_in {D : Nat → Bool} {a0 : Act} {u : Nat → Value} {s : Nat} (hd : D s = true) (hs : s < a0.tmps.size) : (ovr D a0 u).eval (.tmp s) = u s := by
  show (ovr D a0 u).tmps.getD s undef = _
  rw [getD_at, ovr_at D a0 u s hs, hd]
  rfl
theorem eval_out {D : Nat → Bool} {a0 : Act} {u : Nat → Value} {s : Nat} (hd : D s = false) (hs : s < a0.tmps.size) : (ovr D a0 u).eval (.tmp s) = a0.tmps.getD s undef := by
  show (ovr D a0 u).tmps.getD s undef = _
  rw [getD_at, ovr_at D a0 u s hs, hd]
  rfl
theorem put_in {D : Nat → Bool} {a0 : Act} {o : Oper} {d : Nat} (ho : o.dst = some d) (hd : D d = true) (u : Nat → Value) (v : Value) : (ovr D a0 u).put o.dst v = ovr D a0 (upd u d v) := by
  rw [ho]
  exact ovr_put hd
theorem put_no {D : Nat → Bool} {a0 : Act} {o : Oper} (ho : o.dst = none) (u : Nat → Value) (v : Value) : (ovr D a0 u).put o.dst v = ovr D a0 u := by
  rw [ho]
  rfl
end Go.Proofs.YthfhjgkpabkeaaaGreat.region
namespace Go.Proofs.YthfhjgkpabkeaaaGreat.region
open Go Go.RowKit

theorem wp_region_plain {P : Program} {id : Nat} {ops : Array Oper} {Q : Exit → Act → World → Prop} {a0 : Act} {w : World} (hm : P.follows .mixedOrders = true) (D : Nat → Bool)
    (hg : ∀ o ∈ ops, o.guard = none) (hacyc : ∀ (k : Nat) (o : Oper), ops[k]? = some o → ∀ e ∈ o.after, e.on < k) (n : Nat) (hn : ops.size = n + 1) (dst : Nat → Nat) (hinj : ∀ k, k < n → ∀ j, j < n → dst j = dst k → j = k)
    (F : Nat → Value → World → Prop) (hst : ∀ k t W W', Below W.heap.size W W' → F k t W → F k t W')
    (hall : ∀ o, ops[n]? = some o → ∀ j, j < n → ∃ e ∈ o.after, e.on = j ∧ Region.binds .any e = true)
    (step : ∀ k o u W, k < n → ops[k]? = some o → Below w.heap.size w W → (∀ j, j < n → (∃ e ∈ o.after, e.on = j ∧ Region.binds .any e = true) → F j (u (dst j)) W) → o.wp P (ovr D a0 u) W (fun a' W' => ∃ v, a' = ovr D a0 (upd u (dst k) v) ∧ Below W.heap.size W W' ∧ F k v W') Q)
    (last : ∀ o u W, ops[n]? = some o → Below w.heap.size w W → (∀ j, j < n → F j (u (dst j)) W) → o.wp P (ovr D a0 u) W (fun a' W' => ∃ u', a' = ovr D a0 u' ∧ Q .normal (ovr D a0 u') W') Q) :
    (Code.region id ops true).wp P Q a0 w := by
  refine wp_region_facts hm D hg hacyc (fun l u W => (l.getD n false = false ∧ Below w.heap.size w W ∧ ∀ k, k < n → l.getD k false = true → F k (u (dst k)) W) ∨ ((∀ k, k < n + 1 → l.getD k false = true) ∧ Q .normal (ovr D a0 u) W)) (.inl ⟨?_, (Below.refl _ w).drew, fun k hk h => ?_⟩) ?_ ?_
  · simp [Array.getD, hn]
  · simp [Array.getD, hn, show k < n + 1 by omega] at h
  · rintro l u W (⟨h1, _⟩ | ⟨_, h⟩) hA
    · rw [hA n (by omega)] at h1
      cases h1
    · exact h
  · rintro l u W k o (⟨h1, hB, hF⟩ | ⟨hA, _⟩) hl hlk ho hd
    case inr =>
      have hk : k < n + 1 := by rw [← hn]; exact (Array.getElem?_eq_some_iff.1 ho).1
      rw [hA k hk] at hlk
      cases hlk
    have hk : k < n + 1 := by rw [← hn]; exact (Array.getElem?_eq_some_iff.1 ho).1
    by_cases e : k = n
    · subst e
      have hA : ∀ j, j < k → l.getD j false = true := fun j hj => by
        obtain ⟨e, he, rfl, hb⟩ := hall o ho j hj
        exact hd e he hb
      refine Oper.wp_mono ?_ (last o u W ho hB (fun j hj => hF j hj (hA j hj)))
      rintro a' W' ⟨u', rfl, h⟩
      refine ⟨u', rfl, .inr ⟨fun j hj => ?_, h⟩⟩
      by_cases e : j = k
      · subst e; exact listed_ne (by omega)
      · rw [getD_other l (Ne.symm e)]; exact hA j (by omega)
    · have hk' : k < n := by omega
      refine Oper.wp_mono ?_ (step k o u W hk' ho hB (fun j hj ⟨e, he, e1, hb⟩ => hF j hj (by rw [← e1]; exact hd e he hb)))
      rintro a' W' ⟨v, rfl, hb, hv⟩
      refine ⟨_, rfl, .inl ⟨?_, hB.trans (hb.mono hB.size), ?_⟩⟩
      · rw [getD_other l e]; exact h1
      · exact facts_put (dst := dst) (hinj k hk') hF (fun j _ _ _ t => hst j t W W' hb) hv
/-- The operation k as it is handed in. -/
theorem has_plain {ops : Array Oper} {k : Nat} {d : Option Nat} {op : Op} {deps : List Nat} (h : Has ops k d op deps) {o : Oper} (ho : ops[k]? = some o) : o.dst = d ∧ o.op = op ∧ ∀ j ∈ deps, ∃ e ∈ o.after, e.on = j ∧ Region.binds .any e = true := by
  obtain ⟨o', ho', h1, h2, h3⟩ := h
  rw [ho] at ho'
  injection ho' with ho'
  subst ho'
  exact ⟨h1, h2, h3⟩
theorem wp_skip' {P : Program} {o : Oper} {a : Act} {w w' : World} {K : Act → World → Prop} {Q : Exit → Act → World → Prop} (h : (execOp a.eval o).run P w = .ok .skip w') (hk : K (a.put o.dst undef) w') : o.wp P a w K Q := by
  unfold Oper.wp
  rw [h]
  exact hk
end Go.Proofs.YthfhjgkpabkeaaaGreat.region
namespace Go.Proofs.YthfhjgkpabkeaaaGreat.region
open Go Go.RowKit

theorem wp_region_guarded {P : Program} {id : Nat} {ops : Array Oper} {Q : Exit → Act → World → Prop} {a0 : Act} {w : World} (hm : P.follows .mixedOrders = true) (D : Nat → Bool) (R : World → World → Prop) (Rtr : ∀ a b c, R a b → R b c → R a c) (Rdr : R w w.drew)
    (hacyc : ∀ (k : Nat) (o : Oper), ops[k]? = some o → ∀ e ∈ o.after, e.on < k) (n : Nat) (hn : ops.size = n) (dst : Nat → Nat) (hinj : ∀ k, k < n → ∀ j, j < n → dst j = dst k → j = k)
    (F : Nat → Value → World → Prop) (hst : ∀ k t W W', R W W' → F k t W → F k t W')
    (step : ∀ k o u W, k < n → ops[k]? = some o → R w W → (∀ j, j < n → (∃ e ∈ o.after, e.on = j ∧ Region.binds .any e = true) → F j (u (dst j)) W) →
      (Region.wanted o (yielded ops (ovr D a0 u).tmps) = true ∧ o.wp P (ovr D a0 u) W (fun a' W' => ∃ v, a' = ovr D a0 (upd u (dst k) v) ∧ R W W' ∧ F k v W') Q) ∨
      (Region.wanted o (yielded ops (ovr D a0 u).tmps) = false ∧ o.dst = some (dst k) ∧ D (dst k) = true ∧ F k undef W))
    (fin : ∀ u W, R w W → (∀ j, j < n → F j (u (dst j)) W) → Q .normal (ovr D a0 u) W) :
    (Code.region id ops true).wp P Q a0 w := by
  refine wp_region_inv hm (fun l a W => l.size = ops.size ∧ ∃ u, a = ovr D a0 u ∧ R w W ∧ ∀ k, k < n → l.getD k false = true → F k (u (dst k)) W) ⟨by simp, _, (ovr_self D a0).symm, Rdr, fun k hk h => ?_⟩ ?_ ?_
  · simp [Array.getD, hn, hk] at h
  · rintro l a W ⟨hl, u, rfl, hB, hF⟩ hr
    have hA := all_listed hacyc hl hr
    exact fin u W hB fun j hj => hF j hj (hA j (by omega))
  · rintro l a W i ⟨hl, u, rfl, hB, hF⟩ hi
    obtain ⟨h1, o, ho, hd⟩ := mem_ready.1 hi
    have hi' : i < n := by rw [← hn]; exact (Array.getElem?_eq_some_iff.1 ho).1
    unfold wpOp
    rw [ho]
    simp only
    rcases step i o u W hi' ho hB (fun j hj ⟨e, he, e1, hb⟩ => hF j hj (by rw [← e1]; exact hd e he hb)) with ⟨hw, h⟩ | ⟨hw, hds, hD, h⟩
    · rw [if_pos hw]
      refine .inl (Oper.wp_mono (fun a' W' h' => ?_) h)
      obtain ⟨v, rfl, hR, hv⟩ := h'
      exact ⟨by simpa using hl, _, rfl, Rtr _ _ _ hB hR, facts_put (dst := dst) (hinj i hi') hF (fun j _ _ _ t => hst j t W W' hR) hv⟩
    · rw [if_neg (by rw [hw]; simp)]
      refine ⟨by simpa using hl, upd u (dst i) undef, ?_, hB, facts_put (dst := dst) (hinj i hi') hF (fun j _ _ _ t ht => ht) h⟩
      rw [hds]
      exact ovr_put hD
/-- An operation with no guard is wanted. -/
theorem wanted_none {ops : Array Oper} {o : Oper} {t : Array Value} (h : o.guard = none) : Region.wanted o (yielded ops t) = true := by simp [Region.wanted, h]
/-- A guarded one is wanted where the slot of its guard holds what it asks for. -/
theorem wanted_some {ops : Array Oper} {o og : Oper} {D : Nat → Bool} {a0 : Act} {u : Nat → Value} {g d : Nat} {b c : Bool} (h : o.guard = some (g, b)) (hg : ops[g]? = some og) (hd : og.dst = some d) (hD : D d = true) (hs : d < a0.tmps.size) (hu : u d = .bool c) : Region.wanted o (yielded ops (ovr D a0 u).tmps) = (c == b) := by
  have hy : yielded ops (ovr D a0 u).tmps g = some c := by
    unfold yielded
    rw [hg]
    simp only [Option.bind_some, hd]
    rw [ovr_at D a0 u d hs, hD, if_pos rfl, hu]
  simp only [Region.wanted, h, hy]
  cases b <;> cases c <;> rfl
/-- .. and is not, where the guard itself was not. -/
theorem wanted_undef {ops : Array Oper} {o og : Oper} {D : Nat → Bool} {a0 : Act} {u : Nat → Value} {g d : Nat} {b : Bool} (h : o.guard = some (g, b)) (hg : ops[g]? = some og) (hd : og.dst = some d) (hD : D d = true) (hs : d < a0.tmps.size) (hu : u d = undef) : Region.wanted o (yielded ops (ovr D a0 u).tmps) = false := by
  have hy : yielded ops (ovr D a0 u).tmps g = none := by
    unfold yielded
    rw [hg]
    simp only [Option.bind_some, hd]
    rw [ovr_at D a0 u d hs, hD, if_pos rfl, hu]
    rfl
  simp only [Region.wanted, h, hy]
  cases b <;> rfl

/-- The same of a region that is run in the order of its text. -/
theorem wp_region_seq {P : Program} {id : Nat} {ops : Array Oper} {Q : Exit → Act → World → Prop} {a0 : Act} {w : World} (D : Nat → Bool) (R : World → World → Prop) (Rtr : ∀ a b c, R a b → R b c → R a c) (Rrf : R w w)
    (n : Nat) (hn : ops.size = n) (dst : Nat → Nat) (hinj : ∀ k, k < n → ∀ j, j < n → dst j = dst k → j = k)
    (F : Nat → Value → World → Prop) (hst : ∀ k t W W', R W W' → F k t W → F k t W')
    (step : ∀ k o u W, k < n → ops[k]? = some o → R w W → (∀ j, j < k → F j (u (dst j)) W) →
      (Region.wanted o (yielded ops (ovr D a0 u).tmps) = true ∧ o.wp P (ovr D a0 u) W (fun a' W' => ∃ v, a' = ovr D a0 (upd u (dst k) v) ∧ R W W' ∧ F k v W') Q) ∨
      (Region.wanted o (yielded ops (ovr D a0 u).tmps) = false ∧ o.dst = some (dst k) ∧ D (dst k) = true ∧ F k undef W))
    (fin : ∀ u W, R w W → (∀ j, j < n → F j (u (dst j)) W) → Q .normal (ovr D a0 u) W) :
    (Code.region id ops false).wp P Q a0 w := by
  have put : ∀ (k : Nat) (u : Nat → Value) (v : Value) (W W' : World), k < n → (∀ j, j < k → F j (u (dst j)) W) → (∀ j t, F j t W → F j t W') → F k v W' → ∀ j, j < k + 1 → F j (upd u (dst k) v (dst j)) W' := by
    intro k u v W W' hk hF hs hv j hj
    by_cases e : j = k
    · subst e
      simp only [upd, if_true]
      exact hv
    · have : ¬ dst j = dst k := fun e' => e (hinj k hk j (by omega) e')
      simp only [upd, this, if_false]
      exact hs j _ (hF j (by omega))
  have main : ∀ (l : List Oper) (k : Nat) (u : Nat → Value) (W : World), ops.toList.drop k = l → k ≤ n → R w W → (∀ j, j < k → F j (u (dst j)) W) → wpList P ops Q l (ovr D a0 u) W := by
    intro l
    induction l with
    | nil =>
      intro k u W hl hk hR hF
      have : n ≤ k := by
        have := congrArg List.length hl
        simp at this
        omega
      exact fin u W hR fun j hj => hF j (by omega)
    | cons o l ih =>
      intro k u W hl hk hR hF
      have hk' : k < n := by
        have := congrArg List.length hl
        simp at this
        omega
      have ho : ops[k]? = some o := by
        have h0 := congrArg (fun l => l[0]?) hl
        simpa using h0
      have hl' : ops.toList.drop (k + 1) = l := by
        have h0 := congrArg List.tail hl
        simpa using h0
      rcases step k o u W hk' ho hR hF with ⟨hw, h⟩ | ⟨hw, hds, hD, h⟩
      · show if _ then _ else _
        rw [if_pos hw]
        refine .inl (Oper.wp_mono (fun a' W' h' => ?_) h)
        obtain ⟨v, rfl, hR', hv⟩ := h'
        exact ih (k + 1) _ W' hl' hk' (Rtr _ _ _ hR hR') (put k u v W W' hk' hF (fun j t => hst j t W W' hR') hv)
      · show if _ then _ else _
        rw [if_neg (by rw [hw]; simp), hds, ovr_put hD]
        exact ih (k + 1) _ W hl' hk' hR (put k u undef W W hk' hF (fun _ _ h => h) h)
  refine wp_region_list ?_
  have := main ops.toList 0 (fun s => a0.tmps.getD s undef) w (by simp) (Nat.zero_le _) Rrf (fun j hj => by omega)
  rwa [ovr_self] at this
end Go.Proofs.YthfhjgkpabkeaaaGreat.region
namespace Go.Proofs.YthfhjgkpabkeaaaGreat.copyk
open Go.RowKit

theorem run_copy_k {P : Program} (w : World) (dT sT ty elem : TypeId) (sz : Nat) (hz : 0 < sz) (hu : P.underlying dT = some (.slice elem)) (hs : (P.info? elem).map (·.size) = some sz)
    (dp sp : Option Addr) (dLen dCap sLen sCap : Nat) (g off : Nat) (cur : List Value) (t : TypeId) (hg : w.heap[g]? = some (.cells cur.toArray t (0, 0))) (cs : List Value) (hn : cs.length = Nat.min sLen dLen * sz)
    (hpos : 0 < cs.length → dp = some ⟨g, off, none⟩ ∧ ∃ ad, sp = some ad ∧ ∀ j v, cs[j]? = some v → w.cell? (ad.add j) = some v)
    (hfit : off + cs.length ≤ cur.length) (h1 : ∀ v ∈ cs, v.oneCell' = true) :
    (Builtin.copy_ #[dT, sT] ty #[.slice dp dLen dCap, .slice sp sLen sCap]).run P w = .ok (goInt (Nat.min sLen dLen)) (w.setRow g (splice cur off cs).toArray) := by
  cases hq : P.info? elem with
  | none => simp [hq] at hs
  | some i =>
    have hi : i.size = sz := by simpa [hq] using hs
    by_cases h0 : cs.length = 0
    · obtain rfl : cs = [] := List.eq_nil_of_length_eq_zero h0
      have hm : Nat.min sLen dLen = 0 := by
        rcases Nat.mul_eq_zero.1 hn.symm with h | h
        · exact h
        · omega
      have e : w.setRow g (splice cur off []).toArray = w := by
        have := setRow_self w g cur.toArray t (0, 0) hg
        simpa [splice] using this
      rw [e, hm]
      have hl : ∀ (x : Addr), (loadCells x 0).run P w = .ok #[] w := fun x => by simpa using run_loadCells_list (P := P) w x [] (by simp)
      cases dp <;> cases sp <;> simp [Builtin.copy_, run_underlying hu, Builtin.lenOf, Builtin.firstCells, sizeOf, typeInfo, hq, hm, storeCells, hl]
    · obtain ⟨rfl, ad, rfl, hsrc⟩ := hpos (by omega)
      have hl := run_loadCells_list (P := P) w ad cs hsrc
      have hst := run_storeCells_at P g off t cs 0 cur.toArray w hg (by simpa using hfit) h1
      rw [hn] at hl
      simp [Builtin.copy_, run_underlying hu, Builtin.lenOf, Builtin.firstCells, sizeOf, typeInfo, hq, hi, hl, hst, splice]

theorem setRow_below {B g : Nat} {w0 w : World} (hb : Below B w0 w) (hBg : B ≤ g) (cs : Array Value) : Below B w0 (w.setRow g cs) := below_setRow hb hBg cs

theorem wpList_copy_k {P : Program} {w : World} {ops : Array Oper} {rest : List Oper} {o : Oper} {a : Act} {Q : Exit → Act → World → Prop} (hgd : o.guard = none) (d s : Operand) (dT sT : TypeId)
    (ho : o.op = .call { callee := .builtin .copy, args := #[d, s], argTypes := #[dT, sT] }) (elem : TypeId) (sz : Nat) (hz : 0 < sz) (hu : P.underlying dT = some (.slice elem)) (hsz : (P.info? elem).map (·.size) = some sz)
    (dp sp : Option Addr) (dLen dCap sLen sCap : Nat) (hd : a.eval d = .slice dp dLen dCap) (hs : a.eval s = .slice sp sLen sCap)
    (g off : Nat) (cur : List Value) (t : TypeId) (hg : w.heap[g]? = some (.cells cur.toArray t (0, 0))) (cs : List Value) (hn : cs.length = Nat.min sLen dLen * sz)
    (hpos : 0 < cs.length → dp = some ⟨g, off, none⟩ ∧ ∃ ad, sp = some ad ∧ ∀ j v, cs[j]? = some v → w.cell? (ad.add j) = some v)
    (hfit : off + cs.length ≤ cur.length) (h1 : ∀ v ∈ cs, v.oneCell' = true) (B : Nat) (w0 : World) (hb : Below B w0 w) (hBg : B ≤ g)
    (h : ∀ w', Hid (w'.heap[g]? = some (.cells (splice cur off cs).toArray t (0, 0))) → Hid (∀ k, k ≠ g → w'.heap[k]? = w.heap[k]?) → Below B w0 w' → wpList P ops Q rest (a.put o.dst (goInt (Nat.min sLen dLen))) w') :
    wpList P ops Q (o :: rest) a w := by
  refine wpList_plain hgd fun K hK => ?_
  have hrun := run_copy_k (P := P) w dT sT o.type elem sz hz hu hsz dp sp dLen dCap sLen sCap g off cur t hg cs hn hpos hfit h1
  unfold Oper.wp
  simp [execOp, ho, resolve, invoke, builtin, hd, hs, hrun, Result.andThen]
  refine hK _ _ ?_
  have := h (w.setRow g (splice cur off cs).toArray) (setRow_heap w g _ _ t _ hg) (fun k hk => setRow_other w g k _ hk) (below_setRow hb hBg _)
  exact this

theorem step_copy_k {P : Program} {ops : Array Oper} {o : Oper} {a : Act} {w : World} {K : Act → World → Prop} {Q : Exit → Act → World → Prop} {E : Prop} (hgd : o.guard = none) (d s : Operand) (dT sT : TypeId)
    (ho : o.op = .call { callee := .builtin .copy, args := #[d, s], argTypes := #[dT, sT] }) (elem : TypeId) (sz : Nat) (hz : 0 < sz) (hu : P.underlying dT = some (.slice elem)) (hsz : (P.info? elem).map (·.size) = some sz)
    (dp sp : Option Addr) (dLen dCap sLen sCap : Nat) (hd : a.eval d = .slice dp dLen dCap) (hs : a.eval s = .slice sp sLen sCap)
    (g off : Nat) (cur : List Value) (t : TypeId) (hg : w.heap[g]? = some (.cells cur.toArray t (0, 0))) (cs : List Value) (hn : cs.length = Nat.min sLen dLen * sz)
    (hpos : 0 < cs.length → dp = some ⟨g, off, none⟩ ∧ ∃ ad, sp = some ad ∧ ∀ j v, cs[j]? = some v → w.cell? (ad.add j) = some v)
    (hfit : off + cs.length ≤ cur.length) (h1 : ∀ v ∈ cs, v.oneCell' = true) (B : Nat) (w0 : World) (hb : Below B w0 w) (hBg : B ≤ g)
    (h : ∀ w', Hid (w'.heap[g]? = some (.cells (splice cur off cs).toArray t (0, 0))) → Hid (∀ k, k ≠ g → w'.heap[k]? = w.heap[k]?) → Below B w0 w' → K (a.put o.dst (goInt (Nat.min sLen dLen))) w') :
    if Region.wanted o (yielded ops a.tmps) = true then Oper.wp P o a w K Q else E := by
  have hw : Region.wanted o (yielded ops a.tmps) = true := by simp [Region.wanted, hgd]
  rw [if_pos hw]
  have hrun := run_copy_k (P := P) w dT sT o.type elem sz hz hu hsz dp sp dLen dCap sLen sCap g off cur t hg cs hn hpos hfit h1
  unfold Oper.wp
  simp [execOp, ho, resolve, invoke, builtin, hd, hs, hrun, Result.andThen]
  exact h (w.setRow g (splice cur off cs).toArray) (setRow_heap w g _ _ t _ hg) (fun k hk => setRow_other w g k _ hk) (below_setRow hb hBg _)

/-- 'clear(s)': the zero value's cells, over and over. -/
theorem run_clear_k {P : Program} (w : World) (t e ty : TypeId) (z : Value) (sz : Nat) (hu : P.underlying t = some (.slice e)) (hv : ∀ w, (zeroValue e).run P w = .ok z w)
    (ap : Option Addr) (n c : Nat) (g off : Nat) (cur : List Value) (ct : TypeId) (hg : w.heap[g]? = some (.cells cur.toArray ct (0, 0))) (hpos : 0 < n → ap = some ⟨g, off, none⟩)
    (hl : (Builtin.zeroCells z.cells n).toList.length = n * sz) (h1 : ∀ v ∈ (Builtin.zeroCells z.cells n).toList, v.oneCell' = true) (hfit : off + n * sz ≤ cur.length) :
    ∃ w', (Builtin.clear_ #[t] ty #[.slice ap n c]).run P w = .ok (.tuple #[]) w' ∧ w'.heap[g]? = some (.cells (if n = 0 then cur else splice cur off (Builtin.zeroCells z.cells n).toList).toArray ct (0, 0)) ∧ (∀ k, k ≠ g → w'.heap[k]? = w.heap[k]?) ∧ ∀ {B : Nat} {w0 : World}, Below B w0 w → B ≤ g → Below B w0 w' := by
  cases n with
  | zero =>
    refine ⟨w, ?_, by simpa using hg, fun _ _ => rfl, fun h _ => h⟩
    cases ap <;> simp [Builtin.clear_, run_underlying hu]
  | succ n =>
    obtain rfl := hpos (by omega)
    have hst := run_storeCells_at P g off ct (Builtin.zeroCells z.cells (n + 1)).toList 0 cur.toArray w hg (by rw [hl]; simpa using hfit) h1
    refine ⟨w.setRow g (splice cur off (Builtin.zeroCells z.cells (n + 1)).toList).toArray, ?_, ?_, fun k hk => setRow_other w g k _ hk, fun h h' => below_setRow h h' _⟩
    · simp only [Builtin.clear_]
      simp [run_underlying hu, hv, hst, splice]
    · simpa using setRow_heap w g _ (splice cur off (Builtin.zeroCells z.cells (n + 1)).toList).toArray ct _ hg
end Go.Proofs.YthfhjgkpabkeaaaGreat.copyk
namespace Go.Proofs.YthfhjgkpabkeaaaGreat.rows
open Go.RowKit
set_option maxRecDepth 100000

theorem isRow_any {w : World} {v : Value} {xs : List Int} (h : IntsAt w v xs) :
    Calls Tryz.prog 117 #[v] w fun e w' => e = .returned (.bool (rowOk xs)) ∧ w' = w := by
  obtain ⟨a, cap, rfl, hlc, hcm, _, hc⟩ := h
  clear hc
  by_cases h1 : xs.length ≤ 1000
  · have h2 : (xs.length : Int) ≤ 1000 := by omega
    go_enter Tryz.func117, Tryz.ntmps117
    go_wp2
    go_ret
    exact ⟨by simp [rowOk, h1], rfl⟩
  · have h2 : ¬ (xs.length : Int) ≤ 1000 := by omega
    go_enter Tryz.func117, Tryz.ntmps117
    go_wp2
    go_ret
    exact ⟨by simp [rowOk]; omega, rfl⟩

/-- Is there a piece of n places from f on? -/
def cutOk (len : Nat) (f n : Int) : Bool := decide (0 ≤ f ∧ 0 ≤ n ∧ f + n ≤ len)
theorem cutOk_true {len : Nat} {f n : Int} (h : cutOk len f n = true) : 0 ≤ f ∧ 0 ≤ n ∧ f + n ≤ len := by simpa [cutOk] using h
theorem cutOk_false {len : Nat} {f n : Int} (h : cutOk len f n = false) : ¬ (0 ≤ f ∧ 0 ≤ n ∧ f + n ≤ len) := by simpa [cutOk] using h
/-- The piece of n places from f on. -/
def piece (a : Option Addr) (f n : Nat) : Value := .slice (if n = 0 then a else a.map (·.add f)) n n

theorem cut_no {w : World} {a : Option Addr} {len cap : Nat} (hlc : len ≤ cap) (hcm : cap ≤ maxLen) (f n : Int) (hf : I64 f) (hn : I64 n) (d : cutOk len f n = false) :
    Calls Tryz.prog 137 #[.slice a len cap, .int .i64 f, .int .i64 n] w fun e w' => e = .returned (.tuple #[.slice none 0 0, .bool false]) ∧ w' = w := by
  unfold I64 at hf hn
  unfold maxLen at hcm
  have d' := cutOk_false d
  clear d
  by_cases h1 : f < 0
  · go_enter Tryz.func137, Tryz.ntmps137
    go_wp2
    go_ret2
    exact ⟨rfl, rfl⟩
  · by_cases h2 : n < 0
    · go_enter Tryz.func137, Tryz.ntmps137
      go_wp2
      go_ret2
      exact ⟨rfl, rfl⟩
    · have h3 : n > (len : Int) - f := by omega
      go_enter Tryz.func137, Tryz.ntmps137
      go_wp2
      go_ret2
      exact ⟨rfl, rfl⟩

theorem cut_yes {w : World} {a : Option Addr} {len cap : Nat} (hlc : len ≤ cap) (hcm : cap ≤ maxLen) (F N : Nat) (fn : F + N ≤ len) :
    Calls Tryz.prog 137 #[.slice a len cap, .int .i64 F, .int .i64 N] w fun e w' => e = .returned (.tuple #[piece a F N, .bool true]) ∧ w' = w := by
  unfold maxLen at hcm
  have h1 : ¬ (F : Int) < 0 := by omega
  have h2 : ¬ (N : Int) < 0 := by omega
  have h3 : ¬ (N : Int) > (len : Int) - F := by omega
  go_enter Tryz.func137, Tryz.ntmps137
  go_wp2
  all_goals go_ret2
  · exact ⟨by simp [piece, *], rfl⟩
  · exact ⟨by simp [piece, *], rfl⟩

theorem piece_at (b off k n : Nat) (hn : 0 < n) : piece (some ⟨b, off, none⟩) k n = .slice (some ⟨b, off + k, none⟩) n n := by
  have hn' : n ≠ 0 := by omega
  by_cases h0 : k = 0
  · subst h0; simp [piece, Addr.add]
  · simp [piece, Addr.add, h0, hn']
theorem piece_none (a : Option Addr) (k : Nat) : piece a k 0 = .slice a 0 0 := by simp [piece]

end Go.Proofs.YthfhjgkpabkeaaaGreat.rows
namespace Go.Proofs.YthfhjgkpabkeaaaGreat.rows
open Go.RowKit
set_option maxRecDepth 100000

theorem implReadAt (w : World) (v : Value) (xs : List Int) (i : Int) (h : IntsAt w v xs) (hl : xs.length ≤ 1048576) (hi : I64 i) :
    Calls Tryz.prog 147 #[v, .int .i64 i] w fun e w' => e = .returned (.tuple #[.int .i64 (readAt xs i), .bool (okAt xs i)]) ∧ Below w.heap.size w w' := by
  have h' := h
  obtain ⟨a, cap, rfl, hlc, hcm, _, hc⟩ := h
  cases d1 : rowOk xs
  · have eo : okAt xs i = false := by simp [okAt, d1]
    have er : readAt xs i = 0 := by simp [readAt, eo]
    rw [er, eo]
    clear hc er
    go_enter Tryz.func147, Tryz.ntmps147
    go_wp2_with (go_at_call 117; refine (isRow_any h').mono ?_; rintro e w' ⟨rfl, hw⟩; rw [hw]; clear hw w')
    go_ret2
    exact ⟨rfl, Below.refl _ _⟩
  · cases d2 : atOk xs i
    · have eo : okAt xs i = false := by simp [okAt, d2]
      have er : readAt xs i = 0 := by simp [readAt, eo]
      have dc : cutOk xs.length i 1 = false := by simp [cutOk, atOk] at d2 ⊢; omega
      rw [er, eo]
      clear hc er
      go_enter Tryz.func147, Tryz.ntmps147
      go_wp2_with (go_at_call 117; refine (isRow_any h').mono ?_; rintro e w' ⟨rfl, hw⟩; rw [hw]; clear hw w')
      refine (cut_no hlc hcm i 1 hi ⟨by decide, by decide⟩ dc).mono ?_
      rintro e w' ⟨rfl, hw⟩
      rw [hw]
      clear hw w'
      go_wp2
      go_ret2
      exact ⟨rfl, Below.refl _ _⟩
    · have eo : okAt xs i = true := by simp [okAt, d1, d2]
      obtain ⟨p1, p2⟩ := atOk_true d2
      obtain ⟨k, rfl⟩ := Int.eq_ofNat_of_zero_le p1
      obtain ⟨b, off, rfl, hb, hcc⟩ := hc (by omega)
      have c0 := hcc k (by omega)
      have er : readAt xs k = xs.getD k 0 := by simp [readAt, eo]
      have ep := piece_at b off k 1 (by decide)
      rw [er, eo]
      clear hc hcc er
      generalize xs.getD k 0 = x at *
      go_enter Tryz.func147, Tryz.ntmps147
      go_wp2_with (go_at_call 117; refine (isRow_any h').mono ?_; rintro e w' ⟨rfl, hw⟩; rw [hw]; clear hw w')
      refine (cut_yes hlc hcm k 1 (by omega)).mono ?_
      rintro e w' ⟨rfl, hw⟩
      rw [hw, ep]
      clear hw w' ep
      go_wp2
      go_ret2
      exact ⟨rfl, Below.refl _ _⟩
end Go.Proofs.YthfhjgkpabkeaaaGreat.rows
namespace Go.Proofs.YthfhjgkpabkeaaaGreat.rows
open Go.RowKit
set_option maxRecDepth 100000

theorem infoSize : (Tryz.prog.info? 2).map (·.size) = some 1 := by kernel_rfl
theorem splice_all {L cs : List Value} (h : cs.length = L.length) : splice L 0 cs = cs := by simp [splice, h]

theorem src_of {w : World} {a : Option Addr} {cap : Nat} {xs : List Int} (h : IntsAt w (.slice a xs.length cap) xs) (hp : 0 < xs.length) : ∃ ad, a = some ad ∧ ∀ j v, (cellsOf xs)[j]? = some v → w.cell? (ad.add j) = some v := by
  have h' := h
  obtain ⟨a', cap', e, _, _, _, hc⟩ := h
  injection e with e1 e2 e3
  subst e1
  obtain ⟨b, off, rfl, _⟩ := hc hp
  exact ⟨_, rfl, ints_news h'⟩

theorem own_nil (w : World) (base : Nat) : Own w base (.slice none 0 0) [] := World.ownsRow_nil _ _ _ _

theorem copied_any {w : World} {v : Value} {xs : List Int} (h : IntsAt w v xs) (hl : xs.length ≤ 1048576) :
    Calls Tryz.prog 49 #[v] w fun e w' => e = .returned (.slice (some ⟨w.heap.size, 0, none⟩) xs.length xs.length) ∧ Full w' w.heap.size xs ∧ Below w.heap.size w w' := by
  have h' := h
  obtain ⟨a, cap, rfl, hlc, hcm, _, hc⟩ := h
  obtain ⟨i0, hi, hz0, hz1, hz2⟩ := info_parts info
  clear hc
  go_enter Tryz.func49, Tryz.ntmps49
  go_upto_region 2 with (at_make; refine wpList_make_full _ rfl _ _ 22 rfl w.heap.size 2 i0 (.int .i64 0) 1 Tryz.underlying22 hi hz0 hz1 _ _ _ _ xs.length rfl rfl rfl rfl (by rw [hz2]; omega) (by unfold maxLen; omega) (Nat.le_refl _) ?_; intro w1 hown hgrow)
  have F0 : Full w1 w.heap.size (List.replicate xs.length 0) := own_full hown (by simp [cellsOf, toList_madeCells_one, Value.cells])
  have B0 : Below w.heap.size w w1 := (Below.refl _ _).grown hgrow (Nat.le_refl _) (fun k e => by cases e)
  have SRC := src_of (intsAt_below h' B0)
  have hn : (cellsOf xs).length = Nat.min xs.length xs.length := by rw [show Nat.min xs.length xs.length = xs.length from Nat.min_self _]; simp
  have hfit : 0 + (cellsOf xs).length ≤ (cellsOf (List.replicate xs.length 0)).length := by simp
  have hp0 : 0 < (cellsOf xs).length → some (⟨w.heap.size, 0, none⟩ : Addr) = some ⟨w.heap.size, 0, none⟩ ∧ ∃ ad, a = some ad ∧ ∀ j v, (cellsOf xs)[j]? = some v → w1.cell? (ad.add j) = some v := fun hp => ⟨rfl, SRC (by simpa using hp)⟩
  have HN : Hid _ := hn
  have HF : Hid _ := hfit
  have HP : Hid _ := hp0
  have HF0 : Hid _ := F0
  clear hown hgrow hn hfit hp0 F0 SRC
  go_wp2_with (refine wpList_copy_splice rfl (.tmp 7) (.tmp 8) 22 22 rfl 2 Tryz.underlying22 infoSize (some ⟨w.heap.size, 0, none⟩) a xs.length xs.length xs.length cap rfl rfl w.heap.size 0 (cellsOf (List.replicate xs.length 0)) 2 HF0.out (cellsOf xs) HN.out HP.out HF.out (ints_oneCell _ _) w.heap.size w B0 (Nat.le_refl _) ?_; intro w2 hF hB)
  have F2 : Full w2 w.heap.size xs := by
    have := hF.out
    rw [splice_all (by simp)] at this
    exact this
  go_ret
  exact ⟨rfl, F2, hB⟩
end Go.Proofs.YthfhjgkpabkeaaaGreat.rows
