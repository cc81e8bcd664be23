/-
  A region that draws its order, by an invariant of what has come up, of the frame and of the world: each operation that may come up keeps it, in whatever order; no branching. A region that draws its order, by facts: what is known of the slot of each operation that has come up, and of the world. A drawn region's operations, handed in by their numbers. A drawn region whose last operation waits for all others: by one fact a slot, each of which stays where the world only grows. A drawn region whose operations may be guarded, by one fact a slot, under a relation between worlds of one's own: each operation that comes up is wanted and keeps its fact, or is not wanted and its slot is empty. A drawn region with a store among its operations: the store's fact lies at a slot that is none. A drawn region some of whose edges do not bind: by an invariant of what has come up, of the slots and of the world. A drawn region by facts: an operation that its guard wants, and one that it does not.
-/
import Derived.Test.YtcboojhabolcbaaGreatDoorProg
import Derived.Orders
import Derived.Deep.Quiet
import Derived.Below
import Derived.Tactics
namespace Go.Proofs.YtcboojhabolcbaaGreatDoor.region
open Go

theorem count_set (l : Array Bool) (i : Nat) (h : l.getD i true = false) : (l.setIfInBounds i true).toList.count false + 1 = l.toList.count false := by
  have hi : i < l.size := by
    rcases Nat.lt_or_ge i l.size with h' | h'
    · exact h'
    · simp [Array.getD, Nat.not_lt.2 h'] at h
  have he : l.toList[i]'(by simpa using hi) = false := by
    simpa [Array.getD, hi] using h
  rw [Array.toList_setIfInBounds, List.count_set (by simpa using hi)]
  have hc : 0 < l.toList.count false := List.count_pos_iff.2 (by rw [← he]; exact List.getElem_mem _)
  simp [he]
  have hc' : 0 < l.count false := by simpa using hc
  omega

theorem wpAny_inv {P : Program} {md : Region.Mode} {ops : Array Oper} {Q : Exit → Act → World → Prop} (I : Array Bool → Act → World → Prop)
    (fin : ∀ l a w, I l a w → Region.ready md ops l = [] → Q .normal a w)
    (stp : ∀ l a w i, I l a w → i ∈ Region.ready md ops l → wpOp P ops Q i (I (l.setIfInBounds i true)) a w) :
    ∀ (fuel : Nat) (l : Array Bool) (a : Act) (w : World), l.toList.count false ≤ fuel → I l a w → wpAny P md ops Q fuel l a w
  | 0, l, a, w, hc, h => by
    have e : Region.ready md ops l = [] := by
      rw [List.eq_nil_iff_forall_not_mem]
      intro i hi
      have := count_set l i (mem_ready.1 hi).1
      omega
    exact ⟨e, fin l a w h e⟩
  | fuel + 1, l, a, w, hc, h => by
    refine ⟨fun e => fin l a w h e, fun i hi => wpOp_mono (fun a' w' h' => ?_) (stp l a w i h hi)⟩
    have := count_set l i (mem_ready.1 hi).1
    exact wpAny_inv I fin stp fuel _ a' w' (by omega) h'

theorem wp_region_inv {P : Program} {id : Nat} {ops : Array Oper} {Q : Exit → Act → World → Prop} {a : Act} {w : World} (hm : P.follows .mixedOrders = true) (I : Array Bool → Act → World → Prop)
    (start : I (Array.replicate ops.size false) a w.drew)
    (fin : ∀ l a w, I l a w → Region.ready .any ops l = [] → Q .normal a w)
    (stp : ∀ l a w i, I l a w → i ∈ Region.ready .any ops l → wpOp P ops Q i (I (l.setIfInBounds i true)) a w) : (Code.region id ops true).wp P Q a w :=
  wp_region_any hm (wpAny_inv I fin stp _ _ _ _ (by simp) start)
end Go.Proofs.YtcboojhabolcbaaGreatDoor.region
namespace Go.Proofs.YtcboojhabolcbaaGreatDoor.region
open Go

/-- The frame a0 with other values in the slots of D. -/
def ovr (D : Nat → Bool) (a0 : Act) (u : Nat → Value) : Act := { a0 with tmps := ((List.range a0.tmps.size).map fun s => if D s then u s else a0.tmps.getD s undef).toArray }
def upd (u : Nat → Value) (d : Nat) (v : Value) : Nat → Value := fun s => if s = d then v else u s

theorem getD_at (t : Array Value) (s : Nat) : t.getD s undef = t[s]?.getD undef := by
  rw [Array.getD_eq_getD_getElem?]
theorem ovr_at (D : Nat → Bool) (a0 : Act) (u : Nat → Value) (s : Nat) (hs : s < a0.tmps.size) : (ovr D a0 u).tmps[s]? = some (if D s then u s else a0.tmps.getD s undef) := by
  simp [ovr, hs]
theorem ovr_size (D : Nat → Bool) (a0 : Act) (u : Nat → Value) : (ovr D a0 u).tmps.size = a0.tmps.size := by simp [ovr]
theorem ovr_self (D : Nat → Bool) (a0 : Act) : ovr D a0 (fun s => a0.tmps.getD s undef) = a0 := by
  cases a0 with
  | mk tmps defers =>
    unfold ovr
    congr 1
    apply Array.ext_getElem?
    intro s
    rcases Nat.lt_or_ge s tmps.size with h | h
    · simp [h]
    · simp [h]
theorem ovr_put {D : Nat → Bool} {a0 : Act} {u : Nat → Value} {d : Nat} {v : Value} (hd : D d = true) : (ovr D a0 u).put (some d) v = ovr D a0 (upd u d v) := by
  have e : ((ovr D a0 u).put (some d) v).tmps = (ovr D a0 (upd u d v)).tmps := by
    show (ovr D a0 u).tmps.setIfInBounds d v = _
    apply Array.ext_getElem?
    intro s
    rcases Nat.lt_or_ge s a0.tmps.size with h | h
    · rw [ovr_at D a0 _ s h, Array.getElem?_setIfInBounds]
      by_cases hs : d = s
      · subst hs
        rw [if_pos rfl, ovr_size, if_pos h, if_pos hd]
        simp [upd]
      · rw [if_neg hs, ovr_at D a0 _ s h]
        have : ¬ s = d := fun e => hs e.symm
        simp [upd, this]
    · rw [Array.getElem?_eq_none (by simpa [ovr_size] using h), Array.getElem?_eq_none (by simpa [ovr_size] using h)]
  have e' : ((ovr D a0 u).put (some d) v).defers = (ovr D a0 (upd u d v)).defers := rfl
  cases h1 : (ovr D a0 u).put (some d) v
  cases h2 : ovr D a0 (upd u d v)
  rw [h1, h2] at e e'
  simp only at e e'
  rw [e, e']

theorem all_listed {ops : Array Oper} {l : Array Bool} (hacyc : ∀ (k : Nat) (o : Oper), ops[k]? = some o → ∀ e ∈ o.after, e.on < k) (hl : l.size = ops.size) (h : Region.ready .any ops l = []) : ∀ k, k < ops.size → l.getD k false = true := by
  intro k
  induction k using Nat.strongRecOn with
  | ind k ih =>
    intro hk
    have hl' : k < l.size := by omega
    cases hv : l.getD k false with
    | true => rfl
    | false =>
      have h1 : l.getD k true = false := by
        simp only [Array.getD, hl', dite_true] at hv ⊢
        exact hv
      have : k ∈ Region.ready .any ops l := mem_ready.2 ⟨h1, ops[k], Array.getElem?_eq_getElem hk, fun e he _ => ih e.on (hacyc k _ (Array.getElem?_eq_getElem hk) e he) (by have := hacyc k _ (Array.getElem?_eq_getElem hk) e he; omega)⟩
      rw [h] at this
      cases this

theorem wp_region_facts {P : Program} {id : Nat} {ops : Array Oper} {Q : Exit → Act → World → Prop} {a0 : Act} {w : World} (hm : P.follows .mixedOrders = true) (D : Nat → Bool)
    (hg : ∀ o ∈ ops, o.guard = none) (hacyc : ∀ (k : Nat) (o : Oper), ops[k]? = some o → ∀ e ∈ o.after, e.on < k)
    (I : Array Bool → (Nat → Value) → World → Prop)
    (start : I (Array.replicate ops.size false) (fun s => a0.tmps.getD s undef) w.drew)
    (fin : ∀ l u w, I l u w → (∀ k, k < ops.size → l.getD k false = true) → Q .normal (ovr D a0 u) w)
    (stp : ∀ l u w k o, I l u w → l.size = ops.size → l.getD k false = false → ops[k]? = some o → (∀ e ∈ o.after, Region.binds .any e = true → l.getD e.on false = true) →
      o.wp P (ovr D a0 u) w (fun a' w' => ∃ u', a' = ovr D a0 u' ∧ I (l.setIfInBounds k true) u' w') Q) : (Code.region id ops true).wp P Q a0 w := by
  refine wp_region_inv hm (fun l a w => l.size = ops.size ∧ ∃ u, a = ovr D a0 u ∧ I l u w) ⟨by simp, _, (ovr_self D a0).symm, start⟩ ?_ ?_
  · rintro l a w ⟨hl, u, rfl, h⟩ hr
    exact fin l u w h (all_listed hacyc hl hr)
  · rintro l a w i ⟨hl, u, rfl, h⟩ hi
    obtain ⟨h1, o, ho, hd⟩ := mem_ready.1 hi
    have hi' : i < ops.size := (Array.getElem?_eq_some_iff.1 ho).1
    have h1' : l.getD i false = false := by
      have hl' : i < l.size := by omega
      simp only [Array.getD, hl', dite_true] at h1 ⊢
      exact h1
    have hgo := hg o (Array.mem_of_getElem? ho)
    unfold wpOp
    rw [ho]
    simp only
    rw [if_pos (by simp [Region.wanted, hgo])]
    refine .inl (Oper.wp_mono (fun a' w' h' => ?_) (stp l u w i o h hl h1' ho hd))
    obtain ⟨u', e, h'⟩ := h'
    exact ⟨by simpa using hl, u', e, h'⟩

theorem getD_other (l : Array Bool) {k j : Nat} (h : ¬ k = j) : (l.setIfInBounds k true).getD j false = l.getD j false := by
  rw [Array.getD_eq_getD_getElem?, Array.getElem?_setIfInBounds, if_neg h, Array.getD_eq_getD_getElem?]

/-- What is known of the slots stays known where one more is known. -/
theorem facts_put {n : Nat} {F : Nat → Value → World → Prop} {dst : Nat → Nat} {l : Array Bool} {u : Nat → Value} {w w' : World} {k : Nat} {v : Value} (hi : ∀ j, j < n → dst j = dst k → j = k)
    (H : ∀ j, j < n → l.getD j false = true → F j (u (dst j)) w) (hs : ∀ j, j < n → j ≠ k → l.getD j false = true → ∀ t, F j t w → F j t w') (hv : F k v w') :
    ∀ j, j < n → (l.setIfInBounds k true).getD j false = true → F j (upd u (dst k) v (dst j)) w' := by
  intro j hj hlj
  by_cases e : j = k
  · subst e
    simp only [upd, if_true]
    exact hv
  · have : ¬ dst j = dst k := fun e' => e (hi j hj e')
    simp only [upd, this, if_false]
    have hlj' : l.getD j false = true := by rwa [getD_other l (Ne.symm e)] at hlj
    exact hs j hj e hlj' _ (H j hj hlj')
theorem listed_put {l : Array Bool} {k j : Nat} (hl : k < l.size) (h : (l.setIfInBounds k true).getD j false = false) : l.getD j false = false := by
  by_cases e : k = j
  · subst e
    simp [Array.getD, hl] at h
  · rwa [getD_other l e] at h
theorem listed_ne {l : Array Bool} {k : Nat} (hk : k < l.size) : (l.setIfInBounds k true).getD k false = true := by
  simp [Array.getD, hk]
end Go.Proofs.YtcboojhabolcbaaGreatDoor.region
namespace Go.Proofs.YtcboojhabolcbaaGreatDoor.region
open Go

/-- The operation k of a region: its slot, what it is, what it waits for. -/
def Has (ops : Array Oper) (k : Nat) (d : Option Nat) (op : Op) (deps : List Nat) : Prop := ∃ o, ops[k]? = some o ∧ o.dst = d ∧ o.op = op ∧ ∀ j ∈ deps, ∃ e ∈ o.after, e.on = j ∧ Region.binds .any e = true
theorem has_at {ops : Array Oper} {k : Nat} {d : Option Nat} {op : Op} {deps : List Nat} (h : Has ops k d op deps) {o : Oper} (ho : ops[k]? = some o) {l : Array Bool} (hd : ∀ e ∈ o.after, Region.binds .any e = true → l.getD e.on false = true) : o.dst = d ∧ o.op = op ∧ ∀ j ∈ deps, l.getD j false = true := by
  obtain ⟨o', ho', h1, h2, h3⟩ := h
  rw [ho] at ho'
  injection ho' with ho'
  subst ho'
  refine ⟨h1, h2, fun j hj => ?_⟩
  obtain ⟨e, he, rfl, hb⟩ := h3 j hj
  exact hd e he hb
theorem wp_value {P : Program} {o : Oper} {a : Act} {w w' : World} {K : Act → World → Prop} {Q : Exit → Act → World → Prop} {v : Value} (h : (execOp a.eval o).run P w = .ok (.value v) w') (hk : K (a.put o.dst v) w') : o.wp P a w K Q := by
  unfold Oper.wp
  rw [h]
  exact hk
theorem wp_call {P : Program} {o : Oper} {a : Act} {w : World} {K : Act → World → Prop} {Q : Exit → Act → World → Prop} {f : FuncId} {args : Array Value} (h : (execOp a.eval o).run P w = .ok (.enter f args) w) (hk : Calls P f args w fun e w' => ∃ v, e = .returned v ∧ K (a.put o.dst v) w') : o.wp P a w K Q := by
  unfold Oper.wp
  rw [h, Oper.upon_enter]
  refine hk.mono ?_
  rintro e w' ⟨v, rfl, h⟩
  exact h
theorem eval_in {D : Nat → Bool} {a0 : Act} {u : Nat → Value} {s : Nat} (hd : D s = true) (hs : s < a0.tmps.size) : (ovr D a0 u).eval (.tmp s) = u s := by
  show (ovr D a0 u).tmps.getD s undef = _
  rw [getD_at, ovr_at D a0 u s hs, hd]
  rfl
theorem eval_out {D : Nat → Bool} {a0 : Act} {u : Nat → Value} {s : Nat} (hd : D s = false) (hs : s < a0.tmps.size) : (ovr D a0 u).eval (.tmp s) = a0.tmps.getD s undef := by
  show (ovr D a0 u).tmps.getD s undef = _
  rw [getD_at, ovr_at D a0 u s hs, hd]
  rfl
theorem put_in {D : Nat → Bool} {a0 : Act} {o : Oper} {d : Nat} (ho : o.dst = some d) (hd : D d = true) (u : Nat → Value) (v : Value) : (ovr D a0 u).put o.dst v = ovr D a0 (upd u d v) := by
  rw [ho]
  exact ovr_put hd
theorem put_no {D : Nat → Bool} {a0 : Act} {o : Oper} (ho : o.dst = none) (u : Nat → Value) (v : Value) : (ovr D a0 u).put o.dst v = ovr D a0 u := by
  rw [ho]
  rfl
end Go.Proofs.YtcboojhabolcbaaGreatDoor.region
namespace Go.Proofs.YtcboojhabolcbaaGreatDoor.region
open Go Go.RowKit

theorem wp_region_plain {P : Program} {id : Nat} {ops : Array Oper} {Q : Exit → Act → World → Prop} {a0 : Act} {w : World} (hm : P.follows .mixedOrders = true) (D : Nat → Bool)
    (hg : ∀ o ∈ ops, o.guard = none) (hacyc : ∀ (k : Nat) (o : Oper), ops[k]? = some o → ∀ e ∈ o.after, e.on < k) (n : Nat) (hn : ops.size = n + 1) (dst : Nat → Nat) (hinj : ∀ k, k < n → ∀ j, j < n → dst j = dst k → j = k)
    (F : Nat → Value → World → Prop) (hst : ∀ k t W W', Below W.heap.size W W' → F k t W → F k t W')
    (hall : ∀ o, ops[n]? = some o → ∀ j, j < n → ∃ e ∈ o.after, e.on = j ∧ Region.binds .any e = true)
    (step : ∀ k o u W, k < n → ops[k]? = some o → Below w.heap.size w W → (∀ j, j < n → (∃ e ∈ o.after, e.on = j ∧ Region.binds .any e = true) → F j (u (dst j)) W) → o.wp P (ovr D a0 u) W (fun a' W' => ∃ v, a' = ovr D a0 (upd u (dst k) v) ∧ Below W.heap.size W W' ∧ F k v W') Q)
    (last : ∀ o u W, ops[n]? = some o → Below w.heap.size w W → (∀ j, j < n → F j (u (dst j)) W) → o.wp P (ovr D a0 u) W (fun a' W' => ∃ u', a' = ovr D a0 u' ∧ Q .normal (ovr D a0 u') W') Q) :
    (Code.region id ops true).wp P Q a0 w := by
  refine wp_region_facts hm D hg hacyc (fun l u W => (l.getD n false = false ∧ Below w.heap.size w W ∧ ∀ k, k < n → l.getD k false = true → F k (u (dst k)) W) ∨ ((∀ k, k < n + 1 → l.getD k false = true) ∧ Q .normal (ovr D a0 u) W)) (.inl ⟨?_, (Below.refl _ w).drew, fun k hk h => ?_⟩) ?_ ?_
  · simp [Array.getD, hn]
  · simp [Array.getD, hn, show k < n + 1 by omega] at h
  · rintro l u W (⟨h1, _⟩ | ⟨_, h⟩) hA
    · rw [hA n (by omega)] at h1
      cases h1
    · exact h
  · rintro l u W k o (⟨h1, hB, hF⟩ | ⟨hA, _⟩) hl hlk ho hd
    case inr =>
      have hk : k < n + 1 := by rw [← hn]; exact (Array.getElem?_eq_some_iff.1 ho).1
      rw [hA k hk] at hlk
      cases hlk
    have hk : k < n + 1 := by rw [← hn]; exact (Array.getElem?_eq_some_iff.1 ho).1
    by_cases e : k = n
    · subst e
      have hA : ∀ j, j < k → l.getD j false = true := fun j hj => by
        obtain ⟨e, he, rfl, hb⟩ := hall o ho j hj
        exact hd e he hb
      refine Oper.wp_mono ?_ (last o u W ho hB (fun j hj => hF j hj (hA j hj)))
      rintro a' W' ⟨u', rfl, h⟩
      refine ⟨u', rfl, .inr ⟨fun j hj => ?_, h⟩⟩
      by_cases e : j = k
      · subst e; exact listed_ne (by omega)
      · rw [getD_other l (Ne.symm e)]; exact hA j (by omega)
    · have hk' : k < n := by omega
      refine Oper.wp_mono ?_ (step k o u W hk' ho hB (fun j hj ⟨e, he, e1, hb⟩ => hF j hj (by rw [← e1]; exact hd e he hb)))
      rintro a' W' ⟨v, rfl, hb, hv⟩
      refine ⟨_, rfl, .inl ⟨?_, hB.trans (hb.mono hB.size), ?_⟩⟩
      · rw [getD_other l e]; exact h1
      · exact facts_put (dst := dst) (hinj k hk') hF (fun j _ _ _ t => hst j t W W' hb) hv
/-- The operation k as it is handed in. -/
theorem has_plain {ops : Array Oper} {k : Nat} {d : Option Nat} {op : Op} {deps : List Nat} (h : Has ops k d op deps) {o : Oper} (ho : ops[k]? = some o) : o.dst = d ∧ o.op = op ∧ ∀ j ∈ deps, ∃ e ∈ o.after, e.on = j ∧ Region.binds .any e = true := by
  obtain ⟨o', ho', h1, h2, h3⟩ := h
  rw [ho] at ho'
  injection ho' with ho'
  subst ho'
  exact ⟨h1, h2, h3⟩
theorem wp_skip' {P : Program} {o : Oper} {a : Act} {w w' : World} {K : Act → World → Prop} {Q : Exit → Act → World → Prop} (h : (execOp a.eval o).run P w = .ok .skip w') (hk : K (a.put o.dst undef) w') : o.wp P a w K Q := by
  unfold Oper.wp
  rw [h]
  exact hk
end Go.Proofs.YtcboojhabolcbaaGreatDoor.region
namespace Go.Proofs.YtcboojhabolcbaaGreatDoor.region
open Go Go.RowKit

theorem wp_region_guarded {P : Program} {id : Nat} {ops : Array Oper} {Q : Exit → Act → World → Prop} {a0 : Act} {w : World} (hm : P.follows .mixedOrders = true) (D : Nat → Bool) (R : World → World → Prop) (Rtr : ∀ a b c, R a b → R b c → R a c) (Rdr : R w w.drew)
    (hacyc : ∀ (k : Nat) (o : Oper), ops[k]? = some o → ∀ e ∈ o.after, e.on < k) (n : Nat) (hn : ops.size = n) (dst : Nat → Nat) (hinj : ∀ k, k < n → ∀ j, j < n → dst j = dst k → j = k)
    (F : Nat → Value → World → Prop) (hst : ∀ k t W W', R W W' → F k t W → F k t W')
    (step : ∀ k o u W, k < n → ops[k]? = some o → R w W → (∀ j, j < n → (∃ e ∈ o.after, e.on = j ∧ Region.binds .any e = true) → F j (u (dst j)) W) →
      (Region.wanted o (yielded ops (ovr D a0 u).tmps) = true ∧ o.wp P (ovr D a0 u) W (fun a' W' => ∃ v, a' = ovr D a0 (upd u (dst k) v) ∧ R W W' ∧ F k v W') Q) ∨
      (Region.wanted o (yielded ops (ovr D a0 u).tmps) = false ∧ o.dst = some (dst k) ∧ D (dst k) = true ∧ F k undef W))
    (fin : ∀ u W, R w W → (∀ j, j < n → F j (u (dst j)) W) → Q .normal (ovr D a0 u) W) :
    (Code.region id ops true).wp P Q a0 w := by
  refine wp_region_inv hm (fun l a W => l.size = ops.size ∧ ∃ u, a = ovr D a0 u ∧ R w W ∧ ∀ k, k < n → l.getD k false = true → F k (u (dst k)) W) ⟨by simp, _, (ovr_self D a0).symm, Rdr, fun k hk h => ?_⟩ ?_ ?_
  · simp [Array.getD, hn, hk] at h
  · rintro l a W ⟨hl, u, rfl, hB, hF⟩ hr
    have hA := all_listed hacyc hl hr
    exact fin u W hB fun j hj => hF j hj (hA j (by omega))
  · rintro l a W i ⟨hl, u, rfl, hB, hF⟩ hi
    obtain ⟨h1, o, ho, hd⟩ := mem_ready.1 hi
    have hi' : i < n := by rw [← hn]; exact (Array.getElem?_eq_some_iff.1 ho).1
    unfold wpOp
    rw [ho]
    simp only
    rcases step i o u W hi' ho hB (fun j hj ⟨e, he, e1, hb⟩ => hF j hj (by rw [← e1]; exact hd e he hb)) with ⟨hw, h⟩ | ⟨hw, hds, hD, h⟩
    · rw [if_pos hw]
      refine .inl (Oper.wp_mono (fun a' W' h' => ?_) h)
      obtain ⟨v, rfl, hR, hv⟩ := h'
      exact ⟨by simpa using hl, _, rfl, Rtr _ _ _ hB hR, facts_put (dst := dst) (hinj i hi') hF (fun j _ _ _ t => hst j t W W' hR) hv⟩
    · rw [if_neg (by rw [hw]; simp)]
      refine ⟨by simpa using hl, upd u (dst i) undef, ?_, hB, facts_put (dst := dst) (hinj i hi') hF (fun j _ _ _ t ht => ht) h⟩
      rw [hds]
      exact ovr_put hD
/-- An operation with no guard is wanted. -/
theorem wanted_none {ops : Array Oper} {o : Oper} {t : Array Value} (h : o.guard = none) : Region.wanted o (yielded ops t) = true := by simp [Region.wanted, h]
/-- A guarded one is wanted where the slot of its guard holds what it asks for. -/
theorem wanted_some {ops : Array Oper} {o og : Oper} {D : Nat → Bool} {a0 : Act} {u : Nat → Value} {g d : Nat} {b c : Bool} (h : o.guard = some (g, b)) (hg : ops[g]? = some og) (hd : og.dst = some d) (hD : D d = true) (hs : d < a0.tmps.size) (hu : u d = .bool c) : Region.wanted o (yielded ops (ovr D a0 u).tmps) = (c == b) := by
  have hy : yielded ops (ovr D a0 u).tmps g = some c := by
    unfold yielded
    rw [hg]
    simp only [Option.bind_some, hd]
    rw [ovr_at D a0 u d hs, hD, if_pos rfl, hu]
  simp only [Region.wanted, h, hy]
  cases b <;> cases c <;> rfl
/-- .. and is not, where the guard itself was not. -/
theorem wanted_undef {ops : Array Oper} {o og : Oper} {D : Nat → Bool} {a0 : Act} {u : Nat → Value} {g d : Nat} {b : Bool} (h : o.guard = some (g, b)) (hg : ops[g]? = some og) (hd : og.dst = some d) (hD : D d = true) (hs : d < a0.tmps.size) (hu : u d = undef) : Region.wanted o (yielded ops (ovr D a0 u).tmps) = false := by
  have hy : yielded ops (ovr D a0 u).tmps g = none := by
    unfold yielded
    rw [hg]
    simp only [Option.bind_some, hd]
    rw [ovr_at D a0 u d hs, hD, if_pos rfl, hu]
    rfl
  simp only [Region.wanted, h, hy]
  cases b <;> rfl

/-- The same of a region that is run in the order of its text. -/
theorem wp_region_seq {P : Program} {id : Nat} {ops : Array Oper} {Q : Exit → Act → World → Prop} {a0 : Act} {w : World} (D : Nat → Bool) (R : World → World → Prop) (Rtr : ∀ a b c, R a b → R b c → R a c) (Rrf : R w w)
    (n : Nat) (hn : ops.size = n) (dst : Nat → Nat) (hinj : ∀ k, k < n → ∀ j, j < n → dst j = dst k → j = k)
    (F : Nat → Value → World → Prop) (hst : ∀ k t W W', R W W' → F k t W → F k t W')
    (step : ∀ k o u W, k < n → ops[k]? = some o → R w W → (∀ j, j < k → F j (u (dst j)) W) →
      (Region.wanted o (yielded ops (ovr D a0 u).tmps) = true ∧ o.wp P (ovr D a0 u) W (fun a' W' => ∃ v, a' = ovr D a0 (upd u (dst k) v) ∧ R W W' ∧ F k v W') Q) ∨
      (Region.wanted o (yielded ops (ovr D a0 u).tmps) = false ∧ o.dst = some (dst k) ∧ D (dst k) = true ∧ F k undef W))
    (fin : ∀ u W, R w W → (∀ j, j < n → F j (u (dst j)) W) → Q .normal (ovr D a0 u) W) :
    (Code.region id ops false).wp P Q a0 w := by
  have put : ∀ (k : Nat) (u : Nat → Value) (v : Value) (W W' : World), k < n → (∀ j, j < k → F j (u (dst j)) W) → (∀ j t, F j t W → F j t W') → F k v W' → ∀ j, j < k + 1 → F j (upd u (dst k) v (dst j)) W' := by
    intro k u v W W' hk hF hs hv j hj
    by_cases e : j = k
    · subst e
      simp only [upd, if_true]
      exact hv
    · have : ¬ dst j = dst k := fun e' => e (hinj k hk j (by omega) e')
      simp only [upd, this, if_false]
      exact hs j _ (hF j (by omega))
  have main : ∀ (l : List Oper) (k : Nat) (u : Nat → Value) (W : World), ops.toList.drop k = l → k ≤ n → R w W → (∀ j, j < k → F j (u (dst j)) W) → wpList P ops Q l (ovr D a0 u) W := by
    intro l
    induction l with
    | nil =>
      intro k u W hl hk hR hF
      have : n ≤ k := by
        have := congrArg List.length hl
        simp at this
        omega
      exact fin u W hR fun j hj => hF j (by omega)
    | cons o l ih =>
      intro k u W hl hk hR hF
      have hk' : k < n := by
        have := congrArg List.length hl
        simp at this
        omega
      have ho : ops[k]? = some o := by
        have h0 := congrArg (fun l => l[0]?) hl
        simpa using h0
      have hl' : ops.toList.drop (k + 1) = l := by
        have h0 := congrArg List.tail hl
        simpa using h0
      rcases step k o u W hk' ho hR hF with ⟨hw, h⟩ | ⟨hw, hds, hD, h⟩
      · show if _ then _ else _
        rw [if_pos hw]
        refine .inl (Oper.wp_mono (fun a' W' h' => ?_) h)
        obtain ⟨v, rfl, hR', hv⟩ := h'
        exact ih (k + 1) _ W' hl' hk' (Rtr _ _ _ hR hR') (put k u v W W' hk' hF (fun j t => hst j t W W' hR') hv)
      · show if _ then _ else _
        rw [if_neg (by rw [hw]; simp), hds, ovr_put hD]
        exact ih (k + 1) _ W hl' hk' hR (put k u undef W W hk' hF (fun _ _ h => h) h)
  refine wp_region_list ?_
  have := main ops.toList 0 (fun s => a0.tmps.getD s undef) w (by simp) (Nat.zero_le _) Rrf (fun j hj => by omega)
  rwa [ovr_self] at this
end Go.Proofs.YtcboojhabolcbaaGreatDoor.region
namespace Go.Proofs.YtcboojhabolcbaaGreatDoor.region
open Go Go.RowKit

theorem ovr_congr {D : Nat → Bool} {a0 : Act} {u u' : Nat → Value} (h : ∀ s, D s = true → u s = u' s) : ovr D a0 u = ovr D a0 u' := by
  unfold ovr
  congr 2
  refine List.map_congr_left fun s _ => ?_
  cases e : D s
  · rfl
  · simp [h s e]
theorem put_dummy {D : Nat → Bool} {a0 : Act} {o : Oper} {d : Nat} (ho : o.dst = none) (hd : D d = false) (u : Nat → Value) (v v' : Value) : (ovr D a0 u).put o.dst v' = ovr D a0 (upd u d v) := by
  rw [ho]
  show ovr D a0 u = _
  refine ovr_congr fun s hs => ?_
  unfold upd
  rw [if_neg]
  rintro rfl
  rw [hd] at hs
  cases hs
theorem wp_skipped {P : Program} {o : Oper} {a : Act} {w w' : World} {K : Act → World → Prop} {Q : Exit → Act → World → Prop} (h : (execOp a.eval o).run P w = .ok .skip w') (hk : K (a.put o.dst undef) w') : o.wp P a w K Q := wp_skip' h hk
section
variable {P : Program} {ops : Array Oper} {o : Oper} {D : Nat → Bool} {a0 : Act} {u : Nat → Value} {W : World} {Q : Exit → Act → World → Prop} {R : World → World → Prop} {F : Value → World → Prop} {dk : Nat}
/-- One operation that yields a value and leaves the world as it is. -/
theorem tellV {v : Value} (hg : o.guard = none) (hd : o.dst = some dk) (hD : D dk = true) (hrun : (execOp (ovr D a0 u).eval o).run P W = .ok (.value v) W) (hR : R W W) (hF : F v W) :
    (Region.wanted o (yielded ops (ovr D a0 u).tmps) = true ∧ o.wp P (ovr D a0 u) W (fun a' W' => ∃ v, a' = ovr D a0 (upd u dk v) ∧ R W W' ∧ F v W') Q) ∨ (Region.wanted o (yielded ops (ovr D a0 u).tmps) = false ∧ o.dst = some dk ∧ D dk = true ∧ F undef W) :=
  .inl ⟨wanted_none hg, wp_value hrun ⟨v, put_in hd hD u v, hR, hF⟩⟩
/-- One call. -/
theorem tellC {f : FuncId} {args : Array Value} (hg : o.guard = none) (hd : o.dst = some dk) (hD : D dk = true) (hrun : (execOp (ovr D a0 u).eval o).run P W = .ok (.enter f args) W) (hc : Calls P f args W fun e w' => ∃ v, e = .returned v ∧ R W w' ∧ F v w') :
    (Region.wanted o (yielded ops (ovr D a0 u).tmps) = true ∧ o.wp P (ovr D a0 u) W (fun a' W' => ∃ v, a' = ovr D a0 (upd u dk v) ∧ R W W' ∧ F v W') Q) ∨ (Region.wanted o (yielded ops (ovr D a0 u).tmps) = false ∧ o.dst = some dk ∧ D dk = true ∧ F undef W) :=
  .inl ⟨wanted_none hg, wp_call hrun (hc.mono fun _ _ ⟨v, he, h1, h2⟩ => ⟨v, he, v, put_in hd hD u v, h1, h2⟩)⟩
/-- One store. -/
theorem tellS {W' : World} (hg : o.guard = none) (hd : o.dst = none) (hD : D dk = false) (hrun : (execOp (ovr D a0 u).eval o).run P W = .ok .skip W') (hR : R W W') (hF : F undef W') :
    (Region.wanted o (yielded ops (ovr D a0 u).tmps) = true ∧ o.wp P (ovr D a0 u) W (fun a' W' => ∃ v, a' = ovr D a0 (upd u dk v) ∧ R W W' ∧ F v W') Q) ∨ (Region.wanted o (yielded ops (ovr D a0 u).tmps) = false ∧ o.dst = some dk ∧ D dk = true ∧ F undef W) :=
  .inl ⟨wanted_none hg, wp_skipped hrun ⟨undef, put_dummy hd hD u undef undef, hR, hF⟩⟩
end
section
variable {P : Program} {o : Oper} {D : Nat → Bool} {a0 : Act} {u : Nat → Value} {W : World} {Q : Exit → Act → World → Prop} {F : Value → World → Prop} {dk : Nat}
/-- The same where nothing is changed till the last operation (wp_region_plain): a value, a call, the store. -/
theorem plainV {v : Value} (hd : o.dst = some dk) (hD : D dk = true) (hrun : (execOp (ovr D a0 u).eval o).run P W = .ok (.value v) W) (hF : F v W) :
    o.wp P (ovr D a0 u) W (fun a' W' => ∃ v, a' = ovr D a0 (upd u dk v) ∧ Below W.heap.size W W' ∧ F v W') Q := wp_value hrun ⟨v, put_in hd hD u v, Below.refl _ _, hF⟩
theorem plainC {f : FuncId} {args : Array Value} (hd : o.dst = some dk) (hD : D dk = true) (hrun : (execOp (ovr D a0 u).eval o).run P W = .ok (.enter f args) W) (hc : Calls P f args W fun e w' => ∃ v, e = .returned v ∧ Below W.heap.size W w' ∧ F v w') :
    o.wp P (ovr D a0 u) W (fun a' W' => ∃ v, a' = ovr D a0 (upd u dk v) ∧ Below W.heap.size W W' ∧ F v W') Q := wp_call hrun (hc.mono fun _ _ ⟨v, he, h1, h2⟩ => ⟨v, he, v, put_in hd hD u v, h1, h2⟩)
theorem plainS {W' : World} (hd : o.dst = none) (hrun : (execOp (ovr D a0 u).eval o).run P W = .ok .skip W') (hQ : Q .normal (ovr D a0 u) W') :
    o.wp P (ovr D a0 u) W (fun a' W' => ∃ u', a' = ovr D a0 u' ∧ Q .normal (ovr D a0 u') W') Q := wp_skipped hrun ⟨u, put_no hd u undef, hQ⟩
end
end Go.Proofs.YtcboojhabolcbaaGreatDoor.region
namespace Go.Proofs.YtcboojhabolcbaaGreatDoor.region
open Go

theorem all_listed' {ops : Array Oper} {l : Array Bool} (hacyc : ∀ (k : Nat) (o : Oper), ops[k]? = some o → ∀ e ∈ o.after, Region.binds .any e = true → e.on < k) (hl : l.size = ops.size) (h : Region.ready .any ops l = []) : ∀ k, k < ops.size → l.getD k false = true := by
  intro k
  induction k using Nat.strongRecOn with
  | ind k ih =>
    intro hk
    have hl' : k < l.size := by omega
    cases hv : l.getD k false with
    | true => rfl
    | false =>
      have h1 : l.getD k true = false := by
        simp only [Array.getD, hl', dite_true] at hv ⊢
        exact hv
      have : k ∈ Region.ready .any ops l := mem_ready.2 ⟨h1, ops[k], Array.getElem?_eq_getElem hk, fun e he hb => ih e.on (hacyc k _ (Array.getElem?_eq_getElem hk) e he hb) (by have := hacyc k _ (Array.getElem?_eq_getElem hk) e he hb; omega)⟩
      rw [h] at this
      cases this
theorem wp_region_bind {P : Program} {id : Nat} {ops : Array Oper} {Q : Exit → Act → World → Prop} {a0 : Act} {w : World} (hm : P.follows .mixedOrders = true) (D : Nat → Bool)
    (hg : ∀ o ∈ ops, o.guard = none) (hacyc : ∀ (k : Nat) (o : Oper), ops[k]? = some o → ∀ e ∈ o.after, Region.binds .any e = true → e.on < k)
    (I : Array Bool → (Nat → Value) → World → Prop)
    (start : I (Array.replicate ops.size false) (fun s => a0.tmps.getD s undef) w.drew)
    (fin : ∀ l u w, I l u w → (∀ k, k < ops.size → l.getD k false = true) → Q .normal (ovr D a0 u) w)
    (stp : ∀ l u w k o, I l u w → l.size = ops.size → l.getD k false = false → ops[k]? = some o → (∀ e ∈ o.after, Region.binds .any e = true → l.getD e.on false = true) →
      o.wp P (ovr D a0 u) w (fun a' w' => ∃ u', a' = ovr D a0 u' ∧ I (l.setIfInBounds k true) u' w') Q) : (Code.region id ops true).wp P Q a0 w := by
  refine wp_region_inv hm (fun l a w => l.size = ops.size ∧ ∃ u, a = ovr D a0 u ∧ I l u w) ⟨by simp, _, (ovr_self D a0).symm, start⟩ ?_ ?_
  · rintro l a w ⟨hl, u, rfl, h⟩ hr
    exact fin l u w h (all_listed' hacyc hl hr)
  · rintro l a w i ⟨hl, u, rfl, h⟩ hi
    obtain ⟨h1, o, ho, hd⟩ := mem_ready.1 hi
    have hi' : i < ops.size := (Array.getElem?_eq_some_iff.1 ho).1
    have h1' : l.getD i false = false := by
      have hl' : i < l.size := by omega
      simp only [Array.getD, hl', dite_true] at h1 ⊢
      exact h1
    have hgo := hg o (Array.mem_of_getElem? ho)
    unfold wpOp
    rw [ho]
    simp only
    rw [if_pos (by simp [Region.wanted, hgo])]
    refine .inl (Oper.wp_mono (fun a' w' h' => ?_) (stp l u w i o h hl h1' ho hd))
    obtain ⟨u', e, h'⟩ := h'
    exact ⟨by simpa using hl, u', e, h'⟩
end Go.Proofs.YtcboojhabolcbaaGreatDoor.region
namespace Go.Proofs.YtcboojhabolcbaaGreatDoor.region
open Go Go.RowKit

/-- wp_region_guarded, where just the edges that bind must go back. -/
theorem wp_region_guardedB {P : Program} {id : Nat} {ops : Array Oper} {Q : Exit → Act → World → Prop} {a0 : Act} {w : World} (hm : P.follows .mixedOrders = true) (D : Nat → Bool) (R : World → World → Prop) (Rtr : ∀ a b c, R a b → R b c → R a c) (Rdr : R w w.drew)
    (hacyc : ∀ (k : Nat) (o : Oper), ops[k]? = some o → ∀ e ∈ o.after, Region.binds .any e = true → e.on < k) (n : Nat) (hn : ops.size = n) (dst : Nat → Nat) (hinj : ∀ k, k < n → ∀ j, j < n → dst j = dst k → j = k)
    (F : Nat → Value → World → Prop) (hst : ∀ k t W W', R W W' → F k t W → F k t W')
    (step : ∀ k o u W, k < n → ops[k]? = some o → R w W → (∀ j, j < n → (∃ e ∈ o.after, e.on = j ∧ Region.binds .any e = true) → F j (u (dst j)) W) →
      (Region.wanted o (yielded ops (ovr D a0 u).tmps) = true ∧ o.wp P (ovr D a0 u) W (fun a' W' => ∃ v, a' = ovr D a0 (upd u (dst k) v) ∧ R W W' ∧ F k v W') Q) ∨
      (Region.wanted o (yielded ops (ovr D a0 u).tmps) = false ∧ o.dst = some (dst k) ∧ D (dst k) = true ∧ F k undef W))
    (fin : ∀ u W, R w W → (∀ j, j < n → F j (u (dst j)) W) → Q .normal (ovr D a0 u) W) :
    (Code.region id ops true).wp P Q a0 w := by
  refine wp_region_inv hm (fun l a W => l.size = ops.size ∧ ∃ u, a = ovr D a0 u ∧ R w W ∧ ∀ k, k < n → l.getD k false = true → F k (u (dst k)) W) ⟨by simp, _, (ovr_self D a0).symm, Rdr, fun k hk h => ?_⟩ ?_ ?_
  · simp [Array.getD, hn, hk] at h
  · rintro l a W ⟨hl, u, rfl, hB, hF⟩ hr
    have hA := all_listed' hacyc hl hr
    exact fin u W hB fun j hj => hF j hj (hA j (by omega))
  · rintro l a W i ⟨hl, u, rfl, hB, hF⟩ hi
    obtain ⟨h1, o, ho, hd⟩ := mem_ready.1 hi
    have hi' : i < n := by rw [← hn]; exact (Array.getElem?_eq_some_iff.1 ho).1
    unfold wpOp
    rw [ho]
    simp only
    rcases step i o u W hi' ho hB (fun j hj ⟨e, he, e1, hb⟩ => hF j hj (by rw [← e1]; exact hd e he hb)) with ⟨hw, h⟩ | ⟨hw, hds, hD, h⟩
    · rw [if_pos hw]
      refine .inl (Oper.wp_mono (fun a' W' h' => ?_) h)
      obtain ⟨v, rfl, hR, hv⟩ := h'
      exact ⟨by simpa using hl, _, rfl, Rtr _ _ _ hB hR, facts_put (dst := dst) (hinj i hi') hF (fun j _ _ _ t => hst j t W W' hR) hv⟩
    · rw [if_neg (by rw [hw]; simp)]
      refine ⟨by simpa using hl, upd u (dst i) undef, ?_, hB, facts_put (dst := dst) (hinj i hi') hF (fun j _ _ _ t ht => ht) h⟩
      rw [hds]
      exact ovr_put hD
theorem wanted_yes {ops : Array Oper} {o og : Oper} {D : Nat → Bool} {a0 : Act} {u : Nat → Value} {g d : Nat} {b : Bool} (h : o.guard = some (g, b)) (hg : ops[g]? = some og) (hd : og.dst = some d) (hD : D d = true) (hs : d < a0.tmps.size) (hu : u d = .bool b) : Region.wanted o (yielded ops (ovr D a0 u).tmps) = true := by rw [wanted_some h hg hd hD hs hu]; simp
theorem wanted_not {ops : Array Oper} {o og : Oper} {D : Nat → Bool} {a0 : Act} {u : Nat → Value} {g d : Nat} {b : Bool} (h : o.guard = some (g, b)) (hg : ops[g]? = some og) (hd : og.dst = some d) (hD : D d = true) (hs : d < a0.tmps.size) (hu : u d = .bool (!b)) : Region.wanted o (yielded ops (ovr D a0 u).tmps) = false := by rw [wanted_some h hg hd hD hs hu]; cases b <;> rfl
section
variable {P : Program} {ops : Array Oper} {o : Oper} {D : Nat → Bool} {a0 : Act} {u : Nat → Value} {W : World} {Q : Exit → Act → World → Prop} {R : World → World → Prop} {F : Value → World → Prop} {dk : Nat}
theorem tellVw {v : Value} (hw : Region.wanted o (yielded ops (ovr D a0 u).tmps) = true) (hd : o.dst = some dk) (hD : D dk = true) (hrun : (execOp (ovr D a0 u).eval o).run P W = .ok (.value v) W) (hR : R W W) (hF : F v W) :
    (Region.wanted o (yielded ops (ovr D a0 u).tmps) = true ∧ o.wp P (ovr D a0 u) W (fun a' W' => ∃ v, a' = ovr D a0 (upd u dk v) ∧ R W W' ∧ F v W') Q) ∨ (Region.wanted o (yielded ops (ovr D a0 u).tmps) = false ∧ o.dst = some dk ∧ D dk = true ∧ F undef W) :=
  .inl ⟨hw, wp_value hrun ⟨v, put_in hd hD u v, hR, hF⟩⟩
theorem tellCw {f : FuncId} {args : Array Value} (hw : Region.wanted o (yielded ops (ovr D a0 u).tmps) = true) (hd : o.dst = some dk) (hD : D dk = true) (hrun : (execOp (ovr D a0 u).eval o).run P W = .ok (.enter f args) W) (hc : Calls P f args W fun e w' => ∃ v, e = .returned v ∧ R W w' ∧ F v w') :
    (Region.wanted o (yielded ops (ovr D a0 u).tmps) = true ∧ o.wp P (ovr D a0 u) W (fun a' W' => ∃ v, a' = ovr D a0 (upd u dk v) ∧ R W W' ∧ F v W') Q) ∨ (Region.wanted o (yielded ops (ovr D a0 u).tmps) = false ∧ o.dst = some dk ∧ D dk = true ∧ F undef W) :=
  .inl ⟨hw, wp_call hrun (hc.mono fun _ _ ⟨v, he, h1, h2⟩ => ⟨v, he, v, put_in hd hD u v, h1, h2⟩)⟩
theorem tellN (hw : Region.wanted o (yielded ops (ovr D a0 u).tmps) = false) (hd : o.dst = some dk) (hD : D dk = true) (hF : F undef W) :
    (Region.wanted o (yielded ops (ovr D a0 u).tmps) = true ∧ o.wp P (ovr D a0 u) W (fun a' W' => ∃ v, a' = ovr D a0 (upd u dk v) ∧ R W W' ∧ F v W') Q) ∨ (Region.wanted o (yielded ops (ovr D a0 u).tmps) = false ∧ o.dst = some dk ∧ D dk = true ∧ F undef W) :=
  .inr ⟨hw, hd, hD, hF⟩
end
end Go.Proofs.YtcboojhabolcbaaGreatDoor.region
