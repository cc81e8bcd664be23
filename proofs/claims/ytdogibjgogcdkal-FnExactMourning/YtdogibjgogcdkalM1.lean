/-
  A region that draws its order, by an invariant of what has come up, of the frame and of the world: each operation that may come up keeps it, in whatever order; no branching. A region that draws its order, by facts: what is known of the slot of each operation that has come up, and of the world. A drawn region's operations, handed in by their numbers. A drawn region whose last operation waits for all others: by one fact a slot, each of which stays where the world only grows. A drawn region whose last operation waits for all others, by one fact a slot, under a relation between worlds of one's own. Chapter 7 as the program has it: how two that grieve are held against each other, the drawn region by facts. Chapter 7 as the program has it: the closure by which those that grieve are put in order. Chapter 7 as the program has it: those that grieve are put in order (slices.SortFunc). Chapter 7 as lists: who grieves, in order.
-/
import Derived.Test.YtdogibjgogcdkalProg
import Derived.Orders
import Derived.Deep.Quiet
import Derived.Below
import Derived.Test.YtdogibjgogcdkalReachI6
import Derived.Deep.RegionLaw
import Derived.BigRegion
import Derived.Deep.Cut
import Derived.Deep.CutRange
import Derived.Sort.OwnSortedInts
import Derived.Test.YtdogibjgogcdkalReachD
namespace Go.Proofs.Ytdogibjgogcdkal.region
open Go

theorem count_set (l : Array Bool) (i : Nat) (h : l.getD i true = false) : (l.setIfInBounds i true).toList.count false + 1 = l.toList.count false := by
  have hi : i < l.size := by
    rcases Nat.lt_or_ge i l.size with h' | h'
    · exact h'
    · simp [Array.getD, Nat.not_lt.2 h'] at h
  have he : l.toList[i]'(by simpa using hi) = false := by
    simpa [Array.getD, hi] using h
  rw [Array.toList_setIfInBounds, List.count_set (by simpa using hi)]
  have hc : 0 < l.toList.count false := List.count_pos_iff.2 (by rw [← he]; exact List.getElem_mem _)
  simp [he]
  have hc' : 0 < l.count false := by simpa using hc
  omega

theorem wpAny_inv {P : Program} {md : Region.Mode} {ops : Array Oper} {Q : Exit → Act → World → Prop} (I : Array Bool → Act → World → Prop)
    (fin : ∀ l a w, I l a w → Region.ready md ops l = [] → Q .normal a w)
    (stp : ∀ l a w i, I l a w → i ∈ Region.ready md ops l → wpOp P ops Q i (I (l.setIfInBounds i true)) a w) :
    ∀ (fuel : Nat) (l : Array Bool) (a : Act) (w : World), l.toList.count false ≤ fuel → I l a w → wpAny P md ops Q fuel l a w
  | 0, l, a, w, hc, h => by
    have e : Region.ready md ops l = [] := by
      rw [List.eq_nil_iff_forall_not_mem]
      intro i hi
      have := count_set l i (mem_ready.1 hi).1
      omega
    exact ⟨e, fin l a w h e⟩
  | fuel + 1, l, a, w, hc, h => by
    refine ⟨fun e => fin l a w h e, fun i hi => wpOp_mono (fun a' w' h' => ?_) (stp l a w i h hi)⟩
    have := count_set l i (mem_ready.1 hi).1
    exact wpAny_inv I fin stp fuel _ a' w' (by omega) h'

theorem wp_region_inv {P : Program} {id : Nat} {ops : Array Oper} {Q : Exit → Act → World → Prop} {a : Act} {w : World} (hm : P.follows .mixedOrders = true) (I : Array Bool → Act → World → Prop)
    (start : I (Array.replicate ops.size false) a w.drew)
    (fin : ∀ l a w, I l a w → Region.ready .any ops l = [] → Q .normal a w)
    (stp : ∀ l a w i, I l a w → i ∈ Region.ready .any ops l → wpOp P ops Q i (I (l.setIfInBounds i true)) a w) : (Code.region id ops true).wp P Q a w :=
  wp_region_any hm (wpAny_inv I fin stp _ _ _ _ (by simp) start)
end Go.Proofs.Ytdogibjgogcdkal.region
namespace Go.Proofs.Ytdogibjgogcdkal.region
open Go

/-- The frame a0 with other values in the slots of D. -/
def ovr (D : Nat → Bool) (a0 : Act) (u : Nat → Value) : Act := { a0 with tmps := ((List.range a0.tmps.size).map fun s => if D s then u s else a0.tmps.getD s undef).toArray }
def upd (u : Nat → Value) (d : Nat) (v : Value) : Nat → Value := fun s => if s = d then v else u s

theorem getD_at (t : Array Value) (s : Nat) : t.getD s undef = t[s]?.getD undef := by
  rw [Array.getD_eq_getD_getElem?]
theorem ovr_at (D : Nat → Bool) (a0 : Act) (u : Nat → Value) (s : Nat) (hs : s < a0.tmps.size) : (ovr D a0 u).tmps[s]? = some (if D s then u s else a0.tmps.getD s undef) := by
  simp [ovr, hs]
theorem ovr_size (D : Nat → Bool) (a0 : Act) (u : Nat → Value) : (ovr D a0 u).tmps.size = a0.tmps.size := by simp [ovr]
theorem ovr_self (D : Nat → Bool) (a0 : Act) : ovr D a0 (fun s => a0.tmps.getD s undef) = a0 := by
  cases a0 with
  | mk tmps defers =>
    unfold ovr
    congr 1
    apply Array.ext_getElem?
    intro s
    rcases Nat.lt_or_ge s tmps.size with h | h
    · simp [h]
    · simp [h]
theorem ovr_put {D : Nat → Bool} {a0 : Act} {u : Nat → Value} {d : Nat} {v : Value} (hd : D d = true) : (ovr D a0 u).put (some d) v = ovr D a0 (upd u d v) := by
  have e : ((ovr D a0 u).put (some d) v).tmps = (ovr D a0 (upd u d v)).tmps := by
    show (ovr D a0 u).tmps.setIfInBounds d v = _
    apply Array.ext_getElem?
    intro s
    rcases Nat.lt_or_ge s a0.tmps.size with h | h
    · rw [ovr_at D a0 _ s h, Array.getElem?_setIfInBounds]
      by_cases hs : d = s
      · subst hs
        rw [if_pos rfl, ovr_size, if_pos h, if_pos hd]
        simp [upd]
      · rw [if_neg hs, ovr_at D a0 _ s h]
        have : ¬ s = d := fun e => hs e.symm
        simp [upd, this]
    · rw [Array.getElem?_eq_none (by simpa [ovr_size] using h), Array.getElem?_eq_none (by simpa [ovr_size] using h)]
  have e' : ((ovr D a0 u).put (some d) v).defers = (ovr D a0 (upd u d v)).defers := rfl
  cases h1 : (ovr D a0 u).put (some d) v
  cases h2 : ovr D a0 (upd u d v)
  rw [h1, h2] at e e'
  simp only at e e'
  rw [e, e']

theorem all_listed {ops : Array Oper} {l : Array Bool} (hacyc : ∀ (k : Nat) (o : Oper), ops[k]? = some o → ∀ e ∈ o.after, e.on < k) (hl : l.size = ops.size) (h : Region.ready .any ops l = []) : ∀ k, k < ops.size → l.getD k false = true := by
  intro k
  induction k using Nat.strongRecOn with
  | ind k ih =>
    intro hk
    have hl' : k < l.size := by omega
    cases hv : l.getD k false with
    | true => rfl
    | false =>
      have h1 : l.getD k true = false := by
        simp only [Array.getD, hl', dite_true] at hv ⊢
        exact hv
      have : k ∈ Region.ready .any ops l := mem_ready.2 ⟨h1, ops[k], Array.getElem?_eq_getElem hk, fun e he _ => ih e.on (hacyc k _ (Array.getElem?_eq_getElem hk) e he) (by have := hacyc k _ (Array.getElem?_eq_getElem hk) e he; omega)⟩
      rw [h] at this
      cases this

theorem wp_region_facts {P : Program} {id : Nat} {ops : Array Oper} {Q : Exit → Act → World → Prop} {a0 : Act} {w : World} (hm : P.follows .mixedOrders = true) (D : Nat → Bool)
    (hg : ∀ o ∈ ops, o.guard = none) (hacyc : ∀ (k : Nat) (o : Oper), ops[k]? = some o → ∀ e ∈ o.after, e.on < k)
    (I : Array Bool → (Nat → Value) → World → Prop)
    (start : I (Array.replicate ops.size false) (fun s => a0.tmps.getD s undef) w.drew)
    (fin : ∀ l u w, I l u w → (∀ k, k < ops.size → l.getD k false = true) → Q .normal (ovr D a0 u) w)
    (stp : ∀ l u w k o, I l u w → l.size = ops.size → l.getD k false = false → ops[k]? = some o → (∀ e ∈ o.after, Region.binds .any e = true → l.getD e.on false = true) →
      o.wp P (ovr D a0 u) w (fun a' w' => ∃ u', a' = ovr D a0 u' ∧ I (l.setIfInBounds k true) u' w') Q) : (Code.region id ops true).wp P Q a0 w := by
  refine wp_region_inv hm (fun l a w => l.size = ops.size ∧ ∃ u, a = ovr D a0 u ∧ I l u w) ⟨by simp, _, (ovr_self D a0).symm, start⟩ ?_ ?_
  · rintro l a w ⟨hl, u, rfl, h⟩ hr
    exact fin l u w h (all_listed hacyc hl hr)
  · rintro l a w i ⟨hl, u, rfl, h⟩ hi
    obtain ⟨h1, o, ho, hd⟩ := mem_ready.1 hi
    have hi' : i < ops.size := (Array.getElem?_eq_some_iff.1 ho).1
    have h1' : l.getD i false = false := by
      have hl' : i < l.size := by omega
      simp only [Array.getD, hl', dite_true] at h1 ⊢
      exact h1
    have hgo := hg o (Array.mem_of_getElem? ho)
    unfold wpOp
    rw [ho]
    simp only
    rw [if_pos (by simp [Region.wanted, hgo])]
    refine .inl (Oper.wp_mono (fun a' w' h' => ?_) (stp l u w i o h hl h1' ho hd))
    obtain ⟨u', e, h'⟩ := h'
    exact ⟨by simpa using hl, u', e, h'⟩

theorem getD_other (l : Array Bool) {k j : Nat} (h : ¬ k = j) : (l.setIfInBounds k true).getD j false = l.getD j false := by
  rw [Array.getD_eq_getD_getElem?, Array.getElem?_setIfInBounds, if_neg h, Array.getD_eq_getD_getElem?]

/-- What is known of the slots stays known where one more is known. -/
theorem facts_put {n : Nat} {F : Nat → Value → World → Prop} {dst : Nat → Nat} {l : Array Bool} {u : Nat → Value} {w w' : World} {k : Nat} {v : Value} (hi : ∀ j, j < n → dst j = dst k → j = k)
    (H : ∀ j, j < n → l.getD j false = true → F j (u (dst j)) w) (hs : ∀ j, j < n → j ≠ k → l.getD j false = true → ∀ t, F j t w → F j t w') (hv : F k v w') :
    ∀ j, j < n → (l.setIfInBounds k true).getD j false = true → F j (upd u (dst k) v (dst j)) w' := by
  intro j hj hlj
  by_cases e : j = k
  · subst e
    simp only [upd, if_true]
    exact hv
  · have : ¬ dst j = dst k := fun e' => e (hi j hj e')
    simp only [upd, this, if_false]
    have hlj' : l.getD j false = true := by rwa [getD_other l (Ne.symm e)] at hlj
    exact hs j hj e hlj' _ (H j hj hlj')
theorem listed_put {l : Array Bool} {k j : Nat} (hl : k < l.size) (h : (l.setIfInBounds k true).getD j false = false) : l.getD j false = false := by
  by_cases e : k = j
  · subst e
    simp [Array.getD, hl] at h
  · rwa [getD_other l e] at h
theorem listed_ne {l : Array Bool} {k : Nat} (hk : k < l.size) : (l.setIfInBounds k true).getD k false = true := by
  simp [Array.getD, hk]
end Go.Proofs.Ytdogibjgogcdkal.region
namespace Go.Proofs.Ytdogibjgogcdkal.region
open Go

/-- The operation k of a region: its slot, what it is, what it waits for. -/
def Has (ops : Array Oper) (k : Nat) (d : Option Nat) (op : Op) (deps : List Nat) : Prop := ∃ o, ops[k]? = some o ∧ o.dst = d ∧ o.op = op ∧ ∀ j ∈ deps, ∃ e ∈ o.after, e.on = j ∧ Region.binds .any e = true
theorem has_at {ops : Array Oper} {k : Nat} {d : Option Nat} {op : Op} {deps : List Nat} (h : Has ops k d op deps) {o : Oper} (ho : ops[k]? = some o) {l : Array Bool} (hd : ∀ e ∈ o.after, Region.binds .any e = true → l.getD e.on false = true) : o.dst = d ∧ o.op = op ∧ ∀ j ∈ deps, l.getD j false = true := by
  obtain ⟨o', ho', h1, h2, h3⟩ := h
  rw [ho] at ho'
  injection ho' with ho'
  subst ho'
  refine ⟨h1, h2, fun j hj => ?_⟩
  obtain ⟨e, he, rfl, hb⟩ := h3 j hj
  exact hd e he hb
theorem wp_value {P : Program} {o : Oper} {a : Act} {w w' : World} {K : Act → World → Prop} {Q : Exit → Act → World → Prop} {v : Value} (h : (execOp a.eval o).run P w = .ok (.value v) w') (hk : K (a.put o.dst v) w') : o.wp P a w K Q := by
  unfold Oper.wp
  rw [h]
  exact hk
theorem wp_call {P : Program} {o : Oper} {a : Act} {w : World} {K : Act → World → Prop} {Q : Exit → Act → World → Prop} {f : FuncId} {args : Array Value} (h : (execOp a.eval o).run P w = .ok (.enter f args) w) (hk : Calls P f args w fun e w' => ∃ v, e = .returned v ∧ K (a.put o.dst v) w') : o.wp P a w K Q := by
  unfold Oper.wp
  rw [h, Oper.upon_enter]
  refine hk.mono ?_
  rintro e w' ⟨v, rfl, h⟩
  exact h
theorem eval_in {D : Nat → Bool} {a0 : Act} {u : Nat → Value} {s : Nat} (hd : D s = true) (hs : s < a0.tmps.size) : (ovr D a0 u).eval (.tmp s) = u s := by
  show (ovr D a0 u).tmps.getD s undef = _
  rw [getD_at, ovr_at D a0 u s hs, hd]
  rfl
theorem eval_out {D : Nat → Bool} {a0 : Act} {u : Nat → Value} {s : Nat} (hd : D s = false) (hs : s < a0.tmps.size) : (ovr D a0 u).eval (.tmp s) = a0.tmps.getD s undef := by
  show (ovr D a0 u).tmps.getD s undef = _
  rw [getD_at, ovr_at D a0 u s hs, hd]
  rfl
theorem put_in {D : Nat → Bool} {a0 : Act} {o : Oper} {d : Nat} (ho : o.dst = some d) (hd : D d = true) (u : Nat → Value) (v : Value) : (ovr D a0 u).put o.dst v = ovr D a0 (upd u d v) := by
  rw [ho]
  exact ovr_put hd
theorem put_no {D : Nat → Bool} {a0 : Act} {o : Oper} (ho : o.dst = none) (u : Nat → Value) (v : Value) : (ovr D a0 u).put o.dst v = ovr D a0 u := by
  rw [ho]
  rfl
end Go.Proofs.Ytdogibjgogcdkal.region
namespace Go.Proofs.Ytdogibjgogcdkal.region
open Go Go.RowKit

theorem wp_region_plain {P : Program} {id : Nat} {ops : Array Oper} {Q : Exit → Act → World → Prop} {a0 : Act} {w : World} (hm : P.follows .mixedOrders = true) (D : Nat → Bool)
    (hg : ∀ o ∈ ops, o.guard = none) (hacyc : ∀ (k : Nat) (o : Oper), ops[k]? = some o → ∀ e ∈ o.after, e.on < k) (n : Nat) (hn : ops.size = n + 1) (dst : Nat → Nat) (hinj : ∀ k, k < n → ∀ j, j < n → dst j = dst k → j = k)
    (F : Nat → Value → World → Prop) (hst : ∀ k t W W', Below W.heap.size W W' → F k t W → F k t W')
    (hall : ∀ o, ops[n]? = some o → ∀ j, j < n → ∃ e ∈ o.after, e.on = j ∧ Region.binds .any e = true)
    (step : ∀ k o u W, k < n → ops[k]? = some o → Below w.heap.size w W → (∀ j, j < n → (∃ e ∈ o.after, e.on = j ∧ Region.binds .any e = true) → F j (u (dst j)) W) → o.wp P (ovr D a0 u) W (fun a' W' => ∃ v, a' = ovr D a0 (upd u (dst k) v) ∧ Below W.heap.size W W' ∧ F k v W') Q)
    (last : ∀ o u W, ops[n]? = some o → Below w.heap.size w W → (∀ j, j < n → F j (u (dst j)) W) → o.wp P (ovr D a0 u) W (fun a' W' => ∃ u', a' = ovr D a0 u' ∧ Q .normal (ovr D a0 u') W') Q) :
    (Code.region id ops true).wp P Q a0 w := by
  refine wp_region_facts hm D hg hacyc (fun l u W => (l.getD n false = false ∧ Below w.heap.size w W ∧ ∀ k, k < n → l.getD k false = true → F k (u (dst k)) W) ∨ ((∀ k, k < n + 1 → l.getD k false = true) ∧ Q .normal (ovr D a0 u) W)) (.inl ⟨?_, (Below.refl _ w).drew, fun k hk h => ?_⟩) ?_ ?_
  · simp [Array.getD, hn]
  · simp [Array.getD, hn, show k < n + 1 by omega] at h
  · rintro l u W (⟨h1, _⟩ | ⟨_, h⟩) hA
    · rw [hA n (by omega)] at h1
      cases h1
    · exact h
  · rintro l u W k o (⟨h1, hB, hF⟩ | ⟨hA, _⟩) hl hlk ho hd
    case inr =>
      have hk : k < n + 1 := by rw [← hn]; exact (Array.getElem?_eq_some_iff.1 ho).1
      rw [hA k hk] at hlk
      cases hlk
    have hk : k < n + 1 := by rw [← hn]; exact (Array.getElem?_eq_some_iff.1 ho).1
    by_cases e : k = n
    · subst e
      have hA : ∀ j, j < k → l.getD j false = true := fun j hj => by
        obtain ⟨e, he, rfl, hb⟩ := hall o ho j hj
        exact hd e he hb
      refine Oper.wp_mono ?_ (last o u W ho hB (fun j hj => hF j hj (hA j hj)))
      rintro a' W' ⟨u', rfl, h⟩
      refine ⟨u', rfl, .inr ⟨fun j hj => ?_, h⟩⟩
      by_cases e : j = k
      · subst e; exact listed_ne (by omega)
      · rw [getD_other l (Ne.symm e)]; exact hA j (by omega)
    · have hk' : k < n := by omega
      refine Oper.wp_mono ?_ (step k o u W hk' ho hB (fun j hj ⟨e, he, e1, hb⟩ => hF j hj (by rw [← e1]; exact hd e he hb)))
      rintro a' W' ⟨v, rfl, hb, hv⟩
      refine ⟨_, rfl, .inl ⟨?_, hB.trans (hb.mono hB.size), ?_⟩⟩
      · rw [getD_other l e]; exact h1
      · exact facts_put (dst := dst) (hinj k hk') hF (fun j _ _ _ t => hst j t W W' hb) hv
/-- The operation k as it is handed in. -/
theorem has_plain {ops : Array Oper} {k : Nat} {d : Option Nat} {op : Op} {deps : List Nat} (h : Has ops k d op deps) {o : Oper} (ho : ops[k]? = some o) : o.dst = d ∧ o.op = op ∧ ∀ j ∈ deps, ∃ e ∈ o.after, e.on = j ∧ Region.binds .any e = true := by
  obtain ⟨o', ho', h1, h2, h3⟩ := h
  rw [ho] at ho'
  injection ho' with ho'
  subst ho'
  exact ⟨h1, h2, h3⟩
theorem wp_skip' {P : Program} {o : Oper} {a : Act} {w w' : World} {K : Act → World → Prop} {Q : Exit → Act → World → Prop} (h : (execOp a.eval o).run P w = .ok .skip w') (hk : K (a.put o.dst undef) w') : o.wp P a w K Q := by
  unfold Oper.wp
  rw [h]
  exact hk
end Go.Proofs.Ytdogibjgogcdkal.region
namespace Go.Proofs.Ytdogibjgogcdkal.region
open Go Go.RowKit

theorem wp_region_rel {P : Program} {id : Nat} {ops : Array Oper} {Q : Exit → Act → World → Prop} {a0 : Act} {w : World} (hm : P.follows .mixedOrders = true) (D : Nat → Bool) (R : World → World → Prop) (Rtr : ∀ a b c, R a b → R b c → R a c) (Rdr : R w w.drew)
    (hg : ∀ o ∈ ops, o.guard = none) (hacyc : ∀ (k : Nat) (o : Oper), ops[k]? = some o → ∀ e ∈ o.after, e.on < k) (n : Nat) (hn : ops.size = n + 1) (dst : Nat → Nat) (hinj : ∀ k, k < n → ∀ j, j < n → dst j = dst k → j = k)
    (F : Nat → Value → World → Prop) (hst : ∀ k t W W', R W W' → F k t W → F k t W')
    (hall : ∀ o, ops[n]? = some o → ∀ j, j < n → ∃ e ∈ o.after, e.on = j ∧ Region.binds .any e = true)
    (step : ∀ k o u W, k < n → ops[k]? = some o → R w W → (∀ j, j < n → (∃ e ∈ o.after, e.on = j ∧ Region.binds .any e = true) → F j (u (dst j)) W) → o.wp P (ovr D a0 u) W (fun a' W' => ∃ v, a' = ovr D a0 (upd u (dst k) v) ∧ R W W' ∧ F k v W') Q)
    (last : ∀ o u W, ops[n]? = some o → R w W → (∀ j, j < n → F j (u (dst j)) W) → o.wp P (ovr D a0 u) W (fun a' W' => ∃ u', a' = ovr D a0 u' ∧ Q .normal (ovr D a0 u') W') Q) :
    (Code.region id ops true).wp P Q a0 w := by
  refine wp_region_facts hm D hg hacyc (fun l u W => (l.getD n false = false ∧ R w W ∧ ∀ k, k < n → l.getD k false = true → F k (u (dst k)) W) ∨ ((∀ k, k < n + 1 → l.getD k false = true) ∧ Q .normal (ovr D a0 u) W)) (.inl ⟨?_, Rdr, fun k hk h => ?_⟩) ?_ ?_
  · simp [Array.getD, hn]
  · simp [Array.getD, hn, show k < n + 1 by omega] at h
  · rintro l u W (⟨h1, _⟩ | ⟨_, h⟩) hA
    · rw [hA n (by omega)] at h1
      cases h1
    · exact h
  · rintro l u W k o (⟨h1, hB, hF⟩ | ⟨hA, _⟩) hl hlk ho hd
    case inr =>
      have hk : k < n + 1 := by rw [← hn]; exact (Array.getElem?_eq_some_iff.1 ho).1
      rw [hA k hk] at hlk
      cases hlk
    have hk : k < n + 1 := by rw [← hn]; exact (Array.getElem?_eq_some_iff.1 ho).1
    by_cases e : k = n
    · subst e
      have hA : ∀ j, j < k → l.getD j false = true := fun j hj => by
        obtain ⟨e, he, rfl, hb⟩ := hall o ho j hj
        exact hd e he hb
      refine Oper.wp_mono ?_ (last o u W ho hB (fun j hj => hF j hj (hA j hj)))
      rintro a' W' ⟨u', rfl, h⟩
      refine ⟨u', rfl, .inr ⟨fun j hj => ?_, h⟩⟩
      by_cases e : j = k
      · subst e; exact listed_ne (by omega)
      · rw [getD_other l (Ne.symm e)]; exact hA j (by omega)
    · have hk' : k < n := by omega
      refine Oper.wp_mono ?_ (step k o u W hk' ho hB (fun j hj ⟨e, he, e1, hb⟩ => hF j hj (by rw [← e1]; exact hd e he hb)))
      rintro a' W' ⟨v, rfl, hb, hv⟩
      refine ⟨_, rfl, .inl ⟨?_, Rtr _ _ _ hB hb, ?_⟩⟩
      · rw [getD_other l e]; exact h1
      · exact facts_put (dst := dst) (hinj k hk') hF (fun j _ _ _ t => hst j t W W' hb) hv
end Go.Proofs.Ytdogibjgogcdkal.region
namespace Go.Proofs.Ytdogibjgogcdkal.gr
open Go.RowKit rows heads region
set_option maxRecDepth 100000
set_option linter.unusedVariables false
set_option linter.unusedSimpArgs false

theorem ri_ld (b k : Nat) (w : World) {x : Int} (h : w.cell? ⟨b, k, none⟩ = some (.int .i64 x)) : (Instr.loadAt 2 (.pointer (some ⟨b, k, none⟩))).run Try.prog w = .ok (.int .i64 x) w := by
  go_simp
theorem ri_f3 (b : Nat) (w : World) : (Instr.fieldAt 51 (.pointer (some ⟨b, 0, none⟩)) 3).run Try.prog w = .ok (.pointer (some ⟨b, 3, none⟩)) w := by
  go_simp
theorem ri_f0 (b : Nat) (w : World) : (Instr.fieldAt 51 (.pointer (some ⟨b, 0, none⟩)) 0).run Try.prog w = .ok (.pointer (some ⟨b, 0, none⟩)) w := by
  go_simp
theorem ri_two (u v : Int) (w : World) : (Instr.buildSlice 56 2 #[(0, .int .i64 u), (1, .int .i64 v)]).run Try.prog w = .ok (.slice (some ⟨w.heap.size, 0, none⟩) 2 2) (w.alloc (.cells #[.int .i64 u, .int .i64 v] 3)) := by
  go_simp
/-- It only grew, and drew no less. -/
def GrowR (W W' : World) : Prop := Below W.heap.size W W' ∧ W.drawn ≤ W'.drawn
theorem growR_refl (W : World) : GrowR W W := ⟨Below.refl _ _, Nat.le_refl _⟩
theorem growR_trans (a b c : World) (h : GrowR a b) (k : GrowR b c) : GrowR a c := ⟨h.1.trans (k.1.mono h.1.size), Nat.le_trans h.2 k.2⟩
def dstC (k : Nat) : Nat := 18 + k
def DC (s : Nat) : Bool := s == 5 || (decide (18 ≤ s) && decide (s ≤ 29))
def FC (B1 B2 : Nat) (xh yh xi yi : Int) (k : Nat) (t : Value) (w : World) : Prop :=
  match k with
  | 0 => t = .pointer (some ⟨B1, 3, none⟩)
  | 1 => t = .int .i64 xh
  | 2 => t = .pointer (some ⟨B2, 3, none⟩)
  | 3 => t = .int .i64 yh
  | 4 => t = .int .i64 (cmpI xh yh)
  | 5 => t = .pointer (some ⟨B1, 0, none⟩)
  | 6 => t = .int .i64 xi
  | 7 => t = .pointer (some ⟨B2, 0, none⟩)
  | 8 => t = .int .i64 yi
  | 9 => t = .int .i64 (cmpI xi yi)
  | 10 => ∃ b, t = .slice (some ⟨b, 0, none⟩) 2 2 ∧ w.heap[b]? = some (.cells #[.int .i64 (cmpI xh yh), .int .i64 (cmpI xi yi)] 3 (0, 0))
  | 11 => t = .int .i64 (orI (cmpI xh yh) (cmpI xi yi))
  | _ => False
theorem FC_st {B1 B2 : Nat} {xh yh xi yi : Int} (k : Nat) (t : Value) (W W' : World) (hb : GrowR W W') (h : FC B1 B2 xh yh xi yi k t W) : FC B1 B2 xh yh xi yi k t W' := by
  match k, h with
  | 0, h => exact h
  | 1, h => exact h
  | 2, h => exact h
  | 3, h => exact h
  | 4, h => exact h
  | 5, h => exact h
  | 6, h => exact h
  | 7, h => exact h
  | 8, h => exact h
  | 9, h => exact h
  | 10, ⟨b, h1, h2⟩ => exact ⟨b, h1, (hb.1.block b (lt_of_block h2)).trans h2⟩
  | 11, h => exact h
  | _ + 12, h => exact h.elim

set_option maxHeartbeats 4000000 in
theorem regC2 {id : Nat} {ops : Array Oper} {a0 : Act} {Q : Exit → Act → World → Prop} {w : World} {B1 B2 : Nat} {xh yh xi yi : Int} (hg : ∀ o ∈ ops, o.guard = none) (hacyc : ∀ (k : Nat) (o : Oper), ops[k]? = some o → ∀ e ∈ o.after, e.on < k) (hn : ops.size = 13)
    (h0 : Has ops 0 (some 18) (.fieldAddr 51 (.tmp 6) 3) [])
    (h1 : Has ops 1 (some 19) (.load 2 (.tmp 18)) [0])
    (h2 : Has ops 2 (some 20) (.fieldAddr 51 (.tmp 7) 3) [])
    (h3 : Has ops 3 (some 21) (.load 2 (.tmp 20)) [2])
    (h4 : Has ops 4 (some 22) (.call { callee := .value (.func 78), args := #[.tmp 19, .tmp 21], argTypes := #[2, 2] }) [1, 3])
    (h5 : Has ops 5 (some 23) (.fieldAddr 51 (.tmp 6) 0) [])
    (h6 : Has ops 6 (some 24) (.load 2 (.tmp 23)) [5])
    (h7 : Has ops 7 (some 25) (.fieldAddr 51 (.tmp 7) 0) [])
    (h8 : Has ops 8 (some 26) (.load 2 (.tmp 25)) [7])
    (h9 : Has ops 9 (some 27) (.call { callee := .value (.func 78), args := #[.tmp 24, .tmp 26], argTypes := #[2, 2] }) [6, 8])
    (h10 : Has ops 10 (some 28) (.buildSlice 56 2 #[(0, .tmp 22), (1, .tmp 27)]) [4, 9])
    (h11 : Has ops 11 (some 29) (.call { callee := .value (.func 77), args := #[.tmp 28], argTypes := #[56] }) [10])
    (h12 : Has ops 12 (some 5) (.assign (.tmp 29)) [0, 1, 2, 3, 4, 5, 6, 7, 8, 9, 10, 11])
    (sz : 29 < a0.tmps.size) (e6 : a0.tmps.getD 6 undef = .pointer (some ⟨B1, 0, none⟩)) (e7 : a0.tmps.getD 7 undef = .pointer (some ⟨B2, 0, none⟩))
    (l1 : B1 < w.heap.size) (l2 : B2 < w.heap.size) (n1 : w.cell? ⟨B1, 3, none⟩ = some (.int .i64 xh)) (n2 : w.cell? ⟨B2, 3, none⟩ = some (.int .i64 yh)) (n3 : w.cell? ⟨B1, 0, none⟩ = some (.int .i64 xi)) (n4 : w.cell? ⟨B2, 0, none⟩ = some (.int .i64 yi))
    (fin : ∀ u w', u 5 = .int .i64 (orI (cmpI xh yh) (cmpI xi yi)) → GrowR w w' → Q .normal (ovr DC a0 u) w') :
    (Code.region id ops true).wp Try.prog Q a0 w := by
  refine wp_region_rel (by kernel_rfl) DC GrowR growR_trans ⟨(Below.refl _ _).drew, Nat.le_succ _⟩ hg hacyc 12 hn dstC (fun k hk j hj e => by unfold dstC at e; omega) (FC B1 B2 xh yh xi yi) FC_st ?_ ?_ ?_
  · intro o ho j hj
    obtain ⟨_, _, dep⟩ := has_plain h12 ho
    exact dep j (by rcases (show j = 0 ∨ j = 1 ∨ j = 2 ∨ j = 3 ∨ j = 4 ∨ j = 5 ∨ j = 6 ∨ j = 7 ∨ j = 8 ∨ j = 9 ∨ j = 10 ∨ j = 11 by omega) with rfl | rfl | rfl | rfl | rfl | rfl | rfl | rfl | rfl | rfl | rfl | rfl <;> decide)
  · intro k o u W hk ho hB hF
    have ev : ∀ s, DC s = true → s < 30 → (ovr DC a0 u).eval (.tmp s) = u s := fun s h1 h2 => eval_in h1 (by omega)
    have x6 := (eval_out (D := DC) (a0 := a0) (u := u) (s := 6) rfl (by omega)).trans e6
    have x7 := (eval_out (D := DC) (a0 := a0) (u := u) (s := 7) rfl (by omega)).trans e7
    have m1 := (hB.1.cell (p := ⟨B1, 3, none⟩) l1).trans n1
    have m2 := (hB.1.cell (p := ⟨B2, 3, none⟩) l2).trans n2
    have m3 := (hB.1.cell (p := ⟨B1, 0, none⟩) l1).trans n3
    have m4 := (hB.1.cell (p := ⟨B2, 0, none⟩) l2).trans n4
    rcases (show k = 0 ∨ k = 1 ∨ k = 2 ∨ k = 3 ∨ k = 4 ∨ k = 5 ∨ k = 6 ∨ k = 7 ∨ k = 8 ∨ k = 9 ∨ k = 10 ∨ k = 11 by omega) with rfl | rfl | rfl | rfl | rfl | rfl | rfl | rfl | rfl | rfl | rfl | rfl
    · obtain ⟨hd, op, dep⟩ := has_plain h0 ho
      exact wp_value (w' := W) (by simp [execOp, op, x6, ri_f3, Result.andThen]) ⟨_, put_in hd rfl u _, growR_refl _, rfl⟩
    · obtain ⟨hd, op, dep⟩ := has_plain h1 ho
      have y := (ev 18 rfl (by omega)).trans (hF 0 (by omega) (dep 0 (by simp)))
      exact wp_value (w' := W) (by simp [execOp, op, y, ri_ld B1 3 W m1, Result.andThen]) ⟨_, put_in hd rfl u _, growR_refl _, rfl⟩
    · obtain ⟨hd, op, dep⟩ := has_plain h2 ho
      exact wp_value (w' := W) (by simp [execOp, op, x7, ri_f3, Result.andThen]) ⟨_, put_in hd rfl u _, growR_refl _, rfl⟩
    · obtain ⟨hd, op, dep⟩ := has_plain h3 ho
      have y := (ev 20 rfl (by omega)).trans (hF 2 (by omega) (dep 2 (by simp)))
      exact wp_value (w' := W) (by simp [execOp, op, y, ri_ld B2 3 W m2, Result.andThen]) ⟨_, put_in hd rfl u _, growR_refl _, rfl⟩
    · obtain ⟨hd, op, dep⟩ := has_plain h4 ho
      have y1 := (ev 19 rfl (by omega)).trans (hF 1 (by omega) (dep 1 (by simp)))
      have y2 := (ev 21 rfl (by omega)).trans (hF 3 (by omega) (dep 3 (by simp)))
      refine wp_call (f := 78) (args := #[.int .i64 xh, .int .i64 yh]) (by simp only [execOp, op]; go_simp; exact ⟨(getD_at _ _).symm.trans y1, (getD_at _ _).symm.trans y2⟩) ?_
      refine (compare_any xh yh W).mono ?_
      rintro e w' ⟨rfl, rfl⟩
      exact ⟨_, rfl, _, put_in hd rfl u _, growR_refl _, rfl⟩
    · obtain ⟨hd, op, dep⟩ := has_plain h5 ho
      exact wp_value (w' := W) (by simp [execOp, op, x6, ri_f0, Result.andThen]) ⟨_, put_in hd rfl u _, growR_refl _, rfl⟩
    · obtain ⟨hd, op, dep⟩ := has_plain h6 ho
      have y := (ev 23 rfl (by omega)).trans (hF 5 (by omega) (dep 5 (by simp)))
      exact wp_value (w' := W) (by simp [execOp, op, y, ri_ld B1 0 W m3, Result.andThen]) ⟨_, put_in hd rfl u _, growR_refl _, rfl⟩
    · obtain ⟨hd, op, dep⟩ := has_plain h7 ho
      exact wp_value (w' := W) (by simp [execOp, op, x7, ri_f0, Result.andThen]) ⟨_, put_in hd rfl u _, growR_refl _, rfl⟩
    · obtain ⟨hd, op, dep⟩ := has_plain h8 ho
      have y := (ev 25 rfl (by omega)).trans (hF 7 (by omega) (dep 7 (by simp)))
      exact wp_value (w' := W) (by simp [execOp, op, y, ri_ld B2 0 W m4, Result.andThen]) ⟨_, put_in hd rfl u _, growR_refl _, rfl⟩
    · obtain ⟨hd, op, dep⟩ := has_plain h9 ho
      have y1 := (ev 24 rfl (by omega)).trans (hF 6 (by omega) (dep 6 (by simp)))
      have y2 := (ev 26 rfl (by omega)).trans (hF 8 (by omega) (dep 8 (by simp)))
      refine wp_call (f := 78) (args := #[.int .i64 xi, .int .i64 yi]) (by simp only [execOp, op]; go_simp; exact ⟨(getD_at _ _).symm.trans y1, (getD_at _ _).symm.trans y2⟩) ?_
      refine (compare_any xi yi W).mono ?_
      rintro e w' ⟨rfl, rfl⟩
      exact ⟨_, rfl, _, put_in hd rfl u _, growR_refl _, rfl⟩
    · obtain ⟨hd, op, dep⟩ := has_plain h10 ho
      have y1 := (ev 22 rfl (by omega)).trans (hF 4 (by omega) (dep 4 (by simp)))
      have y2 := (ev 27 rfl (by omega)).trans (hF 9 (by omega) (dep 9 (by simp)))
      exact wp_value (by simp [execOp, op, y1, y2, ri_two, Result.andThen]) ⟨_, put_in hd rfl u _, ⟨(Below.refl _ W).alloc (Nat.le_refl _) _, Nat.le_refl _⟩, W.heap.size, rfl, heap_alloc_new W _⟩
    · obtain ⟨hd, op, dep⟩ := has_plain h11 ho
      obtain ⟨b, y0, hb⟩ := hF 10 (by omega) (dep 10 (by simp))
      have y := (ev 28 rfl (by omega)).trans y0
      refine wp_call (f := 77) (args := #[.slice (some ⟨b, 0, none⟩) 2 2]) (by simp only [execOp, op]; go_simp; exact (getD_at _ _).symm.trans y) ?_
      refine (or2_any (cell_of (cs := [.int .i64 (cmpI xh yh), .int .i64 (cmpI xi yi)]) hb rfl) (cell_of (cs := [.int .i64 (cmpI xh yh), .int .i64 (cmpI xi yi)]) hb rfl)).mono ?_
      rintro e w' ⟨rfl, rfl⟩
      exact ⟨_, rfl, _, put_in hd rfl u _, growR_refl _, rfl⟩
  · intro o u W ho hB hF
    obtain ⟨hd, op, dep⟩ := has_plain h12 ho
    have ev : ∀ s, DC s = true → s < 30 → (ovr DC a0 u).eval (.tmp s) = u s := fun s h1 h2 => eval_in h1 (by omega)
    have y := (ev 29 rfl (by omega)).trans (hF 11 (by omega))
    exact wp_value (w' := W) (v := .int .i64 (orI (cmpI xh yh) (cmpI xi yi))) (by simp [execOp, op, y]) ⟨_, put_in hd rfl u _, fin _ W (by simp [upd]) hB⟩
end Go.Proofs.Ytdogibjgogcdkal.gr
namespace Go.Proofs.Ytdogibjgogcdkal.gr
open Go.RowKit rows heads region
set_option maxRecDepth 100000
set_option linter.unusedVariables false

def cfM (x y : MO) : Int := orI (cmpI x.hash y.hash) (cmpI x.id y.id)
set_option maxHeartbeats 8000000 in
theorem grieveCmp_any {W : World} {Pg : Nat} {a1 : Option Addr} {c1 : Nat} {ms : List MO} (hPg : Pg < W.heap.size) (hz : W.cell? ⟨Pg, 0, none⟩ = some (.slice a1 ms.length c1)) (hO : OrowAt W (.slice a1 ms.length c1) ms) (hsl : Slices ms) {x y : Nat} (hx : x < ms.length) (hy : y < ms.length) :
    Calls Try.prog 76 #[.int .i64 (x : Int), .int .i64 (y : Int), .pointer (some ⟨Pg, 0, none⟩)] W fun e w' => e = .returned (.int .i64 (cfM (ms.getD x moD) (ms.getD y moD))) ∧ Below W.heap.size W w' ∧ W.drawn ≤ w'.drawn := by
  obtain ⟨ao, co, eo, hlc, hcm, _, hc⟩ := hO
  injection eo with e1 e2 e3
  subst e1 e3
  obtain ⟨b, off, rfl, hb, hcc⟩ := hc (by omega)
  obtain ⟨x0, x1, x2, x3, x4⟩ := hcc x hx
  obtain ⟨y0, y1, y2, y3, y4⟩ := hcc y hy
  obtain ⟨xa, xn, xc, hxv⟩ := hsl _ (mem_getD hx)
  obtain ⟨ya, yn, yc, hyv⟩ := hsl _ (mem_getD hy)
  clear hc hcc hsl e2 hlc hcm
  generalize ms.getD x moD = mx at *
  generalize ms.getD y moD = my at *
  obtain ⟨xi, xcl, xf, xh, xv, xs⟩ := mx
  obtain ⟨yi, ycl, yf, yh, yv, ys⟩ := my
  simp only at x0 x1 x2 x3 x4 y0 y1 y2 y3 y4 hxv hyv
  subst hxv hyv
  have ER : Hid (cfM ⟨xi, xcl, xf, xh, .slice xa xn xc, xs⟩ ⟨yi, ycl, yf, yh, .slice ya yn yc, ys⟩ = orI (cmpI xh yh) (cmpI xi yi)) := rfl
  have HW : ∀ V : World, Below W.heap.size W V → V.cell? ⟨Pg, 0, none⟩ = some (.slice (some ⟨b, off, none⟩) ms.length c1) ∧ (V.cell? ⟨b, off + x * 5, none⟩ = some (.int .i64 xi) ∧ V.cell? ⟨b, off + x * 5 + 1, none⟩ = some (.int .i64 xcl) ∧ V.cell? ⟨b, off + x * 5 + 2, none⟩ = some (.int .i64 xf) ∧ V.cell? ⟨b, off + x * 5 + 3, none⟩ = some (.int .i64 xh) ∧ V.cell? ⟨b, off + x * 5 + 4, none⟩ = some (.slice xa xn xc)) ∧ (V.cell? ⟨b, off + y * 5, none⟩ = some (.int .i64 yi) ∧ V.cell? ⟨b, off + y * 5 + 1, none⟩ = some (.int .i64 ycl) ∧ V.cell? ⟨b, off + y * 5 + 2, none⟩ = some (.int .i64 yf) ∧ V.cell? ⟨b, off + y * 5 + 3, none⟩ = some (.int .i64 yh) ∧ V.cell? ⟨b, off + y * 5 + 4, none⟩ = some (.slice ya yn yc)) := fun V hV =>
    ⟨(hV.cell (p := ⟨Pg, 0, none⟩) hPg).trans hz, ⟨(hV.cell (p := ⟨b, off + x * 5, none⟩) hb).trans x0, (hV.cell (p := ⟨b, off + x * 5 + 1, none⟩) hb).trans x1, (hV.cell (p := ⟨b, off + x * 5 + 2, none⟩) hb).trans x2, (hV.cell (p := ⟨b, off + x * 5 + 3, none⟩) hb).trans x3, (hV.cell (p := ⟨b, off + x * 5 + 4, none⟩) hb).trans x4⟩, (hV.cell (p := ⟨b, off + y * 5, none⟩) hb).trans y0, (hV.cell (p := ⟨b, off + y * 5 + 1, none⟩) hb).trans y1, (hV.cell (p := ⟨b, off + y * 5 + 2, none⟩) hb).trans y2, (hV.cell (p := ⟨b, off + y * 5 + 3, none⟩) hb).trans y3, (hV.cell (p := ⟨b, off + y * 5 + 4, none⟩) hb).trans y4⟩
  obtain ⟨p0, ⟨q00, q01, q02, q03, q04⟩, r00, r01, r02, r03, r04⟩ := HW (W.alloc (.cells #[.int .i64 0, .int .i64 0, .int .i64 0, .int .i64 0, .slice none 0 0] 51)) ((Below.refl _ _).alloc (Nat.le_refl _) _)
  obtain ⟨p1, ⟨q10, q11, q12, q13, q14⟩, r10, r11, r12, r13, r14⟩ := HW ((W.alloc (.cells #[.int .i64 0, .int .i64 0, .int .i64 0, .int .i64 0, .slice none 0 0] 51)).alloc (.cells #[.int .i64 0, .int .i64 0, .int .i64 0, .int .i64 0, .slice none 0 0] 51)) (((Below.refl _ _).alloc (Nat.le_refl _) _).alloc (by simp) _)
  obtain ⟨p2, ⟨q20, q21, q22, q23, q24⟩, r20, r21, r22, r23, r24⟩ := HW (W.alloc (.cells #[.int .i64 xi, .int .i64 xcl, .int .i64 xf, .int .i64 xh, .slice xa xn xc] 51)) ((Below.refl _ _).alloc (Nat.le_refl _) _)
  obtain ⟨p3, ⟨q30, q31, q32, q33, q34⟩, r30, r31, r32, r33, r34⟩ := HW ((W.alloc (.cells #[.int .i64 xi, .int .i64 xcl, .int .i64 xf, .int .i64 xh, .slice xa xn xc] 51)).alloc (.cells #[.int .i64 0, .int .i64 0, .int .i64 0, .int .i64 0, .slice none 0 0] 51)) (((Below.refl _ _).alloc (Nat.le_refl _) _).alloc (by simp) _)
  obtain ⟨p4, ⟨q40, q41, q42, q43, q44⟩, r40, r41, r42, r43, r44⟩ := HW ((W.alloc (.cells #[.int .i64 0, .int .i64 0, .int .i64 0, .int .i64 0, .slice none 0 0] 51)).alloc (.cells #[.int .i64 xi, .int .i64 xcl, .int .i64 xf, .int .i64 xh, .slice xa xn xc] 51)) (((Below.refl _ _).alloc (Nat.le_refl _) _).alloc (by simp) _)
  clear HW
  go_enter Try.func76, Try.ntmps76
  go_wp2_with fail
  go_cut [6, 7] from 8 to 17 (fun u v wx => ∃ B1 B2 : Nat, u = .pointer (some ⟨B1, 0, none⟩) ∧ v = .pointer (some ⟨B2, 0, none⟩) ∧ Hid (Five wx B1 51 (.int .i64 xi) (.int .i64 xcl) (.int .i64 xf) (.int .i64 xh) (.slice xa xn xc)) ∧ Hid (Five wx B2 51 (.int .i64 yi) (.int .i64 ycl) (.int .i64 yf) (.int .i64 yh) (.slice ya yn yc)) ∧ Hid (Below W.heap.size W wx) ∧ Hid (W.drawn ≤ wx.drawn))
  case first =>
    go_region
    all_goals go_wp2
    all_goals go_meet
    · exact ⟨_, _, rfl, rfl, hpush (at_new rfl), at_new (by simp), (((Below.refl _ _).alloc (Nat.le_refl _) _).alloc (by simp) _).drew, Nat.le_succ _⟩
    · exact ⟨_, _, rfl, rfl, at_new (by simp), hpush (at_new rfl), (((Below.refl _ _).alloc (Nat.le_refl _) _).alloc (by simp) _).drew, Nat.le_succ _⟩
  obtain ⟨B1, B2, rfl, rfl, HF1, HF2, HB, HD⟩ := hcut
  obtain ⟨V, hV⟩ : ∃ V, V = wc := ⟨_, rfl⟩
  subst hV
  obtain ⟨f0, f1, f2, f3, f4, _⟩ := five_cells HF1.out
  obtain ⟨g0, g1, g2, g3, g4, _⟩ := five_cells HF2.out
  have l1 := lt_of_block HF1.out
  have l2 := lt_of_block HF2.out
  clear x0 x1 x2 x3 x4 y0 y1 y2 y3 y4 hz p0 q00 q01 q02 q03 q04 r00 r01 r02 r03 r04 p1 q10 q11 q12 q13 q14 r10 r11 r12 r13 r14 p2 q20 q21 q22 q23 q24 r20 r21 r22 r23 r24 p3 q30 q31 q32 q33 q34 r30 r31 r32 r33 r34 p4 q40 q41 q42 q43 q44 r40 r41 r42 r43 r44
  go_wp2_with fail
  go_cut [5] from 18 to 29 (fun v wx => v = .int .i64 (orI (cmpI xh yh) (cmpI xi yi)) ∧ Hid (GrowR V wx))
  case first =>
   refine regC2 (B1 := B1) (B2 := B2) (xh := xh) (yh := yh) (xi := xi) (yi := yi) (by simp) ?_ rfl ⟨_, rfl, rfl, rfl, by simp [Region.binds]⟩ ⟨_, rfl, rfl, rfl, by simp [Region.binds]⟩ ⟨_, rfl, rfl, rfl, by simp [Region.binds]⟩ ⟨_, rfl, rfl, rfl, by simp [Region.binds]⟩ ⟨_, rfl, rfl, rfl, by simp [Region.binds]⟩ ⟨_, rfl, rfl, rfl, by simp [Region.binds]⟩ ⟨_, rfl, rfl, rfl, by simp [Region.binds]⟩ ⟨_, rfl, rfl, rfl, by simp [Region.binds]⟩ ⟨_, rfl, rfl, rfl, by simp [Region.binds]⟩ ⟨_, rfl, rfl, rfl, by simp [Region.binds]⟩ ⟨_, rfl, rfl, rfl, by simp [Region.binds]⟩ ⟨_, rfl, rfl, rfl, by simp [Region.binds]⟩ ⟨_, rfl, rfl, rfl, by simp [Region.binds]⟩ (by simp) rfl rfl l1 l2 f3 g3 f0 g0 ?_
   · intro k o ho e he
     have hk : k < 13 := (Array.getElem?_eq_some_iff.1 ho).1
     rcases (show k = 0 ∨ k = 1 ∨ k = 2 ∨ k = 3 ∨ k = 4 ∨ k = 5 ∨ k = 6 ∨ k = 7 ∨ k = 8 ∨ k = 9 ∨ k = 10 ∨ k = 11 ∨ k = 12 by omega) with rfl | rfl | rfl | rfl | rfl | rfl | rfl | rfl | rfl | rfl | rfl | rfl | rfl
     all_goals
       injection ho with ho
       subst ho
       simp at he
       try omega
     all_goals
       first
         | (subst he; decide)
         | (rcases he with rfl | rfl <;> decide)
         | (rcases he with rfl | rfl | rfl <;> decide)
         | (rcases he with rfl | rfl | rfl | rfl <;> decide)
         | (rcases he with rfl | rfl | rfl | rfl | rfl <;> decide)
         | (rcases he with rfl | rfl | rfl | rfl | rfl | rfl <;> decide)
         | (rcases he with rfl | rfl | rfl | rfl | rfl | rfl | rfl <;> decide)
         | (rcases he with rfl | rfl | rfl | rfl | rfl | rfl | rfl | rfl <;> decide)
         | (rcases he with rfl | rfl | rfl | rfl | rfl | rfl | rfl | rfl | rfl <;> decide)
         | (rcases he with rfl | rfl | rfl | rfl | rfl | rfl | rfl | rfl | rfl | rfl <;> decide)
         | (rcases he with rfl | rfl | rfl | rfl | rfl | rfl | rfl | rfl | rfl | rfl | rfl <;> decide)
         | (rcases he with rfl | rfl | rfl | rfl | rfl | rfl | rfl | rfl | rfl | rfl | rfl | rfl <;> decide)
         | (rcases he with rfl | rfl | rfl | rfl | rfl | rfl | rfl | rfl | rfl | rfl | rfl | rfl | rfl <;> decide)
         | (rcases he with rfl | rfl | rfl | rfl | rfl | rfl | rfl | rfl | rfl | rfl | rfl | rfl | rfl | rfl <;> decide)
         | (rcases he with rfl | rfl | rfl | rfl | rfl | rfl | rfl | rfl | rfl | rfl | rfl | rfl | rfl | rfl | rfl <;> decide)
         | (rcases he with rfl | rfl | rfl | rfl | rfl | rfl | rfl | rfl | rfl | rfl | rfl | rfl | rfl | rfl | rfl | rfl <;> decide)
         | (rcases he with rfl | rfl | rfl | rfl | rfl | rfl | rfl | rfl | rfl | rfl | rfl | rfl | rfl | rfl | rfl | rfl | rfl <;> decide)
   · rintro u w' hu hgr
     rename_i J K' HJ HK
     exact HK _ _ (Met.intro (HJ _ _ ⟨u 5, u 18, u 19, u 20, u 21, u 22, u 23, u 24, u 25, u 26, u 27, u 28, u 29, ⟨hu, hgr⟩, rfl⟩))
  obtain ⟨rfl, HGR⟩ := hcut
  have HFB : Hid _ := HB.out.trans (HGR.out.1.mono HB.out.size)
  have HFD : Hid _ := Nat.le_trans HD.out HGR.out.2
  clear HGR HB HD HF1 HF2 l1 l2 f0 f1 f2 f3 f4 g0 g1 g2 g3 g4
  go_wp2
  go_ret
  exact ⟨by rw [ER.out]; rfl, HFB.out, HFD.out⟩
end Go.Proofs.Ytdogibjgogcdkal.gr
namespace Go.Proofs.Ytdogibjgogcdkal.gr
open Go.RowKit rows heads Go.Sort Go.Shelf
set_option maxRecDepth 100000
set_option linter.unusedVariables false

theorem cfM_neg (x y : MO) : cfM x y < 0 ↔ (x.hash < y.hash ∨ (x.hash = y.hash ∧ x.id < y.id)) := by
  unfold cfM
  have hc : ∀ u v : Int, (cmpI u v = -1 ∧ u < v) ∨ (cmpI u v = 1 ∧ v < u) ∨ (cmpI u v = 0 ∧ u = v) := fun u v => by
    unfold cmpI
    split
    · exact .inl ⟨rfl, by assumption⟩
    · split
      · exact .inr (.inl ⟨rfl, by assumption⟩)
      · exact .inr (.inr ⟨rfl, by omega⟩)
  rcases hc x.hash y.hash with ⟨e, h⟩ | ⟨e, h⟩ | ⟨e, h⟩
  · rw [e, show orI (-1) (cmpI x.id y.id) = -1 from rfl]; omega
  · rw [e, show orI 1 (cmpI x.id y.id) = 1 from rfl]; omega
  · rw [e, show orI 0 (cmpI x.id y.id) = cmpI x.id y.id from rfl]
    rcases hc x.id y.id with ⟨e2, h2⟩ | ⟨e2, h2⟩ | ⟨e2, h2⟩ <;> rw [e2] <;> omega
/-- A world that grew out of another one is that one with blocks behind it. -/
theorem grow_of {W w' : World} (h : Below W.heap.size W w') (hd : W.drawn ≤ w'.drawn) : ∃ q os, w' = grow (W.drewN q) os := by
  refine ⟨w'.drawn - W.drawn, w'.heap.extract W.heap.size w'.heap.size, ?_⟩
  obtain ⟨h1, h2, h3, h4, h5⟩ := h
  cases w' with
  | mk heap tape drawn os output =>
    cases W with
    | mk heap0 tape0 drawn0 os0 output0 =>
      simp only at h1 h2 h3 h4 h5 hd
      subst h1 h2 h3
      unfold grow World.drewN
      simp only [World.mk.injEq, true_and, and_true]
      refine ⟨?_, by omega⟩
      apply Array.ext_getElem?
      intro k
      rw [Array.getElem?_append]
      split
      · rename_i hk; exact h5 k hk
      · rename_i hk
        rw [Array.getElem?_extract]
        split
        · congr 1; omega
        · rw [Array.getElem?_eq_none (by omega)]
/-- The order of two places. -/
def cfP (ms : List MO) (x y : Fin ms.length) : Int := cfM (ms.getD x.val moD) (ms.getD y.val moD)
abbrev encP (n : Nat) (x : Fin n) : Value := .int .i64 ((x.val : Nat) : Int)
theorem putCells_enc {n : Nat} [Inhabited (Fin n)] (off : Nat) (d : Array (Fin n)) (c : Array Value) : putCells (encP n) off d c = putCells (Value.int .i64) off (d.map fun x => ((x.val : Nat) : Int)) c := by
  unfold putCells
  apply Array.ext_getElem?
  intro k
  simp only [Array.getElem?_mapIdx, Array.size_map]
  cases hc : c[k]? with
  | none => rfl
  | some x =>
    simp only [Option.map_some]
    by_cases hk : off ≤ k ∧ k < off + d.size
    · rw [if_pos hk, if_pos hk]
      have hlt : k - off < d.size := by omega
      rw [getElem!_pos d (k - off) hlt, getElem!_pos (d.map _) (k - off) (by simpa using hlt), Array.getElem_map]
    · rw [if_neg hk, if_neg hk]
theorem putRow_enc {n : Nat} [Inhabited (Fin n)] (w : World) (blk off : Nat) (d : Array (Fin n)) : putRow (encP n) w blk off d = putRow (Value.int .i64) w blk off (d.map fun x => ((x.val : Nat) : Int)) := by
  unfold putRow
  congr 1
  funext c
  exact putCells_enc off d c
theorem ltP (ms : List MO) (x y : Fin ms.length) : ltOf (cfP ms) x y = true ↔ ((ms.getD x.val moD).hash < (ms.getD y.val moD).hash ∨ ((ms.getD x.val moD).hash = (ms.getD y.val moD).hash ∧ (ms.getD x.val moD).id < (ms.getD y.val moD).id)) := by
  unfold ltOf cfP
  rw [decide_eq_true_eq, cfM_neg]
theorem ltP_not (ms : List MO) (x y : Fin ms.length) : ltOf (cfP ms) x y = false ↔ ¬ ((ms.getD x.val moD).hash < (ms.getD y.val moD).hash ∨ ((ms.getD x.val moD).hash = (ms.getD y.val moD).hash ∧ (ms.getD x.val moD).id < (ms.getD y.val moD).id)) := by
  rw [← ltP ms x y, Bool.not_eq_true]
theorem swoP (ms : List MO) : SWO (ltOf (cfP ms)) := by
  refine ⟨fun x => ?_, fun x y z h1 h2 => ?_, fun x y z h1 h2 => ?_⟩
  · rw [ltP_not]; omega
  · rw [ltP] at *; omega
  · rw [ltP_not] at *; omega
set_option maxHeartbeats 2000000 in
theorem sortPlaces_any {W : World} {base blk cap Pg c1 : Nat} {a1 : Option Addr} {ms : List MO} (hr : RiseM ms) (hsl : Slices ms) (pf : List (Fin ms.length)) (hnd : pf.Nodup) (hpos : 0 < ms.length) (hlen : pf.length ≤ 1048576)
    (hown : OwnT 3 W base (.slice (some ⟨blk, 0, none⟩) pf.length cap) (pf.map fun x => ((x.val : Nat) : Int)))
    (HV : ∀ V, Ch [blk] W V → Pg < V.heap.size ∧ V.cell? ⟨Pg, 0, none⟩ = some (.slice a1 ms.length c1) ∧ OrowAt V (.slice a1 ms.length c1) ms) :
    Calls Try.prog 75 #[.slice (some ⟨blk, 0, none⟩) pf.length cap, .func (.func 76) #[] #[.pointer (some ⟨Pg, 0, none⟩)]] W fun e w' => e = .returned (.tuple #[]) ∧ ∃ qs : List (Fin ms.length), OwnT 3 w' base (.slice (some ⟨blk, 0, none⟩) pf.length cap) (qs.map fun x => ((x.val : Nat) : Int)) ∧ Ch [blk] W w' ∧ qs.Pairwise (fun x y => ltOf (cfP ms) x y = true) ∧ (∀ p, p ∈ qs ↔ p ∈ pf) ∧ qs.length = pf.length := by
  haveI : Inhabited (Fin ms.length) := ⟨⟨0, hpos⟩⟩
  obtain ⟨h0, ⟨h1, h2⟩ | ⟨g, cap', cur, h1, hg, hh, hle, hm, hs, ht⟩⟩ := hown
  · cases h1
  injection h1 with e1 e2 e3
  injection e1 with e1
  injection e1 with e1
  subst e1 e3
  rw [List.length_map, Nat.mul_one] at ht
  have hblk := lt_of_block hh
  have hH : Holds (encP ms.length) W blk 0 pf.toArray := fun j hj => by
    have := holds_of_blockI (ss := pf.map fun x => ((x.val : Nat) : Int)) hh (by rw [List.length_map]; exact ht) j (by simpa using hj)
    have hj' : j < pf.length := by simpa using hj
    refine ⟨this.1.trans ?_, this.2⟩
    rw [getElem!_pos _ j (by simpa using hj'), getElem!_pos pf.toArray j hj]
    simp
  have swc : ∀ m (dk : Array (Fin ms.length)) os, Ch [blk] W (sortWorld (encP ms.length) W blk 0 m dk os) := fun m dk os => by
    unfold sortWorld
    rw [putRow_enc]
    have := grownBy_sortedI (w := W) (g := blk) (n := m) (os := os) (dk.map fun x => ((x.val : Nat) : Int))
    exact ⟨this.os, this.tape, this.output, this.size, fun k hk hn => this.block k hk (fun e => hn (by injection e with e; simp [e]))⟩
  have hcmp : CmpLays1 Try.prog 76 #[.pointer (some ⟨Pg, 0, none⟩)] (encP ms.length) (cfP ms) blk 0 pf.toArray.size W := fun m os dk _ x y => by
    obtain ⟨v1, v2, v3⟩ := HV _ (swc m dk os)
    refine (grieveCmp_any v1 v2 v3 hsl x.isLt y.isLt).mono ?_
    rintro e w' ⟨rfl, b, d⟩
    exact ⟨rfl, grow_of b d⟩
  have eg : ∀ args w, (callFunc 76 args).run Try.prog w = .ok (.enter 76 args) w := fun args w => by go_simp
  have hT : ∀ x y : Fin ms.length, ltOf (cfP ms) x y = false → ltOf (cfP ms) y x = false → x = y := fun x y h1 h2 => by
    rw [ltP_not] at h1 h2
    apply Fin.ext
    rcases Nat.lt_trichotomy x.val y.val with h | h | h
    · have := hr _ _ h y.isLt; omega
    · exact h
    · have := hr _ _ h x.isLt; omega
  have hcon := Any.slices_SortFunc_total lsort (encP ms.length) (fun _ => rfl) (cfP ms) (swoP ms) 76 #[.pointer (some ⟨Pg, 0, none⟩)] blk 0 cap pf.toArray W eg hcmp hH hblk (by simp; omega) hT
  refine Calls.mono hcon ?_
  rintro e w' ⟨rfl, n, os, hw'⟩
  subst hw'
  have hperm := List.mergeSort_perm pf (fun x y => !(ltOf (cfP ms)) y x)
  have hsort := List.pairwise_mergeSort (le := fun x y => !(ltOf (cfP ms)) y x) (fun a b c h1 h2 => by
      simp only [Bool.not_eq_true'] at h1 h2 ⊢
      exact (swoP ms).ntrans c b a h2 h1) (fun a b => by
      simp only [Bool.or_eq_true, Bool.not_eq_true']
      cases h : ltOf (cfP ms) b a
      · exact .inl rfl
      · refine .inr ?_
        cases h' : ltOf (cfP ms) a b
        · rfl
        · have := (swoP ms).trans a b a h' h
          rw [(swoP ms).irrefl] at this
          cases this) pf
  refine ⟨rfl, pf.mergeSort (fun x y => !(ltOf (cfP ms)) y x), ?_, swc n _ os, ?_, fun p => hperm.mem_iff, hperm.length_eq⟩
  · unfold sortWorld
    rw [putRow_enc]
    have hl : ((pf.mergeSort (fun x y => !(ltOf (cfP ms)) y x)).map fun x => ((x.val : Nat) : Int)).length = (pf.map fun x => ((x.val : Nat) : Int)).length := by simp [hperm.length_eq]
    have := ownsRow_sortedI (w := W) (base := base) (g := blk) (cap := cap) (n := n) (e := 3) (os := os) (cur := cur) hl hg hh (by simpa using hle) hm hs
    unfold OwnT
    rw [List.length_map] at this ⊢
    rw [hperm.length_eq]
    simpa using this
  · have hnd' : (pf.mergeSort (fun x y => !(ltOf (cfP ms)) y x)).Nodup := hperm.nodup_iff.2 hnd
    refine List.Pairwise.imp₂ (R := fun x y => (!(ltOf (cfP ms)) y x) = true) (S := fun x y => x ≠ y) (fun a b h1 h2 => ?_) hsort hnd'
    simp only [Bool.not_eq_true'] at h1
    cases h' : ltOf (cfP ms) a b
    · exact absurd (hT a b h' h1) h2
    · rfl
end Go.Proofs.Ytdogibjgogcdkal.gr
namespace Go.Proofs.Ytdogibjgogcdkal.gr
open Go.RowKit rows heads
set_option linter.unusedVariables false

/-- The one at this place grieves. -/
def Grv (G : Gr) (p : Nat) : Prop := Rch G p ∧ (G.objs.getD p obD).fmt = 2 ∧ ∃ q, awt G.objs (G.objs.getD p obD) = some q ∧ ¬ Rch G q
/-- In order of Hash, then Id. -/
def ltG (os : List Ob) (p q : Nat) : Prop := (os.getD p obD).hash < (os.getD q obD).hash ∨ ((os.getD p obD).hash = (os.getD q obD).hash ∧ (os.getD p obD).id < (os.getD q obD).id)
/-- These places are of those that grieve, in order. -/
def IsG (G : Gr) (ps : List Nat) : Prop := ps.Pairwise (ltG G.objs) ∧ ∀ p, p ∈ ps ↔ Grv G p
theorem pw_ext {lt : Nat → Nat → Prop} (asy : ∀ a b, lt a b → ¬ lt b a) : ∀ {xs ys : List Nat}, xs.Pairwise lt → ys.Pairwise lt → (∀ a, a ∈ xs ↔ a ∈ ys) → xs = ys
  | [], [], _, _, _ => rfl
  | [], y :: ys, _, _, h => absurd ((h y).2 (by simp)) (by simp)
  | x :: xs, [], _, _, h => absurd ((h x).1 (by simp)) (by simp)
  | x :: xs, y :: ys, hx, hy, h => by
    obtain ⟨hx1, hx2⟩ := List.pairwise_cons.1 hx
    obtain ⟨hy1, hy2⟩ := List.pairwise_cons.1 hy
    have e : x = y := by
      rcases List.mem_cons.1 ((h x).1 (by simp)) with e | e
      · exact e
      · rcases List.mem_cons.1 ((h y).2 (by simp)) with e' | e'
        · exact e'.symm
        · exact absurd (hx1 y e') (asy _ _ (hy1 x e))
    subst e
    rw [pw_ext asy hx2 hy2 fun a => ?_]
    constructor
    · intro ha
      rcases List.mem_cons.1 ((h a).1 (by simp [ha])) with e | e
      · subst e; exact absurd (hx1 _ ha) (fun k => asy _ _ k k)
      · exact e
    · intro ha
      rcases List.mem_cons.1 ((h a).2 (by simp [ha])) with e | e
      · subst e; exact absurd (hy1 _ ha) (fun k => asy _ _ k k)
      · exact e
theorem ltG_as (os : List Ob) (a b : Nat) (h : ltG os a b) : ¬ ltG os b a := by unfold ltG at *; omega
theorem isG_unique {G : Gr} {ps qs : List Nat} (h : IsG G ps) (k : IsG G qs) : ps = qs := pw_ext (ltG_as G.objs) h.1 k.1 fun a => by rw [h.2, k.2]
/-- One more, behind those with a Hash that is not greater. -/
def insG (os : List Ob) (p : Nat) : List Nat → List Nat
  | [] => [p]
  | q :: qs => if (os.getD q obD).hash ≤ (os.getD p obD).hash then q :: insG os p qs else p :: q :: qs
theorem mem_insG {os : List Ob} {p : Nat} : ∀ {qs : List Nat} {a : Nat}, a ∈ insG os p qs ↔ a = p ∨ a ∈ qs
  | [], a => by simp [insG]
  | q :: qs, a => by
    unfold insG
    split
    · rw [List.mem_cons, mem_insG, List.mem_cons]
      constructor
      · rintro (h | h | h) <;> simp [h]
      · rintro (h | h | h) <;> simp [h]
    · simp
theorem pw_insG {os : List Ob} {p : Nat} : ∀ {qs : List Nat}, qs.Pairwise (ltG os) → (∀ q ∈ qs, (os.getD q obD).id < (os.getD p obD).id) → (insG os p qs).Pairwise (ltG os)
  | [], _, _ => by simp [insG]
  | q :: qs, h, hi => by
    obtain ⟨h1, h2⟩ := List.pairwise_cons.1 h
    have hq := hi q (by simp)
    unfold insG
    split
    · rename_i e
      refine List.pairwise_cons.2 ⟨fun a ha => ?_, pw_insG h2 (fun r hr => hi r (by simp [hr]))⟩
      rcases mem_insG.1 ha with e' | e'
      · rw [e']; unfold ltG; omega
      · exact h1 a e'
    · rename_i e
      refine List.pairwise_cons.2 ⟨fun a ha => ?_, h⟩
      rcases List.mem_cons.1 ha with e' | e'
      · rw [e']; unfold ltG; omega
      · have := h1 a e'; unfold ltG at *; omega
theorem len_insG (os : List Ob) (p : Nat) : ∀ qs : List Nat, (insG os p qs).length = qs.length + 1
  | [] => rfl
  | q :: qs => by
    unfold insG
    split
    · rw [List.length_cons, len_insG os p qs]; rfl
    · rfl
/-- As the specification finds the place. -/
theorem insG_at {os : List Ob} {p : Nat} : ∀ {qs : List Nat} {k : Nat}, k ≤ qs.length → (∀ i, i < k → (os.getD (qs.getD i 0) obD).hash ≤ (os.getD p obD).hash) → (k < qs.length → ¬ (os.getD (qs.getD k 0) obD).hash ≤ (os.getD p obD).hash) → insG os p qs = qs.take k ++ p :: qs.drop k
  | [], k, hk, _, _ => by
    have e : k = 0 := by simpa using hk
    subst e
    rfl
  | q :: qs, 0, _, _, h2 => by
    have h3 := h2 (by simp)
    simp only [List.getD_cons_zero] at h3
    unfold insG
    rw [if_neg h3]
    rfl
  | q :: qs, k + 1, hk, h1, h2 => by
    have h3 : (os.getD q obD).hash ≤ (os.getD p obD).hash := h1 0 (by omega)
    have ih := @insG_at os p qs k (by simpa using hk) (fun i hi => h1 (i + 1) (by omega)) (fun hi => h2 (by simpa using hi))
    unfold insG
    rw [if_pos h3, ih]
    rfl
/-- Those up to k of which f says yes, in order. -/
def sortG (os : List Ob) (f : Nat → Bool) : Nat → List Nat
  | 0 => []
  | k + 1 => if f k = true then insG os k (sortG os f k) else sortG os f k
theorem mem_sortG {os : List Ob} {f : Nat → Bool} : ∀ {k a : Nat}, a ∈ sortG os f k ↔ a < k ∧ f a = true
  | 0, a => by simp [sortG]
  | k + 1, a => by
    unfold sortG
    by_cases h : f k = true
    · rw [if_pos h, mem_insG, mem_sortG]
      constructor
      · rintro (e | ⟨e1, e2⟩)
        · subst e; exact ⟨by omega, h⟩
        · exact ⟨by omega, e2⟩
      · rintro ⟨e1, e2⟩
        by_cases e : a = k
        · exact .inl e
        · exact .inr ⟨by omega, e2⟩
    · rw [if_neg h, mem_sortG]
      constructor
      · rintro ⟨e1, e2⟩; exact ⟨by omega, e2⟩
      · rintro ⟨e1, e2⟩
        by_cases e : a = k
        · subst e; exact absurd e2 h
        · exact ⟨by omega, e2⟩
theorem pw_sortG {os : List Ob} (hr : Rise os) {f : Nat → Bool} : ∀ {k : Nat}, k ≤ os.length → (sortG os f k).Pairwise (ltG os)
  | 0, _ => by simp [sortG]
  | k + 1, hk => by
    unfold sortG
    split
    · exact pw_insG (pw_sortG hr (by omega)) fun q hq => hr q k (mem_sortG.1 hq).1 (by omega)
    · exact pw_sortG hr (by omega)
theorem len_sortG (os : List Ob) (f : Nat → Bool) : ∀ k, (sortG os f k).length ≤ k
  | 0 => by simp [sortG]
  | k + 1 => by
    have := len_sortG os f k
    unfold sortG
    split
    · rw [len_insG]; omega
    · omega
theorem grv_lt {G : Gr} {p : Nat} (h : Grv G p) : p < G.objs.length := rch_lt h.1
/-- Whoever tells who grieves, has it so. -/
theorem isG_sort {G : Gr} (hG : gOk G = true) {f : Nat → Bool} (hf : ∀ p, p < G.objs.length → (f p = true ↔ Grv G p)) : IsG G (sortG G.objs f G.objs.length) := by
  refine ⟨pw_sortG (gOk_rise hG) (Nat.le_refl _), fun p => ?_⟩
  rw [mem_sortG]
  constructor
  · rintro ⟨h1, h2⟩; exact (hf p h1).1 h2
  · intro h; exact ⟨grv_lt h, (hf p (grv_lt h)).2 h⟩
theorem isG_ex {G : Gr} (hG : gOk G = true) : ∃ ps, IsG G ps := by
  classical
  exact ⟨_, isG_sort hG (f := fun p => decide (Grv G p)) fun p _ => by simp⟩
/-- Told out of what is reached. -/
def gB (G : Gr) (is : List Bool) (p : Nat) : Bool := is.getD p false && ((G.objs.getD p obD).fmt == 2 && match awt G.objs (G.objs.getD p obD) with | some q => !is.getD q false | none => false)
theorem gB_grv {G : Gr} {is : List Bool} (h : ∀ p, is.getD p false = true ↔ Rch G p) (p : Nat) : gB G is p = true ↔ Grv G p := by
  unfold gB Grv
  simp only [Bool.and_eq_true, beq_iff_eq]
  rw [h p]
  cases ha : awt G.objs (G.objs.getD p obD) with
  | none => simp
  | some q =>
    simp only [Bool.not_eq_true', Option.some.injEq]
    constructor
    · rintro ⟨h1, h2, h3⟩
      exact ⟨h1, h2, q, rfl, fun k => by rw [(h q).2 k] at h3; cases h3⟩
    · rintro ⟨h1, h2, q', rfl, h3⟩
      refine ⟨h1, h2, ?_⟩
      cases hq : is.getD q false
      · rfl
      · exact absurd ((h q).1 hq) h3
/-- The Ids of those that grieve, in order; none of a graph that is not right. -/
def IsGrieving (G : Gr) (xs : List Int) : Prop := (gOk G = false ∧ xs = []) ∨ (gOk G = true ∧ ∃ ps, IsG G ps ∧ xs = ps.map fun p => (G.objs.getD p obD).id)
theorem isGrieving_ex (G : Gr) : ∃ xs, IsGrieving G xs := by
  cases h : gOk G
  · exact ⟨[], .inl ⟨h, rfl⟩⟩
  · obtain ⟨ps, hp⟩ := isG_ex h
    exact ⟨_, .inr ⟨h, ps, hp, rfl⟩⟩
theorem isG_len {G : Gr} (hG : gOk G = true) {ps : List Nat} (h : IsG G ps) : ps.length ≤ 200 := by
  classical
  have e := isG_unique h (isG_sort hG (f := fun p => decide (Grv G p)) fun p _ => by simp)
  rw [e]
  exact Nat.le_trans (len_sortG _ _ _) (gOk_len hG).1
theorem isGrieving_len {G : Gr} {xs : List Int} (h : IsGrieving G xs) : xs.length ≤ 200 := by
  rcases h with ⟨_, rfl⟩ | ⟨h1, ps, h2, rfl⟩
  · simp
  · rw [List.length_map]; exact isG_len h1 h2
end Go.Proofs.Ytdogibjgogcdkal.gr
