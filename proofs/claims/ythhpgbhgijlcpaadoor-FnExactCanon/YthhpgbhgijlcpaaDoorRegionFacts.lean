/-
  A region that draws its order, by facts: what is known of the slot of each operation that has come up, and of the world.
  Made from the template RegionFacts.
-/
import Derived.Test.YthhpgbhgijlcpaaDoorRegionInv
namespace Go.Proofs.YthhpgbhgijlcpaaDoor.region
open Go

/-- The frame a0 with other values in the slots of D. -/
def ovr (D : Nat → Bool) (a0 : Act) (u : Nat → Value) : Act := { a0 with tmps := ((List.range a0.tmps.size).map fun s => if D s then u s else a0.tmps.getD s undef).toArray }
def upd (u : Nat → Value) (d : Nat) (v : Value) : Nat → Value := fun s => if s = d then v else u s

theorem getD_at (t : Array Value) (s : Nat) : t.getD s undef = t[s]?.getD undef := by
  rw [Array.getD_eq_getD_getElem?]
theorem ovr_at (D : Nat → Bool) (a0 : Act) (u : Nat → Value) (s : Nat) (hs : s < a0.tmps.size) : (ovr D a0 u).tmps[s]? = some (if D s then u s else a0.tmps.getD s undef) := by
  simp [ovr, hs]
theorem ovr_size (D : Nat → Bool) (a0 : Act) (u : Nat → Value) : (ovr D a0 u).tmps.size = a0.tmps.size := by simp [ovr]
theorem ovr_self (D : Nat → Bool) (a0 : Act) : ovr D a0 (fun s => a0.tmps.getD s undef) = a0 := by
  cases a0 with
  | mk tmps defers =>
    unfold ovr
    congr 1
    apply Array.ext_getElem?
    intro s
    rcases Nat.lt_or_ge s tmps.size with h | h
    · simp [h]
    · simp [h]
theorem ovr_put {D : Nat → Bool} {a0 : Act} {u : Nat → Value} {d : Nat} {v : Value} (hd : D d = true) : (ovr D a0 u).put (some d) v = ovr D a0 (upd u d v) := by
  have e : ((ovr D a0 u).put (some d) v).tmps = (ovr D a0 (upd u d v)).tmps := by
    show (ovr D a0 u).tmps.setIfInBounds d v = _
    apply Array.ext_getElem?
    intro s
    rcases Nat.lt_or_ge s a0.tmps.size with h | h
    · rw [ovr_at D a0 _ s h, Array.getElem?_setIfInBounds]
      by_cases hs : d = s
      · subst hs
        rw [if_pos rfl, ovr_size, if_pos h, if_pos hd]
        simp [upd]
      · rw [if_neg hs, ovr_at D a0 _ s h]
        have : ¬ s = d := fun e => hs e.symm
        simp [upd, this]
    · rw [Array.getElem?_eq_none (by simpa [ovr_size] using h), Array.getElem?_eq_none (by simpa [ovr_size] using h)]
  have e' : ((ovr D a0 u).put (some d) v).defers = (ovr D a0 (upd u d v)).defers := rfl
  cases h1 : (ovr D a0 u).put (some d) v
  cases h2 : ovr D a0 (upd u d v)
  rw [h1, h2] at e e'
  simp only at e e'
  rw [e, e']

theorem all_listed {ops : Array Oper} {l : Array Bool} (hacyc : ∀ (k : Nat) (o : Oper), ops[k]? = some o → ∀ e ∈ o.after, e.on < k) (hl : l.size = ops.size) (h : Region.ready .any ops l = []) : ∀ k, k < ops.size → l.getD k false = true := by
  intro k
  induction k using Nat.strongRecOn with
  | ind k ih =>
    intro hk
    have hl' : k < l.size := by omega
    cases hv : l.getD k false with
    | true => rfl
    | false =>
      have h1 : l.getD k true = false := by
        simp only [Array.getD, hl', dite_true] at hv ⊢
        exact hv
      have : k ∈ Region.ready .any ops l := mem_ready.2 ⟨h1, ops[k], Array.getElem?_eq_getElem hk, fun e he _ => ih e.on (hacyc k _ (Array.getElem?_eq_getElem hk) e he) (by have := hacyc k _ (Array.getElem?_eq_getElem hk) e he; omega)⟩
      rw [h] at this
      cases this

theorem wp_region_facts {P : Program} {id : Nat} {ops : Array Oper} {Q : Exit → Act → World → Prop} {a0 : Act} {w : World} (hm : P.follows .mixedOrders = true) (D : Nat → Bool)
    (hg : ∀ o ∈ ops, o.guard = none) (hacyc : ∀ (k : Nat) (o : Oper), ops[k]? = some o → ∀ e ∈ o.after, e.on < k)
    (I : Array Bool → (Nat → Value) → World → Prop)
    (start : I (Array.replicate ops.size false) (fun s => a0.tmps.getD s undef) w.drew)
    (fin : ∀ l u w, I l u w → (∀ k, k < ops.size → l.getD k false = true) → Q .normal (ovr D a0 u) w)
    (stp : ∀ l u w k o, I l u w → l.size = ops.size → l.getD k false = false → ops[k]? = some o → (∀ e ∈ o.after, Region.binds .any e = true → l.getD e.on false = true) →
      o.wp P (ovr D a0 u) w (fun a' w' => ∃ u', a' = ovr D a0 u' ∧ I (l.setIfInBounds k true) u' w') Q) : (Code.region id ops true).wp P Q a0 w := by
  refine wp_region_inv hm (fun l a w => l.size = ops.size ∧ ∃ u, a = ovr D a0 u ∧ I l u w) ⟨by simp, _, (ovr_self D a0).symm, start⟩ ?_ ?_
  · rintro l a w ⟨hl, u, rfl, h⟩ hr
    exact fin l u w h (all_listed hacyc hl hr)
  · rintro l a w i ⟨hl, u, rfl, h⟩ hi
    obtain ⟨h1, o, ho, hd⟩ := mem_ready.1 hi
    have hi' : i < ops.size := (Array.getElem?_eq_some_iff.1 ho).1
    have h1' : l.getD i false = false := by
      have hl' : i < l.size := by omega
      simp only [Array.getD, hl', dite_true] at h1 ⊢
      exact h1
    have hgo := hg o (Array.mem_of_getElem? ho)
    unfold wpOp
    rw [ho]
    simp only
    rw [if_pos (by simp [Region.wanted, hgo])]
    refine .inl (Oper.wp_mono (fun a' w' h' => ?_) (stp l u w i o h hl h1' ho hd))
    obtain ⟨u', e, h'⟩ := h'
    exact ⟨by simpa using hl, u', e, h'⟩

theorem getD_other (l : Array Bool) {k j : Nat} (h : ¬ k = j) : (l.setIfInBounds k true).getD j false = l.getD j false := by
  rw [Array.getD_eq_getD_getElem?, Array.getElem?_setIfInBounds, if_neg h, Array.getD_eq_getD_getElem?]

/-- What is known of the slots stays known where one more is known. -/
theorem facts_put {n : Nat} {F : Nat → Value → World → Prop} {dst : Nat → Nat} {l : Array Bool} {u : Nat → Value} {w w' : World} {k : Nat} {v : Value} (hi : ∀ j, j < n → dst j = dst k → j = k)
    (H : ∀ j, j < n → l.getD j false = true → F j (u (dst j)) w) (hs : ∀ j, j < n → j ≠ k → l.getD j false = true → ∀ t, F j t w → F j t w') (hv : F k v w') :
    ∀ j, j < n → (l.setIfInBounds k true).getD j false = true → F j (upd u (dst k) v (dst j)) w' := by
  intro j hj hlj
  by_cases e : j = k
  · subst e
    simp only [upd, if_true]
    exact hv
  · have : ¬ dst j = dst k := fun e' => e (hi j hj e')
    simp only [upd, this, if_false]
    have hlj' : l.getD j false = true := by rwa [getD_other l (Ne.symm e)] at hlj
    exact hs j hj e hlj' _ (H j hj hlj')
theorem listed_put {l : Array Bool} {k j : Nat} (hl : k < l.size) (h : (l.setIfInBounds k true).getD j false = false) : l.getD j false = false := by
  by_cases e : k = j
  · subst e
    simp [Array.getD, hl] at h
  · rwa [getD_other l e] at h
theorem listed_ne {l : Array Bool} {k : Nat} (hk : k < l.size) : (l.setIfInBounds k true).getD k false = true := by
  simp [Array.getD, hk]
end Go.Proofs.YthhpgbhgijlcpaaDoor.region
