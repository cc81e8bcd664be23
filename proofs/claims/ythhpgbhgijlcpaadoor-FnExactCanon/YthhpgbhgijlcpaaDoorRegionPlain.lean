/-
  A drawn region whose last operation waits for all others: by one fact a slot, each of which stays where the world only grows.
  Made from the template RegionPlain.
-/
import Derived.Test.YthhpgbhgijlcpaaDoorRegionHas
import Derived.Below
namespace Go.Proofs.YthhpgbhgijlcpaaDoor.region
open Go Go.RowKit

theorem wp_region_plain {P : Program} {id : Nat} {ops : Array Oper} {Q : Exit → Act → World → Prop} {a0 : Act} {w : World} (hm : P.follows .mixedOrders = true) (D : Nat → Bool)
    (hg : ∀ o ∈ ops, o.guard = none) (hacyc : ∀ (k : Nat) (o : Oper), ops[k]? = some o → ∀ e ∈ o.after, e.on < k) (n : Nat) (hn : ops.size = n + 1) (dst : Nat → Nat) (hinj : ∀ k, k < n → ∀ j, j < n → dst j = dst k → j = k)
    (F : Nat → Value → World → Prop) (hst : ∀ k t W W', Below W.heap.size W W' → F k t W → F k t W')
    (hall : ∀ o, ops[n]? = some o → ∀ j, j < n → ∃ e ∈ o.after, e.on = j ∧ Region.binds .any e = true)
    (step : ∀ k o u W, k < n → ops[k]? = some o → Below w.heap.size w W → (∀ j, j < n → (∃ e ∈ o.after, e.on = j ∧ Region.binds .any e = true) → F j (u (dst j)) W) → o.wp P (ovr D a0 u) W (fun a' W' => ∃ v, a' = ovr D a0 (upd u (dst k) v) ∧ Below W.heap.size W W' ∧ F k v W') Q)
    (last : ∀ o u W, ops[n]? = some o → Below w.heap.size w W → (∀ j, j < n → F j (u (dst j)) W) → o.wp P (ovr D a0 u) W (fun a' W' => ∃ u', a' = ovr D a0 u' ∧ Q .normal (ovr D a0 u') W') Q) :
    (Code.region id ops true).wp P Q a0 w := by
  refine wp_region_facts hm D hg hacyc (fun l u W => (l.getD n false = false ∧ Below w.heap.size w W ∧ ∀ k, k < n → l.getD k false = true → F k (u (dst k)) W) ∨ ((∀ k, k < n + 1 → l.getD k false = true) ∧ Q .normal (ovr D a0 u) W)) (.inl ⟨?_, (Below.refl _ w).drew, fun k hk h => ?_⟩) ?_ ?_
  · simp [Array.getD, hn]
  · simp [Array.getD, hn, show k < n + 1 by omega] at h
  · rintro l u W (⟨h1, _⟩ | ⟨_, h⟩) hA
    · rw [hA n (by omega)] at h1
      cases h1
    · exact h
  · rintro l u W k o (⟨h1, hB, hF⟩ | ⟨hA, _⟩) hl hlk ho hd
    case inr =>
      have hk : k < n + 1 := by rw [← hn]; exact (Array.getElem?_eq_some_iff.1 ho).1
      rw [hA k hk] at hlk
      cases hlk
    have hk : k < n + 1 := by rw [← hn]; exact (Array.getElem?_eq_some_iff.1 ho).1
    by_cases e : k = n
    · subst e
      have hA : ∀ j, j < k → l.getD j false = true := fun j hj => by
        obtain ⟨e, he, rfl, hb⟩ := hall o ho j hj
        exact hd e he hb
      refine Oper.wp_mono ?_ (last o u W ho hB (fun j hj => hF j hj (hA j hj)))
      rintro a' W' ⟨u', rfl, h⟩
      refine ⟨u', rfl, .inr ⟨fun j hj => ?_, h⟩⟩
      by_cases e : j = k
      · subst e; exact listed_ne (by omega)
      · rw [getD_other l (Ne.symm e)]; exact hA j (by omega)
    · have hk' : k < n := by omega
      refine Oper.wp_mono ?_ (step k o u W hk' ho hB (fun j hj ⟨e, he, e1, hb⟩ => hF j hj (by rw [← e1]; exact hd e he hb)))
      rintro a' W' ⟨v, rfl, hb, hv⟩
      refine ⟨_, rfl, .inl ⟨?_, hB.trans (hb.mono hB.size), ?_⟩⟩
      · rw [getD_other l e]; exact h1
      · exact facts_put (dst := dst) (hinj k hk') hF (fun j _ _ _ t => hst j t W W' hb) hv
/-- The operation k as it is handed in. -/
theorem has_plain {ops : Array Oper} {k : Nat} {d : Option Nat} {op : Op} {deps : List Nat} (h : Has ops k d op deps) {o : Oper} (ho : ops[k]? = some o) : o.dst = d ∧ o.op = op ∧ ∀ j ∈ deps, ∃ e ∈ o.after, e.on = j ∧ Region.binds .any e = true := by
  obtain ⟨o', ho', h1, h2, h3⟩ := h
  rw [ho] at ho'
  injection ho' with ho'
  subst ho'
  exact ⟨h1, h2, h3⟩
theorem wp_skip' {P : Program} {o : Oper} {a : Act} {w w' : World} {K : Act → World → Prop} {Q : Exit → Act → World → Prop} (h : (execOp a.eval o).run P w = .ok .skip w') (hk : K (a.put o.dst undef) w') : o.wp P a w K Q := by
  unfold Oper.wp
  rw [h]
  exact hk
end Go.Proofs.YthhpgbhgijlcpaaDoor.region
