/-
  A drawn region that only grows the world at first, by one fact a slot, and ends in a row of operations, each behind the one ahead.
  Made from the template RegionTail.
-/
import Derived.Test.YthhpgbhgijlcpaaDoorRegionLast
namespace Go.Proofs.YthhpgbhgijlcpaaDoor.region
open Go Go.RowKit

theorem wp_region_tail {P : Program} {id : Nat} {ops : Array Oper} {Q : Exit → Act → World → Prop} {a0 : Act} {w : World} (hm : P.follows .mixedOrders = true) (D : Nat → Bool)
    (hg : ∀ o ∈ ops, o.guard = none) (hacyc : ∀ (k : Nat) (o : Oper), ops[k]? = some o → ∀ e ∈ o.after, e.on < k) (n m : Nat) (hpos : 0 < m) (hn : ops.size = n + m) (dst : Nat → Nat) (hinj : ∀ k, k < n → ∀ j, j < n → dst j = dst k → j = k)
    (F : Nat → Value → World → Prop) (hst : ∀ k t W W', Below W.heap.size W W' → F k t W → F k t W')
    (hall : ∀ l : Nat → Bool, (∀ k o, ops[k]? = some o → (k < n → l k = true) → k ≤ n → ∀ e ∈ o.after, Region.binds .any e = true → l e.on = true) → ∀ j, j < n → l j = true)
    (hnext : ∀ j, j + 1 < m → ∀ o, ops[n + j + 1]? = some o → ∃ e ∈ o.after, e.on = n + j ∧ Region.binds .any e = true)
    (step : ∀ k o u W, k < n → ops[k]? = some o → Below w.heap.size w W → (∀ s, (∀ k, k < n → dst k ≠ s) → u s = a0.tmps.getD s undef) → (∀ j, j < n → (∃ e ∈ o.after, e.on = j ∧ Region.binds .any e = true) → F j (u (dst j)) W) → o.wp P (ovr D a0 u) W (fun a' W' => ∃ v, a' = ovr D a0 (upd u (dst k) v) ∧ Below W.heap.size W W' ∧ F k v W') Q)
    (M : Nat → (Nat → Value) → World → Prop) (m0 : ∀ u W, Below w.heap.size w W → (∀ j, j < n → F j (u (dst j)) W) → M 0 u W)
    (mid : ∀ j o u W, j < m → ops[n + j]? = some o → M j u W → o.wp P (ovr D a0 u) W (fun a' W' => ∃ u', a' = ovr D a0 u' ∧ M (j + 1) u' W') Q)
    (fin : ∀ u W, M m u W → Q .normal (ovr D a0 u) W) :
    (Code.region id ops true).wp P Q a0 w := by
  refine wp_region_facts hm D hg hacyc (fun l u W => ((∀ j, j < m → l.getD (n + j) false = false) ∧ Below w.heap.size w W ∧ (∀ s, (∀ k, k < n → dst k ≠ s) → u s = a0.tmps.getD s undef) ∧ (∀ k o, k < n → l.getD k false = true → ops[k]? = some o → ∀ e ∈ o.after, Region.binds .any e = true → l.getD e.on false = true) ∧ ∀ k, k < n → l.getD k false = true → F k (u (dst k)) W) ∨ ∃ i, 0 < i ∧ i ≤ m ∧ (∀ k, k < n + i → l.getD k false = true) ∧ (∀ k, n + i ≤ k → k < n + m → l.getD k false = false) ∧ M i u W) (.inl ⟨fun j hj => ?_, (Below.refl _ w).drew, fun s _ => rfl, fun k o hk h => ?_, fun k hk h => ?_⟩) ?_ ?_
  · simp [Array.getD, hn, show n + j < n + m by omega]
  · simp [Array.getD, hn, show k < n + m by omega] at h
  · simp [Array.getD, hn, show k < n + m by omega] at h
  · rintro l u W (⟨h1, _⟩ | ⟨i, hi, him, h2, h3, h⟩) hA
    · have := hA n (by omega)
      have h0 := h1 0 hpos
      rw [Nat.add_zero] at h0
      rw [this] at h0
      cases h0
    · have e : i = m := by
        rcases Nat.lt_or_ge i m with hlt | hge
        · have a := hA (n + i) (by omega)
          have b := h3 (n + i) (Nat.le_refl _) (by omega)
          rw [a] at b
          cases b
        · omega
      subst e
      exact fin u W h
  · rintro l u W k o hI hl hlk ho hd
    have hk : k < n + m := by rw [← hn]; exact (Array.getElem?_eq_some_iff.1 ho).1
    have adv : ∀ i, i < m → k = n + i → (∀ j, j < n + i → l.getD j false = true) → (∀ j, n + i ≤ j → j < n + m → l.getD j false = false) → M i u W → o.wp P (ovr D a0 u) W (fun a' w' => ∃ u', a' = ovr D a0 u' ∧ (((∀ j, j < m → (l.setIfInBounds k true).getD (n + j) false = false) ∧ Below w.heap.size w w' ∧ (∀ s, (∀ k, k < n → dst k ≠ s) → u' s = a0.tmps.getD s undef) ∧ (∀ k' o, k' < n → (l.setIfInBounds k true).getD k' false = true → ops[k']? = some o → ∀ e ∈ o.after, Region.binds .any e = true → (l.setIfInBounds k true).getD e.on false = true) ∧ ∀ k', k' < n → (l.setIfInBounds k true).getD k' false = true → F k' (u' (dst k')) w') ∨ ∃ i, 0 < i ∧ i ≤ m ∧ (∀ k', k' < n + i → (l.setIfInBounds k true).getD k' false = true) ∧ (∀ k', n + i ≤ k' → k' < n + m → (l.setIfInBounds k true).getD k' false = false) ∧ M i u' w')) Q := fun i him hki h2 h3 hM => by
      subst hki
      refine Oper.wp_mono ?_ (mid i o u W him ho hM)
      rintro a' W' ⟨u', rfl, h⟩
      refine ⟨u', rfl, .inr ⟨i + 1, by omega, by omega, fun j hj => ?_, fun j hj hj2 => ?_, h⟩⟩
      · by_cases e : j = n + i
        · subst e; exact listed_ne (by omega)
        · rw [getD_other l (Ne.symm e)]; exact h2 j (by omega)
      · rw [getD_other l (by omega)]; exact h3 j (by omega) hj2
    rcases hI with ⟨h1, hB, hU, hC, hF⟩ | ⟨i, hi, him, h2, h3, hM⟩
    · rcases Nat.lt_or_ge k n with hk' | hk'
      · refine Oper.wp_mono ?_ (step k o u W hk' ho hB hU (fun j hj ⟨e, he, e1, hb⟩ => hF j hj (by rw [← e1]; exact hd e he hb)))
        rintro a' W' ⟨v, rfl, hb, hv⟩
        refine ⟨_, rfl, .inl ⟨fun j hj => ?_, hB.trans (hb.mono hB.size), fun s hs => ?_, ?_, ?_⟩⟩
        · rw [getD_other l (by omega)]; exact h1 j hj
        · have := hs k hk'
          unfold upd
          rw [if_neg (fun e => this e.symm)]
          exact hU s hs
        · intro j o' hj hlj ho' e' he' hb'
          by_cases e2 : k = e'.on
          · rw [← e2]; exact listed_ne (by omega)
          · rw [getD_other l e2]
            by_cases e3 : k = j
            · subst e3
              rw [ho] at ho'
              injection ho' with ho'
              subst ho'
              exact hd e' he' hb'
            · rw [getD_other l e3] at hlj
              exact hC j o' hj hlj ho' e' he' hb'
        · exact facts_put (dst := dst) (hinj k hk') hF (fun j _ _ _ t => hst j t W W' hb) hv
      · obtain ⟨j, rfl⟩ : ∃ j, k = n + j := ⟨k - n, by omega⟩
        cases j with
        | zero =>
          have hA : ∀ j, j < n → l.getD j false = true := hall (fun j => l.getD j false) (fun j o' ho' hj hjn e he hb => by
            by_cases e2 : j = n
            · subst e2
              rw [Nat.add_zero, ho'] at ho
              injection ho with ho
              subst ho
              exact hd e he hb
            · exact hC j o' (by omega) (hj (by omega)) ho' e he hb)
          exact adv 0 hpos rfl (fun j hj => hA j (by omega)) (fun j hj hj2 => by
            obtain ⟨i, rfl⟩ : ∃ i, j = n + i := ⟨j - n, by omega⟩
            exact h1 i (by omega)) (m0 u W hB (fun j hj => hF j hj (hA j hj)))
        | succ j =>
          obtain ⟨e, he, e1, hb⟩ := hnext j (by omega) o ho
          have a := hd e he hb
          rw [e1, h1 j (by omega)] at a
          cases a
    · have hki : n + i ≤ k := by
        rcases Nat.lt_or_ge k (n + i) with hlt | hge
        · rw [h2 k hlt] at hlk; cases hlk
        · exact hge
      by_cases e : k = n + i
      · exact adv i (by omega) e h2 h3 hM
      · obtain ⟨j, rfl⟩ : ∃ j, k = n + j + 1 := ⟨k - n - 1, by omega⟩
        obtain ⟨e', he, e1, hb⟩ := hnext j (by omega) o ho
        have a := hd e' he hb
        rw [e1, h3 (n + j) (by omega) (by omega)] at a
        cases a
section
variable {P : Program} {o : Oper} {D : Nat → Bool} {a0 : Act} {u : Nat → Value} {W W' : World} {Q : Exit → Act → World → Prop} {dk : Nat} {F : Value → World → Prop} {N : (Nat → Value) → World → Prop}
/-- An operation that makes memory, among those that only grow the world. -/
theorem plainB {v : Value} (hd : o.dst = some dk) (hD : D dk = true) (hrun : (execOp (ovr D a0 u).eval o).run P W = .ok (.value v) W') (hR : Below W.heap.size W W') (hF : F v W') :
    o.wp P (ovr D a0 u) W (fun a' W' => ∃ v, a' = ovr D a0 (upd u dk v) ∧ Below W.heap.size W W' ∧ F v W') Q := wp_value hrun ⟨v, put_in hd hD u v, hR, hF⟩
/-- append, among the operations that only grow the world. -/
theorem plainA {s x : Operand} {t1 t2 : TypeId} {vs vx v : Value} (hd : o.dst = some dk) (hD : D dk = true) (ho : o.op = .call { callee := .builtin .append, args := #[s, x], argTypes := #[t1, t2] }) (hs : (ovr D a0 u).eval s = vs) (hx : (ovr D a0 u).eval x = vx)
    (hr : (Builtin.append_ #[t1, t2] o.type #[vs, vx]).run P W = .ok v W') (hR : Below W.heap.size W W') (hF : F v W') :
    o.wp P (ovr D a0 u) W (fun a' W' => ∃ v, a' = ovr D a0 (upd u dk v) ∧ Below W.heap.size W W' ∧ F v W') Q :=
  plainB hd hD (by simp [execOp, ho, resolve, invoke, builtin, hs, hx, hr, Result.andThen]) hR hF
/-- An operation of the tail: a value. -/
theorem tailV {v : Value} (hd : o.dst = some dk) (hD : D dk = true) (hrun : (execOp (ovr D a0 u).eval o).run P W = .ok (.value v) W') (hN : N (upd u dk v) W') :
    o.wp P (ovr D a0 u) W (fun a' W' => ∃ u', a' = ovr D a0 u' ∧ N u' W') Q := wp_value hrun ⟨_, put_in hd hD u v, hN⟩
/-- An operation of the tail: a call. -/
theorem tailC {f : FuncId} {args : Array Value} (hd : o.dst = some dk) (hD : D dk = true) (hrun : (execOp (ovr D a0 u).eval o).run P W = .ok (.enter f args) W) (hc : Calls P f args W fun e w' => ∃ v, e = .returned v ∧ N (upd u dk v) w') :
    o.wp P (ovr D a0 u) W (fun a' W' => ∃ u', a' = ovr D a0 u' ∧ N u' W') Q := wp_call hrun (hc.mono fun _ _ ⟨v, he, h1⟩ => ⟨v, he, _, put_in hd hD u v, h1⟩)
/-- An operation of the tail: a store. -/
theorem tailS (hd : o.dst = none) (hrun : (execOp (ovr D a0 u).eval o).run P W = .ok .skip W') (hN : N u W') :
    o.wp P (ovr D a0 u) W (fun a' W' => ∃ u', a' = ovr D a0 u' ∧ N u' W') Q := wp_skipped hrun ⟨u, put_no hd u undef, hN⟩
/-- An operation of the tail: append. -/
theorem tailA {s x : Operand} {t1 t2 : TypeId} {vs vx v : Value} (hd : o.dst = some dk) (hD : D dk = true) (ho : o.op = .call { callee := .builtin .append, args := #[s, x], argTypes := #[t1, t2] }) (hs : (ovr D a0 u).eval s = vs) (hx : (ovr D a0 u).eval x = vx)
    (hr : (Builtin.append_ #[t1, t2] o.type #[vs, vx]).run P W = .ok v W') (hN : N (upd u dk v) W') :
    o.wp P (ovr D a0 u) W (fun a' W' => ∃ u', a' = ovr D a0 u' ∧ N u' W') Q :=
  tailV hd hD (by simp [execOp, ho, resolve, invoke, builtin, hs, hx, hr, Result.andThen]) hN
end
end Go.Proofs.YthhpgbhgijlcpaaDoor.region
