/-
  A drawn region whose last operation comes behind all others, though not at once; and 'copy' as that operation.
  Made from the template RegionLast.
-/
import Derived.Test.YthhpgbhgijlcpaaDoorRegionPlain
import Derived.Test.YthhpgbhgijlcpaaDoorRegionTell
import Derived.Laws.CopyOwn
namespace Go.Proofs.YthhpgbhgijlcpaaDoor.region
open Go Go.RowKit

theorem wp_region_last {P : Program} {id : Nat} {ops : Array Oper} {Q : Exit → Act → World → Prop} {a0 : Act} {w : World} (hm : P.follows .mixedOrders = true) (D : Nat → Bool)
    (hg : ∀ o ∈ ops, o.guard = none) (hacyc : ∀ (k : Nat) (o : Oper), ops[k]? = some o → ∀ e ∈ o.after, e.on < k) (n : Nat) (hn : ops.size = n + 1) (dst : Nat → Nat) (hinj : ∀ k, k < n → ∀ j, j < n → dst j = dst k → j = k)
    (F : Nat → Value → World → Prop) (hst : ∀ k t W W', Below W.heap.size W W' → F k t W → F k t W')
    (hall : ∀ l : Nat → Bool, (∀ k o, ops[k]? = some o → (k < n → l k = true) → ∀ e ∈ o.after, Region.binds .any e = true → l e.on = true) → ∀ j, j < n → l j = true)
    (step : ∀ k o u W, k < n → ops[k]? = some o → Below w.heap.size w W → (∀ j, j < n → (∃ e ∈ o.after, e.on = j ∧ Region.binds .any e = true) → F j (u (dst j)) W) → o.wp P (ovr D a0 u) W (fun a' W' => ∃ v, a' = ovr D a0 (upd u (dst k) v) ∧ Below W.heap.size W W' ∧ F k v W') Q)
    (last : ∀ o u W, ops[n]? = some o → Below w.heap.size w W → (∀ j, j < n → F j (u (dst j)) W) → o.wp P (ovr D a0 u) W (fun a' W' => ∃ u', a' = ovr D a0 u' ∧ Q .normal (ovr D a0 u') W') Q) :
    (Code.region id ops true).wp P Q a0 w := by
  refine wp_region_facts hm D hg hacyc (fun l u W => (l.getD n false = false ∧ Below w.heap.size w W ∧ (∀ k o, k < n → l.getD k false = true → ops[k]? = some o → ∀ e ∈ o.after, Region.binds .any e = true → l.getD e.on false = true) ∧ ∀ k, k < n → l.getD k false = true → F k (u (dst k)) W) ∨ ((∀ k, k < n + 1 → l.getD k false = true) ∧ Q .normal (ovr D a0 u) W)) (.inl ⟨?_, (Below.refl _ w).drew, fun k o hk h => ?_, fun k hk h => ?_⟩) ?_ ?_
  · simp [Array.getD, hn]
  · simp [Array.getD, hn, show k < n + 1 by omega] at h
  · simp [Array.getD, hn, show k < n + 1 by omega] at h
  · rintro l u W (⟨h1, _⟩ | ⟨_, h⟩) hA
    · rw [hA n (by omega)] at h1
      cases h1
    · exact h
  · rintro l u W k o (⟨h1, hB, hC, hF⟩ | ⟨hA, _⟩) hl hlk ho hd
    case inr =>
      have hk : k < n + 1 := by rw [← hn]; exact (Array.getElem?_eq_some_iff.1 ho).1
      rw [hA k hk] at hlk
      cases hlk
    have hk : k < n + 1 := by rw [← hn]; exact (Array.getElem?_eq_some_iff.1 ho).1
    by_cases e : k = n
    · subst e
      have hA : ∀ j, j < k → l.getD j false = true := hall (fun j => l.getD j false) (fun j o' ho' hj e he hb => by
        have hj1 : j < k + 1 := by rw [← hn]; exact (Array.getElem?_eq_some_iff.1 ho').1
        by_cases e2 : j = k
        · subst e2
          rw [ho] at ho'
          injection ho' with ho'
          subst ho'
          exact hd e he hb
        · exact hC j o' (by omega) (hj (by omega)) ho' e he hb)
      refine Oper.wp_mono ?_ (last o u W ho hB (fun j hj => hF j hj (hA j hj)))
      rintro a' W' ⟨u', rfl, h⟩
      refine ⟨u', rfl, .inr ⟨fun j hj => ?_, h⟩⟩
      by_cases e : j = k
      · subst e; exact listed_ne (by omega)
      · rw [getD_other l (Ne.symm e)]; exact hA j (by omega)
    · have hk' : k < n := by omega
      refine Oper.wp_mono ?_ (step k o u W hk' ho hB (fun j hj ⟨e, he, e1, hb⟩ => hF j hj (by rw [← e1]; exact hd e he hb)))
      rintro a' W' ⟨v, rfl, hb, hv⟩
      refine ⟨_, rfl, .inl ⟨?_, hB.trans (hb.mono hB.size), ?_, ?_⟩⟩
      · rw [getD_other l e]; exact h1
      · intro j o' hj hlj ho' e' he' hb'
        by_cases e2 : k = e'.on
        · rw [← e2]; exact listed_ne (by omega)
        · rw [getD_other l e2]
          by_cases e3 : k = j
          · subst e3
            rw [ho] at ho'
            injection ho' with ho'
            subst ho'
            exact hd e' he' hb'
          · rw [getD_other l e3] at hlj
            exact hC j o' hj hlj ho' e' he' hb'
      · exact facts_put (dst := dst) (hinj k hk') hF (fun j _ _ _ t => hst j t W W' hb) hv
/-- 'copy', the last operation. -/
theorem plainCopy {P : Program} {o : Oper} {D : Nat → Bool} {a0 : Act} {u : Nat → Value} {W : World} {Q : Exit → Act → World → Prop} {dk : Nat} (hgd : o.guard = none) (hd' : o.dst = some dk) (hD : D dk = true) (d s : Operand) (dT sT : TypeId)
    (ho : o.op = .call { callee := .builtin .copy, args := #[d, s], argTypes := #[dT, sT] }) (elem : TypeId) (hu : P.underlying dT = some (.slice elem)) (hsz : (P.info? elem).map (·.size) = some 1)
    (dp sp : Option Addr) (dLen dCap sLen sCap : Nat) (hd : (ovr D a0 u).eval d = .slice dp dLen dCap) (hs : (ovr D a0 u).eval s = .slice sp sLen sCap)
    (g off : Nat) (cur : List Value) (t : TypeId) (hg : W.heap[g]? = some (.cells cur.toArray t (0, 0))) (cs : List Value) (hn : cs.length = Nat.min sLen dLen)
    (hpos : 0 < cs.length → dp = some ⟨g, off, none⟩ ∧ ∃ ad, sp = some ad ∧ ∀ j v, cs[j]? = some v → W.cell? (ad.add j) = some v)
    (hfit : off + cs.length ≤ cur.length) (h1 : ∀ v ∈ cs, v.oneCell' = true)
    (h : ∀ W', W'.heap[g]? = some (.cells (splice cur off cs).toArray t (0, 0)) → Below g W W' → Q .normal (ovr D a0 (upd u dk (goInt cs.length))) W') :
    o.wp P (ovr D a0 u) W (fun a' W' => ∃ u', a' = ovr D a0 u' ∧ Q .normal (ovr D a0 u') W') Q := by
  have := step_copy_splice (P := P) (ops := #[]) (E := False) (Q := Q) (K := fun a' W' => ∃ u', a' = ovr D a0 u' ∧ Q .normal (ovr D a0 u') W') hgd d s dT sT ho elem hu hsz dp sp dLen dCap sLen sCap hd hs g off cur t hg cs hn hpos hfit h1 g W (Below.refl _ _) (Nat.le_refl _) (fun w' hF hB => ⟨_, put_in hd' hD u _, h w' hF.out hB⟩)
  rwa [if_pos (wanted_none hgd)] at this
end Go.Proofs.YthhpgbhgijlcpaaDoor.region
