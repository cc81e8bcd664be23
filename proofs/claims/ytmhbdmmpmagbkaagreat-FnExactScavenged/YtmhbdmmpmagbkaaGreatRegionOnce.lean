/-
  A drawn region in which one operation alone changes the world ahead of the last, which waits for all: by one fact a slot.
  Made from the template RegionOnce.
-/
import Derived.Test.YtmhbdmmpmagbkaaGreatM6
namespace Go.Proofs.YtmhbdmmpmagbkaaGreat.region
open Go

theorem wp_region_once {P : Program} {id : Nat} {ops : Array Oper} {Q : Exit → Act → World → Prop} {a0 : Act} {w : World} (hm : P.follows .mixedOrders = true) (D : Nat → Bool)
    (hg : ∀ o ∈ ops, o.guard = none) (hacyc : ∀ (k : Nat) (o : Oper), ops[k]? = some o → ∀ e ∈ o.after, Region.binds .any e = true → e.on < k) (n c : Nat) (hn : ops.size = n + 1) (hc : c < n) (dst : Nat → Nat) (hinj : ∀ k, k < n → ∀ j, j < n → dst j = dst k → j = k)
    (F : Nat → Value → Prop) (A B : World → Prop) (hA : A w.drew)
    (hall : ∀ o, ops[n]? = some o → ∀ j, j < n → ∃ e ∈ o.after, e.on = j ∧ Region.binds .any e = true)
    (step : ∀ k o u W, k < n → k ≠ c → ops[k]? = some o → (A W ∨ B W) → (∀ j, j < n → (∃ e ∈ o.after, e.on = j ∧ Region.binds .any e = true) → F j (u (dst j))) → o.wp P (ovr D a0 u) W (fun a' W' => ∃ v, a' = ovr D a0 (upd u (dst k) v) ∧ W' = W ∧ F k v) Q)
    (call : ∀ o u W, ops[c]? = some o → A W → (∀ j, j < n → (∃ e ∈ o.after, e.on = j ∧ Region.binds .any e = true) → F j (u (dst j))) → o.wp P (ovr D a0 u) W (fun a' W' => ∃ v, a' = ovr D a0 (upd u (dst c) v) ∧ B W' ∧ F c v) Q)
    (last : ∀ o u W, ops[n]? = some o → B W → (∀ j, j < n → F j (u (dst j))) → o.wp P (ovr D a0 u) W (fun a' W' => ∃ u', a' = ovr D a0 u' ∧ Q .normal (ovr D a0 u') W') Q) :
    (Code.region id ops true).wp P Q a0 w := by
  refine wp_region_bind hm D hg hacyc (fun l u W => (l.getD n false = false ∧ (l.getD c false = false → A W) ∧ (l.getD c false = true → B W) ∧ ∀ k, k < n → l.getD k false = true → F k (u (dst k))) ∨ ((∀ k, k < n + 1 → l.getD k false = true) ∧ Q .normal (ovr D a0 u) W)) (.inl ⟨?_, fun _ => hA, fun h => ?_, fun k hk h => ?_⟩) ?_ ?_
  · simp [Array.getD, hn]
  · simp [Array.getD, hn, show c < n + 1 by omega] at h
  · simp [Array.getD, hn, show k < n + 1 by omega] at h
  · rintro l u W (⟨h1, _⟩ | ⟨_, h⟩) hA
    · rw [hA n (by omega)] at h1
      cases h1
    · exact h
  · rintro l u W k o (⟨h1, hB1, hB2, hF⟩ | ⟨hA, _⟩) hl hlk ho hd
    case inr =>
      have hk : k < n + 1 := by rw [← hn]; exact (Array.getElem?_eq_some_iff.1 ho).1
      rw [hA k hk] at hlk
      cases hlk
    have hk : k < n + 1 := by rw [← hn]; exact (Array.getElem?_eq_some_iff.1 ho).1
    by_cases e : k = n
    · subst e
      have hA : ∀ j, j < k → l.getD j false = true := fun j hj => by
        obtain ⟨e, he, rfl, hb⟩ := hall o ho j hj
        exact hd e he hb
      refine Oper.wp_mono ?_ (last o u W ho (hB2 (hA c hc)) (fun j hj => hF j hj (hA j hj)))
      rintro a' W' ⟨u', rfl, h⟩
      refine ⟨u', rfl, .inr ⟨fun j hj => ?_, h⟩⟩
      by_cases e : j = k
      · subst e; exact listed_ne (by omega)
      · rw [getD_other l (Ne.symm e)]; exact hA j (by omega)
    · have hk' : k < n := by omega
      have hfd : ∀ j, j < n → (∃ e ∈ o.after, e.on = j ∧ Region.binds .any e = true) → F j (u (dst j)) := fun j hj ⟨e, he, e1, hb⟩ => hF j hj (by rw [← e1]; exact hd e he hb)
      by_cases ec : k = c
      · subst ec
        refine Oper.wp_mono ?_ (call o u W ho (hB1 hlk) hfd)
        rintro a' W' ⟨v, rfl, hb, hv⟩
        refine ⟨_, rfl, .inl ⟨?_, fun h => ?_, fun _ => hb, ?_⟩⟩
        · rw [getD_other l e]; exact h1
        · rw [listed_ne (by omega)] at h; cases h
        · exact facts_put (dst := dst) (F := fun k t _ => F k t) (w := W) (w' := W') (hinj k hk') hF (fun j _ _ _ t z => z) hv
      · have hAB : A W ∨ B W := by
          cases hh : l.getD c false
          · exact .inl (hB1 hh)
          · exact .inr (hB2 hh)
        refine Oper.wp_mono ?_ (step k o u W hk' ec ho hAB hfd)
        rintro a' W' ⟨v, rfl, rfl, hv⟩
        refine ⟨_, rfl, .inl ⟨?_, fun h => hB1 ?_, fun h => hB2 ?_, ?_⟩⟩
        · rw [getD_other l e]; exact h1
        · rwa [getD_other l ec] at h
        · rwa [getD_other l ec] at h
        · exact facts_put (dst := dst) (F := fun k t _ => F k t) (w := W') (w' := W') (hinj k hk') hF (fun j _ _ _ t z => z) hv
/-- One operation that yields a value and leaves the world as it is. -/
theorem onceV {P : Program} {o : Oper} {D : Nat → Bool} {a0 : Act} {u : Nat → Value} {W : World} {Q : Exit → Act → World → Prop} {F : Value → Prop} {dk : Nat} {v : Value} (hd : o.dst = some dk) (hD : D dk = true) (hrun : (execOp (ovr D a0 u).eval o).run P W = .ok (.value v) W) (hF : F v) :
    o.wp P (ovr D a0 u) W (fun a' W' => ∃ v, a' = ovr D a0 (upd u dk v) ∧ W' = W ∧ F v) Q := wp_value hrun ⟨v, put_in hd hD u v, rfl, hF⟩
theorem onceC {P : Program} {o : Oper} {D : Nat → Bool} {a0 : Act} {u : Nat → Value} {W : World} {Q : Exit → Act → World → Prop} {F : Value → Prop} {B : World → Prop} {dk : Nat} {f : FuncId} {args : Array Value} (hd : o.dst = some dk) (hD : D dk = true) (hrun : (execOp (ovr D a0 u).eval o).run P W = .ok (.enter f args) W) (hc : Calls P f args W fun e w' => ∃ v, e = .returned v ∧ B w' ∧ F v) :
    o.wp P (ovr D a0 u) W (fun a' W' => ∃ v, a' = ovr D a0 (upd u dk v) ∧ B W' ∧ F v) Q := wp_call hrun (hc.mono fun _ _ ⟨v, he, h1, h2⟩ => ⟨v, he, v, put_in hd hD u v, h1, h2⟩)
end Go.Proofs.YtmhbdmmpmagbkaaGreat.region
