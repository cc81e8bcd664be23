/-
  A drawn region in which one operation alone changes the world ahead of the last, which waits for all: by one fact a slot. A drawn region in which three operations, one behind the other, change the world ahead of the last, which waits for all: by one fact a slot. A drawn region with a store among its operations: the store's fact lies at a slot that is none. A drawn region in which 4 operations, one behind the other, change the world ahead of the last, which waits for all: by one fact a slot.
-/
import Derived.Test.YtacilbilnbmcbaaGreatM2
namespace Go.Proofs.YtacilbilnbmcbaaGreat.region
open Go

theorem wp_region_once {P : Program} {id : Nat} {ops : Array Oper} {Q : Exit → Act → World → Prop} {a0 : Act} {w : World} (hm : P.follows .mixedOrders = true) (D : Nat → Bool)
    (hg : ∀ o ∈ ops, o.guard = none) (hacyc : ∀ (k : Nat) (o : Oper), ops[k]? = some o → ∀ e ∈ o.after, Region.binds .any e = true → e.on < k) (n c : Nat) (hn : ops.size = n + 1) (hc : c < n) (dst : Nat → Nat) (hinj : ∀ k, k < n → ∀ j, j < n → dst j = dst k → j = k)
    (F : Nat → Value → Prop) (A B : World → Prop) (hA : A w.drew)
    (hall : ∀ o, ops[n]? = some o → ∀ j, j < n → ∃ e ∈ o.after, e.on = j ∧ Region.binds .any e = true)
    (step : ∀ k o u W, k < n → k ≠ c → ops[k]? = some o → (A W ∨ B W) → (∀ j, j < n → (∃ e ∈ o.after, e.on = j ∧ Region.binds .any e = true) → F j (u (dst j))) → o.wp P (ovr D a0 u) W (fun a' W' => ∃ v, a' = ovr D a0 (upd u (dst k) v) ∧ W' = W ∧ F k v) Q)
    (call : ∀ o u W, ops[c]? = some o → A W → (∀ j, j < n → (∃ e ∈ o.after, e.on = j ∧ Region.binds .any e = true) → F j (u (dst j))) → o.wp P (ovr D a0 u) W (fun a' W' => ∃ v, a' = ovr D a0 (upd u (dst c) v) ∧ B W' ∧ F c v) Q)
    (last : ∀ o u W, ops[n]? = some o → B W → (∀ j, j < n → F j (u (dst j))) → o.wp P (ovr D a0 u) W (fun a' W' => ∃ u', a' = ovr D a0 u' ∧ Q .normal (ovr D a0 u') W') Q) :
    (Code.region id ops true).wp P Q a0 w := by
  refine wp_region_bind hm D hg hacyc (fun l u W => (l.getD n false = false ∧ (l.getD c false = false → A W) ∧ (l.getD c false = true → B W) ∧ ∀ k, k < n → l.getD k false = true → F k (u (dst k))) ∨ ((∀ k, k < n + 1 → l.getD k false = true) ∧ Q .normal (ovr D a0 u) W)) (.inl ⟨?_, fun _ => hA, fun h => ?_, fun k hk h => ?_⟩) ?_ ?_
  · simp [Array.getD, hn]
  · simp [Array.getD, hn, show c < n + 1 by omega] at h
  · simp [Array.getD, hn, show k < n + 1 by omega] at h
  · rintro l u W (⟨h1, _⟩ | ⟨_, h⟩) hA
    · rw [hA n (by omega)] at h1
      cases h1
    · exact h
  · rintro l u W k o (⟨h1, hB1, hB2, hF⟩ | ⟨hA, _⟩) hl hlk ho hd
    case inr =>
      have hk : k < n + 1 := by rw [← hn]; exact (Array.getElem?_eq_some_iff.1 ho).1
      rw [hA k hk] at hlk
      cases hlk
    have hk : k < n + 1 := by rw [← hn]; exact (Array.getElem?_eq_some_iff.1 ho).1
    by_cases e : k = n
    · subst e
      have hA : ∀ j, j < k → l.getD j false = true := fun j hj => by
        obtain ⟨e, he, rfl, hb⟩ := hall o ho j hj
        exact hd e he hb
      refine Oper.wp_mono ?_ (last o u W ho (hB2 (hA c hc)) (fun j hj => hF j hj (hA j hj)))
      rintro a' W' ⟨u', rfl, h⟩
      refine ⟨u', rfl, .inr ⟨fun j hj => ?_, h⟩⟩
      by_cases e : j = k
      · subst e; exact listed_ne (by omega)
      · rw [getD_other l (Ne.symm e)]; exact hA j (by omega)
    · have hk' : k < n := by omega
      have hfd : ∀ j, j < n → (∃ e ∈ o.after, e.on = j ∧ Region.binds .any e = true) → F j (u (dst j)) := fun j hj ⟨e, he, e1, hb⟩ => hF j hj (by rw [← e1]; exact hd e he hb)
      by_cases ec : k = c
      · subst ec
        refine Oper.wp_mono ?_ (call o u W ho (hB1 hlk) hfd)
        rintro a' W' ⟨v, rfl, hb, hv⟩
        refine ⟨_, rfl, .inl ⟨?_, fun h => ?_, fun _ => hb, ?_⟩⟩
        · rw [getD_other l e]; exact h1
        · rw [listed_ne (by omega)] at h; cases h
        · exact facts_put (dst := dst) (F := fun k t _ => F k t) (w := W) (w' := W') (hinj k hk') hF (fun j _ _ _ t z => z) hv
      · have hAB : A W ∨ B W := by
          cases hh : l.getD c false
          · exact .inl (hB1 hh)
          · exact .inr (hB2 hh)
        refine Oper.wp_mono ?_ (step k o u W hk' ec ho hAB hfd)
        rintro a' W' ⟨v, rfl, rfl, hv⟩
        refine ⟨_, rfl, .inl ⟨?_, fun h => hB1 ?_, fun h => hB2 ?_, ?_⟩⟩
        · rw [getD_other l e]; exact h1
        · rwa [getD_other l ec] at h
        · rwa [getD_other l ec] at h
        · exact facts_put (dst := dst) (F := fun k t _ => F k t) (w := W') (w' := W') (hinj k hk') hF (fun j _ _ _ t z => z) hv
/-- One operation that yields a value and leaves the world as it is. -/
theorem onceV {P : Program} {o : Oper} {D : Nat → Bool} {a0 : Act} {u : Nat → Value} {W : World} {Q : Exit → Act → World → Prop} {F : Value → Prop} {dk : Nat} {v : Value} (hd : o.dst = some dk) (hD : D dk = true) (hrun : (execOp (ovr D a0 u).eval o).run P W = .ok (.value v) W) (hF : F v) :
    o.wp P (ovr D a0 u) W (fun a' W' => ∃ v, a' = ovr D a0 (upd u dk v) ∧ W' = W ∧ F v) Q := wp_value hrun ⟨v, put_in hd hD u v, rfl, hF⟩
theorem onceC {P : Program} {o : Oper} {D : Nat → Bool} {a0 : Act} {u : Nat → Value} {W : World} {Q : Exit → Act → World → Prop} {F : Value → Prop} {B : World → Prop} {dk : Nat} {f : FuncId} {args : Array Value} (hd : o.dst = some dk) (hD : D dk = true) (hrun : (execOp (ovr D a0 u).eval o).run P W = .ok (.enter f args) W) (hc : Calls P f args W fun e w' => ∃ v, e = .returned v ∧ B w' ∧ F v) :
    o.wp P (ovr D a0 u) W (fun a' W' => ∃ v, a' = ovr D a0 (upd u dk v) ∧ B W' ∧ F v) Q := wp_call hrun (hc.mono fun _ _ ⟨v, he, h1, h2⟩ => ⟨v, he, v, put_in hd hD u v, h1, h2⟩)
end Go.Proofs.YtacilbilnbmcbaaGreat.region
namespace Go.Proofs.YtacilbilnbmcbaaGreat.region
open Go

theorem upd_eq (u : Nat → Value) (d : Nat) (v : Value) : upd u d v d = v := by simp [upd]
theorem upd_ne {u : Nat → Value} {d c : Nat} {v : Value} (h : c ≠ d) : upd u d v c = u c := by simp [upd, h]
theorem wp_region_three {P : Program} {id : Nat} {ops : Array Oper} {Q : Exit → Act → World → Prop} {a0 : Act} {w : World} (hm : P.follows .mixedOrders = true) (D : Nat → Bool)
    (hg : ∀ o ∈ ops, o.guard = none) (hacyc : ∀ (k : Nat) (o : Oper), ops[k]? = some o → ∀ e ∈ o.after, Region.binds .any e = true → e.on < k) (n c1 c2 c3 : Nat) (hn : ops.size = n + 1) (h1n : c1 < n) (h2n : c2 < n) (h3n : c3 < n) (h12 : c1 ≠ c2) (h13 : c1 ≠ c3) (h23 : c2 ≠ c3) (dst : Nat → Nat) (hinj : ∀ k, k < n → ∀ j, j < n → dst j = dst k → j = k)
    (F : Nat → Value → Prop) (A0 : World → Prop) (A1 A2 A3 : Value → World → Prop) (hA : A0 w.drew)
    (hall : ∀ o, ops[n]? = some o → ∀ j, j < n → ∃ e ∈ o.after, e.on = j ∧ Region.binds .any e = true)
    (he2 : ∀ o, ops[c2]? = some o → ∃ e ∈ o.after, e.on = c1 ∧ Region.binds .any e = true)
    (he3 : ∀ o, ops[c3]? = some o → ∃ e ∈ o.after, e.on = c2 ∧ Region.binds .any e = true)
    (step : ∀ k o u W, k < n → k ≠ c1 → k ≠ c2 → k ≠ c3 → ops[k]? = some o → (A0 W ∨ A1 (u (dst c1)) W ∨ A2 (u (dst c2)) W ∨ A3 (u (dst c3)) W) → (∀ j, j < n → (∃ e ∈ o.after, e.on = j ∧ Region.binds .any e = true) → F j (u (dst j))) → o.wp P (ovr D a0 u) W (fun a' W' => ∃ v, a' = ovr D a0 (upd u (dst k) v) ∧ W' = W ∧ F k v) Q)
    (call1 : ∀ o u W, ops[c1]? = some o → A0 W → (∀ j, j < n → (∃ e ∈ o.after, e.on = j ∧ Region.binds .any e = true) → F j (u (dst j))) → o.wp P (ovr D a0 u) W (fun a' W' => ∃ v, a' = ovr D a0 (upd u (dst c1) v) ∧ A1 v W' ∧ F c1 v) Q)
    (call2 : ∀ o u W, ops[c2]? = some o → A1 (u (dst c1)) W → (∀ j, j < n → (∃ e ∈ o.after, e.on = j ∧ Region.binds .any e = true) → F j (u (dst j))) → o.wp P (ovr D a0 u) W (fun a' W' => ∃ v, a' = ovr D a0 (upd u (dst c2) v) ∧ A2 v W' ∧ F c2 v) Q)
    (call3 : ∀ o u W, ops[c3]? = some o → A2 (u (dst c2)) W → (∀ j, j < n → (∃ e ∈ o.after, e.on = j ∧ Region.binds .any e = true) → F j (u (dst j))) → o.wp P (ovr D a0 u) W (fun a' W' => ∃ v, a' = ovr D a0 (upd u (dst c3) v) ∧ A3 v W' ∧ F c3 v) Q)
    (last : ∀ o u W, ops[n]? = some o → A3 (u (dst c3)) W → (∀ j, j < n → F j (u (dst j))) → o.wp P (ovr D a0 u) W (fun a' W' => ∃ u', a' = ovr D a0 u' ∧ Q .normal (ovr D a0 u') W') Q) :
    (Code.region id ops true).wp P Q a0 w := by
  refine wp_region_bind hm D hg hacyc (fun l u W => (l.getD n false = false ∧ (l.getD c1 false = false → l.getD c2 false = false) ∧ (l.getD c2 false = false → l.getD c3 false = false) ∧ (l.getD c1 false = false → A0 W) ∧ (l.getD c1 false = true → l.getD c2 false = false → A1 (u (dst c1)) W) ∧ (l.getD c2 false = true → l.getD c3 false = false → A2 (u (dst c2)) W) ∧ (l.getD c3 false = true → A3 (u (dst c3)) W) ∧ ∀ k, k < n → l.getD k false = true → F k (u (dst k))) ∨ ((∀ k, k < n + 1 → l.getD k false = true) ∧ Q .normal (ovr D a0 u) W)) (.inl ⟨?_, fun _ => ?_, fun _ => ?_, fun _ => hA, fun h => ?_, fun h => ?_, fun h => ?_, fun k hk h => ?_⟩) ?_ ?_
  · simp [Array.getD, hn]
  · simp [Array.getD, hn]
  · simp [Array.getD, hn]
  · simp [Array.getD, hn, show c1 < n + 1 by omega] at h
  · simp [Array.getD, hn, show c2 < n + 1 by omega] at h
  · simp [Array.getD, hn, show c3 < n + 1 by omega] at h
  · simp [Array.getD, hn, show k < n + 1 by omega] at h
  · rintro l u W (⟨h1, _⟩ | ⟨_, h⟩) hA
    · rw [hA n (by omega)] at h1
      cases h1
    · exact h
  · rintro l u W k o (⟨h1, k12, k23, B0, B1, B2, B3, hF⟩ | ⟨hA, _⟩) hl hlk ho hd
    case inr =>
      have hk : k < n + 1 := by rw [← hn]; exact (Array.getElem?_eq_some_iff.1 ho).1
      rw [hA k hk] at hlk
      cases hlk
    have hk : k < n + 1 := by rw [← hn]; exact (Array.getElem?_eq_some_iff.1 ho).1
    by_cases e : k = n
    · subst e
      have hA : ∀ j, j < k → l.getD j false = true := fun j hj => by
        obtain ⟨e, he, rfl, hb⟩ := hall o ho j hj
        exact hd e he hb
      refine Oper.wp_mono ?_ (last o u W ho (B3 (hA c3 h3n)) (fun j hj => hF j hj (hA j hj)))
      rintro a' W' ⟨u', rfl, h⟩
      refine ⟨u', rfl, .inr ⟨fun j hj => ?_, h⟩⟩
      by_cases e : j = k
      · subst e; exact listed_ne (by omega)
      · rw [getD_other l (Ne.symm e)]; exact hA j (by omega)
    · have hk' : k < n := by omega
      have hfd : ∀ j, j < n → (∃ e ∈ o.after, e.on = j ∧ Region.binds .any e = true) → F j (u (dst j)) := fun j hj ⟨e, he, e1, hb⟩ => hF j hj (by rw [← e1]; exact hd e he hb)
      have hput : ∀ {v : Value}, F k v → ∀ j, j < n → (l.set! k true).getD j false = true → F j ((upd u (dst k) v) (dst j)) := fun {v} hv => facts_put (dst := dst) (F := fun k t _ => F k t) (w := W) (w' := W) (hinj k hk') hF (fun j _ _ _ t z => z) hv
      have dne : ∀ c, c < n → c ≠ k → ∀ v, (upd u (dst k) v) (dst c) = u (dst c) := fun c hc hck v => upd_ne (fun e => hck (hinj k hk' c hc e))
      by_cases ec1 : k = c1
      · subst ec1
        have l2 := k12 hlk
        have l3 := k23 l2
        refine Oper.wp_mono ?_ (call1 o u W ho (B0 hlk) hfd)
        rintro a' W' ⟨v, rfl, hb, hv⟩
        refine ⟨_, rfl, .inl ⟨?_, fun h => ?_, fun _ => ?_, fun h => ?_, fun _ _ => ?_, fun h => ?_, fun h => ?_, hput hv⟩⟩
        · rw [getD_other l e]; exact h1
        · rw [listed_ne (by omega)] at h; cases h
        · rw [getD_other l h13]; exact l3
        · rw [listed_ne (by omega)] at h; cases h
        · rw [upd_eq]; exact hb
        · rw [getD_other l h12, l2] at h; cases h
        · rw [getD_other l h13, l3] at h; cases h
      · by_cases ec2 : k = c2
        · subst ec2
          have l1 : l.getD c1 false = true := by
            obtain ⟨e, he, e1, hb⟩ := he2 o ho
            rw [← e1]; exact hd e he hb
          have l3 := k23 hlk
          refine Oper.wp_mono ?_ (call2 o u W ho (B1 l1 hlk) hfd)
          rintro a' W' ⟨v, rfl, hb, hv⟩
          refine ⟨_, rfl, .inl ⟨?_, fun h => ?_, fun h => ?_, fun h => ?_, fun _ h => ?_, fun _ _ => ?_, fun h => ?_, hput hv⟩⟩
          · rw [getD_other l e]; exact h1
          · rw [getD_other l ec1, l1] at h; cases h
          · rw [listed_ne (by omega)] at h; cases h
          · rw [getD_other l ec1, l1] at h; cases h
          · rw [listed_ne (by omega)] at h; cases h
          · rw [upd_eq]; exact hb
          · rw [getD_other l h23, l3] at h; cases h
        · by_cases ec3 : k = c3
          · subst ec3
            have l2 : l.getD c2 false = true := by
              obtain ⟨e, he, e1, hb⟩ := he3 o ho
              rw [← e1]; exact hd e he hb
            have l1 : l.getD c1 false = true := by
              cases hh : l.getD c1 false
              · rw [k12 hh] at l2; cases l2
              · rfl
            refine Oper.wp_mono ?_ (call3 o u W ho (B2 l2 hlk) hfd)
            rintro a' W' ⟨v, rfl, hb, hv⟩
            refine ⟨_, rfl, .inl ⟨?_, fun h => ?_, fun h => ?_, fun h => ?_, fun _ h => ?_, fun _ h => ?_, fun _ => ?_, hput hv⟩⟩
            · rw [getD_other l e]; exact h1
            · rw [getD_other l ec1, l1] at h; cases h
            · rw [getD_other l ec2, l2] at h; cases h
            · rw [getD_other l ec1, l1] at h; cases h
            · rw [getD_other l ec2, l2] at h; cases h
            · rw [listed_ne (by omega)] at h; cases h
            · rw [upd_eq]; exact hb
          · have hAB : A0 W ∨ A1 (u (dst c1)) W ∨ A2 (u (dst c2)) W ∨ A3 (u (dst c3)) W := by
              cases hh : l.getD c1 false
              · exact .inl (B0 hh)
              · cases hh2 : l.getD c2 false
                · exact .inr (.inl (B1 hh hh2))
                · cases hh3 : l.getD c3 false
                  · exact .inr (.inr (.inl (B2 hh2 hh3)))
                  · exact .inr (.inr (.inr (B3 hh3)))
            refine Oper.wp_mono ?_ (step k o u W hk' ec1 ec2 ec3 ho hAB hfd)
            rintro a' W' ⟨v, rfl, rfl, hv⟩
            refine ⟨_, rfl, .inl ⟨?_, fun h => ?_, fun h => ?_, fun h => B0 ?_, fun h h' => ?_, fun h h' => ?_, fun h => ?_, hput hv⟩⟩
            · rw [getD_other l e]; exact h1
            · rw [getD_other l ec1] at h; rw [getD_other l ec2]; exact k12 h
            · rw [getD_other l ec2] at h; rw [getD_other l ec3]; exact k23 h
            · rwa [getD_other l ec1] at h
            · rw [dne c1 h1n (Ne.symm ec1)]; rw [getD_other l ec1] at h; rw [getD_other l ec2] at h'; exact B1 h h'
            · rw [dne c2 h2n (Ne.symm ec2)]; rw [getD_other l ec2] at h; rw [getD_other l ec3] at h'; exact B2 h h'
            · rw [dne c3 h3n (Ne.symm ec3)]; rw [getD_other l ec3] at h; exact B3 h
/-- One operation that yields a value and some world. -/
theorem threeW {P : Program} {o : Oper} {D : Nat → Bool} {a0 : Act} {u : Nat → Value} {W W' : World} {Q : Exit → Act → World → Prop} {A : Value → World → Prop} {F : Value → Prop} {dk : Nat} {v : Value} (hd : o.dst = some dk) (hD : D dk = true) (hrun : (execOp (ovr D a0 u).eval o).run P W = .ok (.value v) W') (hA : A v W') (hF : F v) :
    o.wp P (ovr D a0 u) W (fun a' W' => ∃ v, a' = ovr D a0 (upd u dk v) ∧ A v W' ∧ F v) Q := wp_value hrun ⟨v, put_in hd hD u v, hA, hF⟩
theorem threeC {P : Program} {o : Oper} {D : Nat → Bool} {a0 : Act} {u : Nat → Value} {W : World} {Q : Exit → Act → World → Prop} {A : Value → World → Prop} {F : Value → Prop} {dk : Nat} {f : FuncId} {args : Array Value} (hd : o.dst = some dk) (hD : D dk = true) (hrun : (execOp (ovr D a0 u).eval o).run P W = .ok (.enter f args) W) (hc : Calls P f args W fun e w' => ∃ v, e = .returned v ∧ A v w' ∧ F v) :
    o.wp P (ovr D a0 u) W (fun a' W' => ∃ v, a' = ovr D a0 (upd u dk v) ∧ A v W' ∧ F v) Q := wp_call hrun (hc.mono fun _ _ ⟨v, he, h1, h2⟩ => ⟨v, he, v, put_in hd hD u v, h1, h2⟩)
end Go.Proofs.YtacilbilnbmcbaaGreat.region
namespace Go.Proofs.YtacilbilnbmcbaaGreat.region
open Go Go.RowKit

theorem ovr_congr {D : Nat → Bool} {a0 : Act} {u u' : Nat → Value} (h : ∀ s, D s = true → u s = u' s) : ovr D a0 u = ovr D a0 u' := by
  unfold ovr
  congr 2
  refine List.map_congr_left fun s _ => ?_
  cases e : D s
  · rfl
  · simp [h s e]
theorem put_dummy {D : Nat → Bool} {a0 : Act} {o : Oper} {d : Nat} (ho : o.dst = none) (hd : D d = false) (u : Nat → Value) (v v' : Value) : (ovr D a0 u).put o.dst v' = ovr D a0 (upd u d v) := by
  rw [ho]
  show ovr D a0 u = _
  refine ovr_congr fun s hs => ?_
  unfold upd
  rw [if_neg]
  rintro rfl
  rw [hd] at hs
  cases hs
theorem wp_skipped {P : Program} {o : Oper} {a : Act} {w w' : World} {K : Act → World → Prop} {Q : Exit → Act → World → Prop} (h : (execOp a.eval o).run P w = .ok .skip w') (hk : K (a.put o.dst undef) w') : o.wp P a w K Q := wp_skip' h hk
section
variable {P : Program} {ops : Array Oper} {o : Oper} {D : Nat → Bool} {a0 : Act} {u : Nat → Value} {W : World} {Q : Exit → Act → World → Prop} {R : World → World → Prop} {F : Value → World → Prop} {dk : Nat}
/-- One operation that yields a value and leaves the world as it is. -/
theorem tellV {v : Value} (hg : o.guard = none) (hd : o.dst = some dk) (hD : D dk = true) (hrun : (execOp (ovr D a0 u).eval o).run P W = .ok (.value v) W) (hR : R W W) (hF : F v W) :
    (Region.wanted o (yielded ops (ovr D a0 u).tmps) = true ∧ o.wp P (ovr D a0 u) W (fun a' W' => ∃ v, a' = ovr D a0 (upd u dk v) ∧ R W W' ∧ F v W') Q) ∨ (Region.wanted o (yielded ops (ovr D a0 u).tmps) = false ∧ o.dst = some dk ∧ D dk = true ∧ F undef W) :=
  .inl ⟨wanted_none hg, wp_value hrun ⟨v, put_in hd hD u v, hR, hF⟩⟩
/-- One call. -/
theorem tellC {f : FuncId} {args : Array Value} (hg : o.guard = none) (hd : o.dst = some dk) (hD : D dk = true) (hrun : (execOp (ovr D a0 u).eval o).run P W = .ok (.enter f args) W) (hc : Calls P f args W fun e w' => ∃ v, e = .returned v ∧ R W w' ∧ F v w') :
    (Region.wanted o (yielded ops (ovr D a0 u).tmps) = true ∧ o.wp P (ovr D a0 u) W (fun a' W' => ∃ v, a' = ovr D a0 (upd u dk v) ∧ R W W' ∧ F v W') Q) ∨ (Region.wanted o (yielded ops (ovr D a0 u).tmps) = false ∧ o.dst = some dk ∧ D dk = true ∧ F undef W) :=
  .inl ⟨wanted_none hg, wp_call hrun (hc.mono fun _ _ ⟨v, he, h1, h2⟩ => ⟨v, he, v, put_in hd hD u v, h1, h2⟩)⟩
/-- One store. -/
theorem tellS {W' : World} (hg : o.guard = none) (hd : o.dst = none) (hD : D dk = false) (hrun : (execOp (ovr D a0 u).eval o).run P W = .ok .skip W') (hR : R W W') (hF : F undef W') :
    (Region.wanted o (yielded ops (ovr D a0 u).tmps) = true ∧ o.wp P (ovr D a0 u) W (fun a' W' => ∃ v, a' = ovr D a0 (upd u dk v) ∧ R W W' ∧ F v W') Q) ∨ (Region.wanted o (yielded ops (ovr D a0 u).tmps) = false ∧ o.dst = some dk ∧ D dk = true ∧ F undef W) :=
  .inl ⟨wanted_none hg, wp_skipped hrun ⟨undef, put_dummy hd hD u undef undef, hR, hF⟩⟩
end
section
variable {P : Program} {o : Oper} {D : Nat → Bool} {a0 : Act} {u : Nat → Value} {W : World} {Q : Exit → Act → World → Prop} {F : Value → World → Prop} {dk : Nat}
/-- The same where nothing is changed till the last operation (wp_region_plain): a value, a call, the store. -/
theorem plainV {v : Value} (hd : o.dst = some dk) (hD : D dk = true) (hrun : (execOp (ovr D a0 u).eval o).run P W = .ok (.value v) W) (hF : F v W) :
    o.wp P (ovr D a0 u) W (fun a' W' => ∃ v, a' = ovr D a0 (upd u dk v) ∧ Below W.heap.size W W' ∧ F v W') Q := wp_value hrun ⟨v, put_in hd hD u v, Below.refl _ _, hF⟩
theorem plainC {f : FuncId} {args : Array Value} (hd : o.dst = some dk) (hD : D dk = true) (hrun : (execOp (ovr D a0 u).eval o).run P W = .ok (.enter f args) W) (hc : Calls P f args W fun e w' => ∃ v, e = .returned v ∧ Below W.heap.size W w' ∧ F v w') :
    o.wp P (ovr D a0 u) W (fun a' W' => ∃ v, a' = ovr D a0 (upd u dk v) ∧ Below W.heap.size W W' ∧ F v W') Q := wp_call hrun (hc.mono fun _ _ ⟨v, he, h1, h2⟩ => ⟨v, he, v, put_in hd hD u v, h1, h2⟩)
theorem plainS {W' : World} (hd : o.dst = none) (hrun : (execOp (ovr D a0 u).eval o).run P W = .ok .skip W') (hQ : Q .normal (ovr D a0 u) W') :
    o.wp P (ovr D a0 u) W (fun a' W' => ∃ u', a' = ovr D a0 u' ∧ Q .normal (ovr D a0 u') W') Q := wp_skipped hrun ⟨u, put_no hd u undef, hQ⟩
end
end Go.Proofs.YtacilbilnbmcbaaGreat.region
namespace Go.Proofs.YtacilbilnbmcbaaGreat.region
open Go

theorem wp_region_four {P : Program} {id : Nat} {ops : Array Oper} {Q : Exit → Act → World → Prop} {a0 : Act} {w : World} (hm : P.follows .mixedOrders = true) (D : Nat → Bool)
    (hg : ∀ o ∈ ops, o.guard = none) (hacyc : ∀ (k : Nat) (o : Oper), ops[k]? = some o → ∀ e ∈ o.after, Region.binds .any e = true → e.on < k) (n c1 c2 c3 c4 : Nat) (hn : ops.size = n + 1) (h1n : c1 < n) (h2n : c2 < n) (h3n : c3 < n) (h4n : c4 < n) (h12 : c1 ≠ c2) (h13 : c1 ≠ c3) (h14 : c1 ≠ c4) (h23 : c2 ≠ c3) (h24 : c2 ≠ c4) (h34 : c3 ≠ c4) (dst : Nat → Nat) (hinj : ∀ k, k < n → ∀ j, j < n → dst j = dst k → j = k)
    (F : Nat → Value → Prop) (A0 : World → Prop) (A1 A2 A3 A4 : Value → World → Prop) (hA : A0 w.drew)
    (hall : ∀ o, ops[n]? = some o → ∀ j, j < n → ∃ e ∈ o.after, e.on = j ∧ Region.binds .any e = true)
    (he2 : ∀ o, ops[c2]? = some o → ∃ e ∈ o.after, e.on = c1 ∧ Region.binds .any e = true)
    (he3 : ∀ o, ops[c3]? = some o → ∃ e ∈ o.after, e.on = c2 ∧ Region.binds .any e = true)
    (he4 : ∀ o, ops[c4]? = some o → ∃ e ∈ o.after, e.on = c3 ∧ Region.binds .any e = true)
    (step : ∀ k o u W, k < n → k ≠ c1 → k ≠ c2 → k ≠ c3 → k ≠ c4 → ops[k]? = some o → (A0 W ∨ A1 (u (dst c1)) W ∨ A2 (u (dst c2)) W ∨ A3 (u (dst c3)) W ∨ A4 (u (dst c4)) W) → (∀ j, j < n → (∃ e ∈ o.after, e.on = j ∧ Region.binds .any e = true) → F j (u (dst j))) → o.wp P (ovr D a0 u) W (fun a' W' => ∃ v, a' = ovr D a0 (upd u (dst k) v) ∧ W' = W ∧ F k v) Q)
    (call1 : ∀ o u W, ops[c1]? = some o → A0 W → (∀ j, j < n → (∃ e ∈ o.after, e.on = j ∧ Region.binds .any e = true) → F j (u (dst j))) → o.wp P (ovr D a0 u) W (fun a' W' => ∃ v, a' = ovr D a0 (upd u (dst c1) v) ∧ A1 v W' ∧ F c1 v) Q)
    (call2 : ∀ o u W, ops[c2]? = some o → A1 (u (dst c1)) W → (∀ j, j < n → (∃ e ∈ o.after, e.on = j ∧ Region.binds .any e = true) → F j (u (dst j))) → o.wp P (ovr D a0 u) W (fun a' W' => ∃ v, a' = ovr D a0 (upd u (dst c2) v) ∧ A2 v W' ∧ F c2 v) Q)
    (call3 : ∀ o u W, ops[c3]? = some o → A2 (u (dst c2)) W → (∀ j, j < n → (∃ e ∈ o.after, e.on = j ∧ Region.binds .any e = true) → F j (u (dst j))) → o.wp P (ovr D a0 u) W (fun a' W' => ∃ v, a' = ovr D a0 (upd u (dst c3) v) ∧ A3 v W' ∧ F c3 v) Q)
    (call4 : ∀ o u W, ops[c4]? = some o → A3 (u (dst c3)) W → (∀ j, j < n → (∃ e ∈ o.after, e.on = j ∧ Region.binds .any e = true) → F j (u (dst j))) → o.wp P (ovr D a0 u) W (fun a' W' => ∃ v, a' = ovr D a0 (upd u (dst c4) v) ∧ A4 v W' ∧ F c4 v) Q)
    (last : ∀ o u W, ops[n]? = some o → A4 (u (dst c4)) W → (∀ j, j < n → F j (u (dst j))) → o.wp P (ovr D a0 u) W (fun a' W' => ∃ u', a' = ovr D a0 u' ∧ Q .normal (ovr D a0 u') W') Q) :
    (Code.region id ops true).wp P Q a0 w := by
  refine wp_region_bind hm D hg hacyc (fun l u W => (l.getD n false = false ∧ (l.getD c1 false = false → l.getD c2 false = false) ∧ (l.getD c2 false = false → l.getD c3 false = false) ∧ (l.getD c3 false = false → l.getD c4 false = false) ∧ (l.getD c1 false = false → A0 W) ∧ (l.getD c1 false = true → l.getD c2 false = false → A1 (u (dst c1)) W) ∧ (l.getD c2 false = true → l.getD c3 false = false → A2 (u (dst c2)) W) ∧ (l.getD c3 false = true → l.getD c4 false = false → A3 (u (dst c3)) W) ∧ (l.getD c4 false = true → A4 (u (dst c4)) W) ∧ ∀ k, k < n → l.getD k false = true → F k (u (dst k))) ∨ ((∀ k, k < n + 1 → l.getD k false = true) ∧ Q .normal (ovr D a0 u) W)) (.inl ⟨?_, fun _ => ?_, fun _ => ?_, fun _ => ?_, fun _ => hA, fun h => ?_, fun h => ?_, fun h => ?_, fun h => ?_, fun k hk h => ?_⟩) ?_ ?_
  · simp [Array.getD, hn]
  · simp [Array.getD, hn]
  · simp [Array.getD, hn]
  · simp [Array.getD, hn]
  · simp [Array.getD, hn, show c1 < n + 1 by omega] at h
  · simp [Array.getD, hn, show c2 < n + 1 by omega] at h
  · simp [Array.getD, hn, show c3 < n + 1 by omega] at h
  · simp [Array.getD, hn, show c4 < n + 1 by omega] at h
  · simp [Array.getD, hn, show k < n + 1 by omega] at h
  · rintro l u W (⟨h1, _⟩ | ⟨_, h⟩) hA
    · rw [hA n (by omega)] at h1
      cases h1
    · exact h
  · rintro l u W k o (⟨h1, k12, k23, k34, B0, B1, B2, B3, B4, hF⟩ | ⟨hA, _⟩) hl hlk ho hd
    case inr =>
      have hk : k < n + 1 := by rw [← hn]; exact (Array.getElem?_eq_some_iff.1 ho).1
      rw [hA k hk] at hlk
      cases hlk
    have hk : k < n + 1 := by rw [← hn]; exact (Array.getElem?_eq_some_iff.1 ho).1
    by_cases e : k = n
    · subst e
      have hA : ∀ j, j < k → l.getD j false = true := fun j hj => by
        obtain ⟨e, he, rfl, hb⟩ := hall o ho j hj
        exact hd e he hb
      refine Oper.wp_mono ?_ (last o u W ho (B4 (hA c4 h4n)) (fun j hj => hF j hj (hA j hj)))
      rintro a' W' ⟨u', rfl, h⟩
      refine ⟨u', rfl, .inr ⟨fun j hj => ?_, h⟩⟩
      by_cases e : j = k
      · subst e; exact listed_ne (by omega)
      · rw [getD_other l (Ne.symm e)]; exact hA j (by omega)
    · have hk' : k < n := by omega
      have hfd : ∀ j, j < n → (∃ e ∈ o.after, e.on = j ∧ Region.binds .any e = true) → F j (u (dst j)) := fun j hj ⟨e, he, e1, hb⟩ => hF j hj (by rw [← e1]; exact hd e he hb)
      have hput : ∀ {v : Value}, F k v → ∀ j, j < n → (l.set! k true).getD j false = true → F j ((upd u (dst k) v) (dst j)) := fun {v} hv => facts_put (dst := dst) (F := fun k t _ => F k t) (w := W) (w' := W) (hinj k hk') hF (fun j _ _ _ t z => z) hv
      have dne : ∀ c, c < n → c ≠ k → ∀ v, (upd u (dst k) v) (dst c) = u (dst c) := fun c hc hck v => upd_ne (fun e => hck (hinj k hk' c hc e))
      by_cases ec1 : k = c1
      · subst ec1
        have l2 := k12 hlk
        have l3 := k23 l2
        have l4 := k34 l3
        refine Oper.wp_mono ?_ (call1 o u W ho (B0 hlk) hfd)
        rintro a' W' ⟨v, rfl, hb, hv⟩
        refine ⟨_, rfl, .inl ⟨?_, fun h => ?_, fun _ => ?_, fun _ => ?_, fun h => ?_, fun _ _ => ?_, fun h => ?_, fun h => ?_, fun h => ?_, hput hv⟩⟩
        · rw [getD_other l e]; exact h1
        · rw [listed_ne (by omega)] at h; cases h
        · rw [getD_other l h13]; exact l3
        · rw [getD_other l h14]; exact l4
        · rw [listed_ne (by omega)] at h; cases h
        · rw [upd_eq]; exact hb
        · rw [getD_other l h12, l2] at h; cases h
        · rw [getD_other l h13, l3] at h; cases h
        · rw [getD_other l h14, l4] at h; cases h
      · skip
        by_cases ec2 : k = c2
        · subst ec2
          have l1 : l.getD c1 false = true := by
            obtain ⟨e, he, e1, hb⟩ := he2 o ho
            rw [← e1]; exact hd e he hb
          have l3 := k23 hlk
          have l4 := k34 l3
          refine Oper.wp_mono ?_ (call2 o u W ho (B1 l1 hlk) hfd)
          rintro a' W' ⟨v, rfl, hb, hv⟩
          refine ⟨_, rfl, .inl ⟨?_, fun h => ?_, fun h => ?_, fun _ => ?_, fun h => ?_, fun _ h => ?_, fun _ _ => ?_, fun h => ?_, fun h => ?_, hput hv⟩⟩
          · rw [getD_other l e]; exact h1
          · rw [getD_other l (Ne.symm h12), l1] at h; cases h
          · rw [listed_ne (by omega)] at h; cases h
          · rw [getD_other l h24]; exact l4
          · rw [getD_other l (Ne.symm h12), l1] at h; cases h
          · rw [listed_ne (by omega)] at h; cases h
          · rw [upd_eq]; exact hb
          · rw [getD_other l h23, l3] at h; cases h
          · rw [getD_other l h24, l4] at h; cases h
        · skip
          by_cases ec3 : k = c3
          · subst ec3
            have l2 : l.getD c2 false = true := by
              obtain ⟨e, he, e1, hb⟩ := he3 o ho
              rw [← e1]; exact hd e he hb
            have l1 : l.getD c1 false = true := by
              cases hh : l.getD c1 false
              · rw [k12 hh] at l2; cases l2
              · rfl
            have l4 := k34 hlk
            refine Oper.wp_mono ?_ (call3 o u W ho (B2 l2 hlk) hfd)
            rintro a' W' ⟨v, rfl, hb, hv⟩
            refine ⟨_, rfl, .inl ⟨?_, fun h => ?_, fun h => ?_, fun h => ?_, fun h => ?_, fun _ h => ?_, fun _ h => ?_, fun _ _ => ?_, fun h => ?_, hput hv⟩⟩
            · rw [getD_other l e]; exact h1
            · rw [getD_other l (Ne.symm h13), l1] at h; cases h
            · rw [getD_other l (Ne.symm h23), l2] at h; cases h
            · rw [listed_ne (by omega)] at h; cases h
            · rw [getD_other l (Ne.symm h13), l1] at h; cases h
            · rw [getD_other l (Ne.symm h23), l2] at h; cases h
            · rw [listed_ne (by omega)] at h; cases h
            · rw [upd_eq]; exact hb
            · rw [getD_other l h34, l4] at h; cases h
          · skip
            by_cases ec4 : k = c4
            · subst ec4
              have l3 : l.getD c3 false = true := by
                obtain ⟨e, he, e1, hb⟩ := he4 o ho
                rw [← e1]; exact hd e he hb
              have l2 : l.getD c2 false = true := by
                cases hh : l.getD c2 false
                · rw [k23 hh] at l3; cases l3
                · rfl
              have l1 : l.getD c1 false = true := by
                cases hh : l.getD c1 false
                · rw [k12 hh] at l2; cases l2
                · rfl
              refine Oper.wp_mono ?_ (call4 o u W ho (B3 l3 hlk) hfd)
              rintro a' W' ⟨v, rfl, hb, hv⟩
              refine ⟨_, rfl, .inl ⟨?_, fun h => ?_, fun h => ?_, fun h => ?_, fun h => ?_, fun _ h => ?_, fun _ h => ?_, fun _ h => ?_, fun _ => ?_, hput hv⟩⟩
              · rw [getD_other l e]; exact h1
              · rw [getD_other l (Ne.symm h14), l1] at h; cases h
              · rw [getD_other l (Ne.symm h24), l2] at h; cases h
              · rw [getD_other l (Ne.symm h34), l3] at h; cases h
              · rw [getD_other l (Ne.symm h14), l1] at h; cases h
              · rw [getD_other l (Ne.symm h24), l2] at h; cases h
              · rw [getD_other l (Ne.symm h34), l3] at h; cases h
              · rw [listed_ne (by omega)] at h; cases h
              · rw [upd_eq]; exact hb
            · skip
              have hAB : A0 W ∨ A1 (u (dst c1)) W ∨ A2 (u (dst c2)) W ∨ A3 (u (dst c3)) W ∨ A4 (u (dst c4)) W := by
                cases hh1 : l.getD c1 false
                · exact .inl (B0 hh1)
                · skip
                  cases hh2 : l.getD c2 false
                  · exact .inr (.inl (B1 hh1 hh2))
                  · skip
                    cases hh3 : l.getD c3 false
                    · exact .inr (.inr (.inl (B2 hh2 hh3)))
                    · skip
                      cases hh4 : l.getD c4 false
                      · exact .inr (.inr (.inr (.inl (B3 hh3 hh4))))
                      · exact .inr (.inr (.inr (.inr (B4 hh4))))
              refine Oper.wp_mono ?_ (step k o u W hk' ec1 ec2 ec3 ec4 ho hAB hfd)
              rintro a' W' ⟨v, rfl, rfl, hv⟩
              refine ⟨_, rfl, .inl ⟨?_, fun h => ?_, fun h => ?_, fun h => ?_, fun h => B0 ?_, fun h h' => ?_, fun h h' => ?_, fun h h' => ?_, fun h => ?_, hput hv⟩⟩
              · rw [getD_other l e]; exact h1
              · rw [getD_other l ec1] at h; rw [getD_other l ec2]; exact k12 h
              · rw [getD_other l ec2] at h; rw [getD_other l ec3]; exact k23 h
              · rw [getD_other l ec3] at h; rw [getD_other l ec4]; exact k34 h
              · rwa [getD_other l ec1] at h
              · rw [dne c1 h1n (Ne.symm ec1)]; rw [getD_other l ec1] at h; rw [getD_other l ec2] at h'; exact B1 h h'
              · rw [dne c2 h2n (Ne.symm ec2)]; rw [getD_other l ec2] at h; rw [getD_other l ec3] at h'; exact B2 h h'
              · rw [dne c3 h3n (Ne.symm ec3)]; rw [getD_other l ec3] at h; rw [getD_other l ec4] at h'; exact B3 h h'
              · rw [dne c4 h4n (Ne.symm ec4)]; rw [getD_other l ec4] at h; exact B4 h
end Go.Proofs.YtacilbilnbmcbaaGreat.region
