/-
  A drawn region with a store among its operations: the store's fact lies at a slot that is none.
  Made from the template RegionTell.
-/
import Derived.Test.YthhpgbhgijlcpaaDoorRegionGuard
namespace Go.Proofs.YthhpgbhgijlcpaaDoor.region
open Go Go.RowKit

theorem ovr_congr {D : Nat → Bool} {a0 : Act} {u u' : Nat → Value} (h : ∀ s, D s = true → u s = u' s) : ovr D a0 u = ovr D a0 u' := by
  unfold ovr
  congr 2
  refine List.map_congr_left fun s _ => ?_
  cases e : D s
  · rfl
  · simp [h s e]
theorem put_dummy {D : Nat → Bool} {a0 : Act} {o : Oper} {d : Nat} (ho : o.dst = none) (hd : D d = false) (u : Nat → Value) (v v' : Value) : (ovr D a0 u).put o.dst v' = ovr D a0 (upd u d v) := by
  rw [ho]
  show ovr D a0 u = _
  refine ovr_congr fun s hs => ?_
  unfold upd
  rw [if_neg]
  rintro rfl
  rw [hd] at hs
  cases hs
theorem wp_skipped {P : Program} {o : Oper} {a : Act} {w w' : World} {K : Act → World → Prop} {Q : Exit → Act → World → Prop} (h : (execOp a.eval o).run P w = .ok .skip w') (hk : K (a.put o.dst undef) w') : o.wp P a w K Q := wp_skip' h hk
section
variable {P : Program} {ops : Array Oper} {o : Oper} {D : Nat → Bool} {a0 : Act} {u : Nat → Value} {W : World} {Q : Exit → Act → World → Prop} {R : World → World → Prop} {F : Value → World → Prop} {dk : Nat}
/-- One operation that yields a value and leaves the world as it is. -/
theorem tellV {v : Value} (hg : o.guard = none) (hd : o.dst = some dk) (hD : D dk = true) (hrun : (execOp (ovr D a0 u).eval o).run P W = .ok (.value v) W) (hR : R W W) (hF : F v W) :
    (Region.wanted o (yielded ops (ovr D a0 u).tmps) = true ∧ o.wp P (ovr D a0 u) W (fun a' W' => ∃ v, a' = ovr D a0 (upd u dk v) ∧ R W W' ∧ F v W') Q) ∨ (Region.wanted o (yielded ops (ovr D a0 u).tmps) = false ∧ o.dst = some dk ∧ D dk = true ∧ F undef W) :=
  .inl ⟨wanted_none hg, wp_value hrun ⟨v, put_in hd hD u v, hR, hF⟩⟩
/-- One call. -/
theorem tellC {f : FuncId} {args : Array Value} (hg : o.guard = none) (hd : o.dst = some dk) (hD : D dk = true) (hrun : (execOp (ovr D a0 u).eval o).run P W = .ok (.enter f args) W) (hc : Calls P f args W fun e w' => ∃ v, e = .returned v ∧ R W w' ∧ F v w') :
    (Region.wanted o (yielded ops (ovr D a0 u).tmps) = true ∧ o.wp P (ovr D a0 u) W (fun a' W' => ∃ v, a' = ovr D a0 (upd u dk v) ∧ R W W' ∧ F v W') Q) ∨ (Region.wanted o (yielded ops (ovr D a0 u).tmps) = false ∧ o.dst = some dk ∧ D dk = true ∧ F undef W) :=
  .inl ⟨wanted_none hg, wp_call hrun (hc.mono fun _ _ ⟨v, he, h1, h2⟩ => ⟨v, he, v, put_in hd hD u v, h1, h2⟩)⟩
/-- One store. -/
theorem tellS {W' : World} (hg : o.guard = none) (hd : o.dst = none) (hD : D dk = false) (hrun : (execOp (ovr D a0 u).eval o).run P W = .ok .skip W') (hR : R W W') (hF : F undef W') :
    (Region.wanted o (yielded ops (ovr D a0 u).tmps) = true ∧ o.wp P (ovr D a0 u) W (fun a' W' => ∃ v, a' = ovr D a0 (upd u dk v) ∧ R W W' ∧ F v W') Q) ∨ (Region.wanted o (yielded ops (ovr D a0 u).tmps) = false ∧ o.dst = some dk ∧ D dk = true ∧ F undef W) :=
  .inl ⟨wanted_none hg, wp_skipped hrun ⟨undef, put_dummy hd hD u undef undef, hR, hF⟩⟩
end
section
variable {P : Program} {o : Oper} {D : Nat → Bool} {a0 : Act} {u : Nat → Value} {W : World} {Q : Exit → Act → World → Prop} {F : Value → World → Prop} {dk : Nat}
/-- The same where nothing is changed till the last operation (wp_region_plain): a value, a call, the store. -/
theorem plainV {v : Value} (hd : o.dst = some dk) (hD : D dk = true) (hrun : (execOp (ovr D a0 u).eval o).run P W = .ok (.value v) W) (hF : F v W) :
    o.wp P (ovr D a0 u) W (fun a' W' => ∃ v, a' = ovr D a0 (upd u dk v) ∧ Below W.heap.size W W' ∧ F v W') Q := wp_value hrun ⟨v, put_in hd hD u v, Below.refl _ _, hF⟩
theorem plainC {f : FuncId} {args : Array Value} (hd : o.dst = some dk) (hD : D dk = true) (hrun : (execOp (ovr D a0 u).eval o).run P W = .ok (.enter f args) W) (hc : Calls P f args W fun e w' => ∃ v, e = .returned v ∧ Below W.heap.size W w' ∧ F v w') :
    o.wp P (ovr D a0 u) W (fun a' W' => ∃ v, a' = ovr D a0 (upd u dk v) ∧ Below W.heap.size W W' ∧ F v W') Q := wp_call hrun (hc.mono fun _ _ ⟨v, he, h1, h2⟩ => ⟨v, he, v, put_in hd hD u v, h1, h2⟩)
theorem plainS {W' : World} (hd : o.dst = none) (hrun : (execOp (ovr D a0 u).eval o).run P W = .ok .skip W') (hQ : Q .normal (ovr D a0 u) W') :
    o.wp P (ovr D a0 u) W (fun a' W' => ∃ u', a' = ovr D a0 u' ∧ Q .normal (ovr D a0 u') W') Q := wp_skipped hrun ⟨u, put_no hd u undef, hQ⟩
end
end Go.Proofs.YthhpgbhgijlcpaaDoor.region
