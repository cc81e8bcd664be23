/-
  slices.SortFunc over numbers, laid over the program: which function and type of the library's own text is which one here. Chapter 7 as the program has it: how two that grieve are held against each other. A region that draws its order, by an invariant of what has come up, of the frame and of the world: each operation that may come up keeps it, in whatever order; no branching. A region that draws its order, by facts: what is known of the slot of each operation that has come up, and of the world. A drawn region's operations, handed in by their numbers.
-/
import Derived.Test.YtfajnnibkcnkaalRows
import Derived.WalkKit
import Derived.Shelf.SlSortCmp.NoneTotal
import Derived.Test.YtfajnnibkcnkaalM9
import Derived.Test.YtfajnnibkcnkaalProg
import Derived.Orders
import Derived.Deep.Quiet
namespace Go.Proofs.Ytfajnnibkcnkaal.gr
open Go Go.RowKit Go.Shelf

def lsort_ren : Go.Shelf.Ren := ⟨fun | 6 => 75 | 15 => 99 | 14 => 98 | 28 => 125 | 29 => 126 | 20 => 117 | 21 => 118 | 22 => 119 | 23 => 120 | 24 => 121 | 25 => 122 | 26 => 123 | 27 => 124 | 46 => 135 | 47 => 136 | 48 => 137 | 49 => 138 | 50 => 139 | 57 => 140 | n => n, fun | 22 => 56 | 24 => 3 | 25 => 101 | 3 => 3 | 39 => 122 | 0 => 0 | 53 => 147 | 55 => 149 | 4 => 4 | 46 => 141 | 45 => 140 | 50 => 91 | 5 => 5 | 9 => 9 | 66 => 157 | 70 => 161 | 76 => 163 | 77 => 164 | n => n, fun | n => n⟩
theorem lsort : Go.Proofs.SlLaysF.n6 Try.prog lsort_ren := {
  mixed := by kernel_rfl
  f6 := ⟨Try.f75.name, by decide, Try.func75.trans (congrArg some (by kernel_rfl))⟩
  f14 := ⟨Try.f98.name, by decide, Try.func98.trans (congrArg some (by kernel_rfl))⟩
  f15 := Try.func99.trans (congrArg some (by kernel_rfl))
  f20 := ⟨Try.f117.name, by decide, Try.func117.trans (congrArg some (by kernel_rfl))⟩
  f21 := ⟨Try.f118.name, by decide, Try.func118.trans (congrArg some (by kernel_rfl))⟩
  f22 := ⟨Try.f119.name, by decide, Try.func119.trans (congrArg some (by kernel_rfl))⟩
  f23 := ⟨Try.f120.name, by decide, Try.func120.trans (congrArg some (by kernel_rfl))⟩
  f24 := ⟨Try.f121.name, by decide, Try.func121.trans (congrArg some (by kernel_rfl))⟩
  f25 := ⟨Try.f122.name, by decide, Try.func122.trans (congrArg some (by kernel_rfl))⟩
  f26 := ⟨Try.f123.name, by decide, Try.func123.trans (congrArg some (by kernel_rfl))⟩
  f27 := ⟨Try.f124.name, by decide, Try.func124.trans (congrArg some (by kernel_rfl))⟩
  f28 := Try.func125.trans (congrArg some (by kernel_rfl))
  f29 := Try.func126.trans (congrArg some (by kernel_rfl))
  f46 := ⟨Try.f135.name, by decide, Try.func135.trans (congrArg some (by kernel_rfl))⟩
  f47 := Try.func136.trans (congrArg some (by kernel_rfl))
  f48 := Try.func137.trans (congrArg some (by kernel_rfl))
  f49 := ⟨Try.f138.name, by decide, Try.func138.trans (congrArg some (by kernel_rfl))⟩
  f50 := ⟨Try.f139.name, by decide, Try.func139.trans (congrArg some (by kernel_rfl))⟩
  f57 := ⟨Try.f140.name, by decide, Try.func140.trans (congrArg some (by kernel_rfl))⟩
  t0 := Try.underlying0
  a0 := Try.isAgg0
  z0 := Try.sizeOf0
  v0 := Try.zeroValue0
  t3 := Try.underlying3
  a3 := Try.isAgg3
  z3 := Try.sizeOf3
  v3 := Try.zeroValue3
  t4 := Try.underlying4
  a4 := Try.isAgg4
  z4 := Try.sizeOf4
  v4 := Try.zeroValue4
  t5 := Try.underlying5
  a5 := Try.isAgg5
  z5 := Try.sizeOf5
  v5 := Try.zeroValue5
  t9 := Try.underlying9
  a9 := Try.isAgg9
  z9 := Try.sizeOf9
  v9 := Try.zeroValue9
  t22 := Try.underlying56
  a22 := Try.isAgg56
  z22 := Try.sizeOf56
  v22 := Try.zeroValue56
  a24 := Try.isAgg3
  z24 := Try.sizeOf3
  t25 := Try.underlying101
  a25 := Try.isAgg101
  z25 := Try.sizeOf101
  v25 := Try.zeroValue101
  t39 := Try.underlying122
  a39 := Try.isAgg122
  z39 := Try.sizeOf122
  v39 := Try.zeroValue122
  t45 := Try.underlying140
  a45 := Try.isAgg140
  z45 := Try.sizeOf140
  v45 := Try.zeroValue140
  t46 := Try.underlying141
  a46 := Try.isAgg141
  z46 := Try.sizeOf141
  v46 := Try.zeroValue141
  t50 := Try.underlying91
  a50 := Try.isAgg91
  z50 := Try.sizeOf91
  v50 := Try.zeroValue91
  t53 := Try.underlying147
  a53 := Try.isAgg147
  z53 := Try.sizeOf147
  v53 := Try.zeroValue147
  t55 := Try.underlying149
  a55 := Try.isAgg149
  z55 := Try.sizeOf149
  v55 := Try.zeroValue149
  t66 := Try.underlying157
  a66 := Try.isAgg157
  z66 := Try.sizeOf157
  v66 := Try.zeroValue157
  t70 := Try.underlying161
  a70 := Try.isAgg161
  z70 := Try.sizeOf161
  v70 := Try.zeroValue161
  t76 := Try.underlying163
  a76 := Try.isAgg163
  z76 := Try.sizeOf163
  v76 := Try.zeroValue163
  t77 := Try.underlying164
  a77 := Try.isAgg164
  z77 := Try.sizeOf164
  v77 := Try.zeroValue164 }
end Go.Proofs.Ytfajnnibkcnkaal.gr
namespace Go.Proofs.Ytfajnnibkcnkaal.gr
open Go.RowKit rows heads
set_option maxRecDepth 100000
set_option linter.unusedVariables false

def orI (u v : Int) : Int := if u = 0 then v else u
set_option maxHeartbeats 2000000 in
theorem or2_any {w : World} {b : Nat} {u v : Int} (h0 : w.cell? ⟨b, 0, none⟩ = some (.int .i64 u)) (h1 : w.cell? ⟨b, 1, none⟩ = some (.int .i64 v)) :
    Calls Try.prog 77 #[.slice (some ⟨b, 0, none⟩) 2 2] w fun e w' => e = .returned (.int .i64 (orI u v)) ∧ w' = w := by
  by_cases hu : u = 0
  · subst hu
    have ER : Hid (orI 0 v = v) := rfl
    by_cases hv : v = 0
    · subst hv
      go_enter Try.func77, Try.ntmps77
      go_wp2_with fail
      refine wp_loop_rounds 3 ?_
      rw [rounds_succ]
      go_wp2
      rw [rounds_succ]
      go_wp2
      rw [rounds_succ]
      go_wp2
      go_ret
      exact ⟨rfl, rfl⟩
    · have hv' : (v != 0) = true := by simpa using hv
      go_enter Try.func77, Try.ntmps77
      go_wp2_with fail
      refine wp_loop_rounds 2 ?_
      rw [rounds_succ]
      go_wp2
      rw [rounds_succ]
      go_wp2
      go_ret
      exact ⟨rfl, rfl⟩
  · have hu' : (u != 0) = true := by simpa using hu
    have ER : Hid (orI u v = u) := by show _ = _; unfold orI; rw [if_neg hu]
    go_enter Try.func77, Try.ntmps77
    go_wp2_with fail
    refine wp_loop_rounds 1 ?_
    rw [rounds_succ]
    go_wp2
    go_ret
    exact ⟨by rw [ER.out]; rfl, rfl⟩
end Go.Proofs.Ytfajnnibkcnkaal.gr
namespace Go.Proofs.Ytfajnnibkcnkaal.region
open Go

theorem count_set (l : Array Bool) (i : Nat) (h : l.getD i true = false) : (l.setIfInBounds i true).toList.count false + 1 = l.toList.count false := by
  have hi : i < l.size := by
    rcases Nat.lt_or_ge i l.size with h' | h'
    · exact h'
    · simp [Array.getD, Nat.not_lt.2 h'] at h
  have he : l.toList[i]'(by simpa using hi) = false := by
    simpa [Array.getD, hi] using h
  rw [Array.toList_setIfInBounds, List.count_set (by simpa using hi)]
  have hc : 0 < l.toList.count false := List.count_pos_iff.2 (by rw [← he]; exact List.getElem_mem _)
  simp [he]
  have hc' : 0 < l.count false := by simpa using hc
  omega

theorem wpAny_inv {P : Program} {md : Region.Mode} {ops : Array Oper} {Q : Exit → Act → World → Prop} (I : Array Bool → Act → World → Prop)
    (fin : ∀ l a w, I l a w → Region.ready md ops l = [] → Q .normal a w)
    (stp : ∀ l a w i, I l a w → i ∈ Region.ready md ops l → wpOp P ops Q i (I (l.setIfInBounds i true)) a w) :
    ∀ (fuel : Nat) (l : Array Bool) (a : Act) (w : World), l.toList.count false ≤ fuel → I l a w → wpAny P md ops Q fuel l a w
  | 0, l, a, w, hc, h => by
    have e : Region.ready md ops l = [] := by
      rw [List.eq_nil_iff_forall_not_mem]
      intro i hi
      have := count_set l i (mem_ready.1 hi).1
      omega
    exact ⟨e, fin l a w h e⟩
  | fuel + 1, l, a, w, hc, h => by
    refine ⟨fun e => fin l a w h e, fun i hi => wpOp_mono (fun a' w' h' => ?_) (stp l a w i h hi)⟩
    have := count_set l i (mem_ready.1 hi).1
    exact wpAny_inv I fin stp fuel _ a' w' (by omega) h'

theorem wp_region_inv {P : Program} {id : Nat} {ops : Array Oper} {Q : Exit → Act → World → Prop} {a : Act} {w : World} (hm : P.follows .mixedOrders = true) (I : Array Bool → Act → World → Prop)
    (start : I (Array.replicate ops.size false) a w.drew)
    (fin : ∀ l a w, I l a w → Region.ready .any ops l = [] → Q .normal a w)
    (stp : ∀ l a w i, I l a w → i ∈ Region.ready .any ops l → wpOp P ops Q i (I (l.setIfInBounds i true)) a w) : (Code.region id ops true).wp P Q a w :=
  wp_region_any hm (wpAny_inv I fin stp _ _ _ _ (by simp) start)
end Go.Proofs.Ytfajnnibkcnkaal.region
namespace Go.Proofs.Ytfajnnibkcnkaal.region
open Go

/-- The frame a0 with other values in the slots of D. -/
def ovr (D : Nat → Bool) (a0 : Act) (u : Nat → Value) : Act := { a0 with tmps := ((List.range a0.tmps.size).map fun s => if D s then u s else a0.tmps.getD s undef).toArray }
def upd (u : Nat → Value) (d : Nat) (v : Value) : Nat → Value := fun s => if s = d then v else u s

theorem getD_at (t : Array Value) (s : Nat) : t.getD s undef = t[s]?.getD undef := by
  rw [Array.getD_eq_getD_getElem?]
theorem ovr_at (D : Nat → Bool) (a0 : Act) (u : Nat → Value) (s : Nat) (hs : s < a0.tmps.size) : (ovr D a0 u).tmps[s]? = some (if D s then u s else a0.tmps.getD s undef) := by
  simp [ovr, hs]
theorem ovr_size (D : Nat → Bool) (a0 : Act) (u : Nat → Value) : (ovr D a0 u).tmps.size = a0.tmps.size := by simp [ovr]
theorem ovr_self (D : Nat → Bool) (a0 : Act) : ovr D a0 (fun s => a0.tmps.getD s undef) = a0 := by
  cases a0 with
  | mk tmps defers =>
    unfold ovr
    congr 1
    apply Array.ext_getElem?
    intro s
    rcases Nat.lt_or_ge s tmps.size with h | h
    · simp [h]
    · simp [h]
theorem ovr_put {D : Nat → Bool} {a0 : Act} {u : Nat → Value} {d : Nat} {v : Value} (hd : D d = true) : (ovr D a0 u).put (some d) v = ovr D a0 (upd u d v) := by
  have e : ((ovr D a0 u).put (some d) v).tmps = (ovr D a0 (upd u d v)).tmps := by
    show (ovr D a0 u).tmps.setIfInBounds d v = _
    apply Array.ext_getElem?
    intro s
    rcases Nat.lt_or_ge s a0.tmps.size with h | h
    · rw [ovr_at D a0 _ s h, Array.getElem?_setIfInBounds]
      by_cases hs : d = s
      · subst hs
        rw [if_pos rfl, ovr_size, if_pos h, if_pos hd]
        simp [upd]
      · rw [if_neg hs, ovr_at D a0 _ s h]
        have : ¬ s = d := fun e => hs e.symm
        simp [upd, this]
    · rw [Array.getElem?_eq_none (by simpa [ovr_size] using h), Array.getElem?_eq_none (by simpa [ovr_size] using h)]
  have e' : ((ovr D a0 u).put (some d) v).defers = (ovr D a0 (upd u d v)).defers := rfl
  cases h1 : (ovr D a0 u).put (some d) v
  cases h2 : ovr D a0 (upd u d v)
  rw [h1, h2] at e e'
  simp only at e e'
  rw [e, e']

theorem all_listed {ops : Array Oper} {l : Array Bool} (hacyc : ∀ (k : Nat) (o : Oper), ops[k]? = some o → ∀ e ∈ o.after, e.on < k) (hl : l.size = ops.size) (h : Region.ready .any ops l = []) : ∀ k, k < ops.size → l.getD k false = true := by
  intro k
  induction k using Nat.strongRecOn with
  | ind k ih =>
    intro hk
    have hl' : k < l.size := by omega
    cases hv : l.getD k false with
    | true => rfl
    | false =>
      have h1 : l.getD k true = false := by
        simp only [Array.getD, hl', dite_true] at hv ⊢
        exact hv
      have : k ∈ Region.ready .any ops l := mem_ready.2 ⟨h1, ops[k], Array.getElem?_eq_getElem hk, fun e he _ => ih e.on (hacyc k _ (Array.getElem?_eq_getElem hk) e he) (by have := hacyc k _ (Array.getElem?_eq_getElem hk) e he; omega)⟩
      rw [h] at this
      cases this

theorem wp_region_facts {P : Program} {id : Nat} {ops : Array Oper} {Q : Exit → Act → World → Prop} {a0 : Act} {w : World} (hm : P.follows .mixedOrders = true) (D : Nat → Bool)
    (hg : ∀ o ∈ ops, o.guard = none) (hacyc : ∀ (k : Nat) (o : Oper), ops[k]? = some o → ∀ e ∈ o.after, e.on < k)
    (I : Array Bool → (Nat → Value) → World → Prop)
    (start : I (Array.replicate ops.size false) (fun s => a0.tmps.getD s undef) w.drew)
    (fin : ∀ l u w, I l u w → (∀ k, k < ops.size → l.getD k false = true) → Q .normal (ovr D a0 u) w)
    (stp : ∀ l u w k o, I l u w → l.size = ops.size → l.getD k false = false → ops[k]? = some o → (∀ e ∈ o.after, Region.binds .any e = true → l.getD e.on false = true) →
      o.wp P (ovr D a0 u) w (fun a' w' => ∃ u', a' = ovr D a0 u' ∧ I (l.setIfInBounds k true) u' w') Q) : (Code.region id ops true).wp P Q a0 w := by
  refine wp_region_inv hm (fun l a w => l.size = ops.size ∧ ∃ u, a = ovr D a0 u ∧ I l u w) ⟨by simp, _, (ovr_self D a0).symm, start⟩ ?_ ?_
  · rintro l a w ⟨hl, u, rfl, h⟩ hr
    exact fin l u w h (all_listed hacyc hl hr)
  · rintro l a w i ⟨hl, u, rfl, h⟩ hi
    obtain ⟨h1, o, ho, hd⟩ := mem_ready.1 hi
    have hi' : i < ops.size := (Array.getElem?_eq_some_iff.1 ho).1
    have h1' : l.getD i false = false := by
      have hl' : i < l.size := by omega
      simp only [Array.getD, hl', dite_true] at h1 ⊢
      exact h1
    have hgo := hg o (Array.mem_of_getElem? ho)
    unfold wpOp
    rw [ho]
    simp only
    rw [if_pos (by simp [Region.wanted, hgo])]
    refine .inl (Oper.wp_mono (fun a' w' h' => ?_) (stp l u w i o h hl h1' ho hd))
    obtain ⟨u', e, h'⟩ := h'
    exact ⟨by simpa using hl, u', e, h'⟩

theorem getD_other (l : Array Bool) {k j : Nat} (h : ¬ k = j) : (l.setIfInBounds k true).getD j false = l.getD j false := by
  rw [Array.getD_eq_getD_getElem?, Array.getElem?_setIfInBounds, if_neg h, Array.getD_eq_getD_getElem?]

/-- What is known of the slots stays known where one more is known. -/
theorem facts_put {n : Nat} {F : Nat → Value → World → Prop} {dst : Nat → Nat} {l : Array Bool} {u : Nat → Value} {w w' : World} {k : Nat} {v : Value} (hi : ∀ j, j < n → dst j = dst k → j = k)
    (H : ∀ j, j < n → l.getD j false = true → F j (u (dst j)) w) (hs : ∀ j, j < n → j ≠ k → l.getD j false = true → ∀ t, F j t w → F j t w') (hv : F k v w') :
    ∀ j, j < n → (l.setIfInBounds k true).getD j false = true → F j (upd u (dst k) v (dst j)) w' := by
  intro j hj hlj
  by_cases e : j = k
  · subst e
    simp only [upd, if_true]
    exact hv
  · have : ¬ dst j = dst k := fun e' => e (hi j hj e')
    simp only [upd, this, if_false]
    have hlj' : l.getD j false = true := by rwa [getD_other l (Ne.symm e)] at hlj
    exact hs j hj e hlj' _ (H j hj hlj')
theorem listed_put {l : Array Bool} {k j : Nat} (hl : k < l.size) (h : (l.setIfInBounds k true).getD j false = false) : l.getD j false = false := by
  by_cases e : k = j
  · subst e
    simp [Array.getD, hl] at h
  · rwa [getD_other l e] at h
theorem listed_ne {l : Array Bool} {k : Nat} (hk : k < l.size) : (l.setIfInBounds k true).getD k false = true := by
  simp [Array.getD, hk]
end Go.Proofs.Ytfajnnibkcnkaal.region
namespace Go.Proofs.Ytfajnnibkcnkaal.region
open Go

/-- The operation k of a region: its slot, what it is, what it waits for. -/
def Has (ops : Array Oper) (k : Nat) (d : Option Nat) (op : Op) (deps : List Nat) : Prop := ∃ o, ops[k]? = some o ∧ o.dst = d ∧ o.op = op ∧ ∀ j ∈ deps, ∃ e ∈ o.after, e.on = j ∧ Region.binds .any e = true
theorem has_at {ops : Array Oper} {k : Nat} {d : Option Nat} {op : Op} {deps : List Nat} (h : Has ops k d op deps) {o : Oper} (ho : ops[k]? = some o) {l : Array Bool} (hd : ∀ e ∈ o.after, Region.binds .any e = true → l.getD e.on false = true) : o.dst = d ∧ o.op = op ∧ ∀ j ∈ deps, l.getD j false = true := by
  obtain ⟨o', ho', h1, h2, h3⟩ := h
  rw [ho] at ho'
  injection ho' with ho'
  subst ho'
  refine ⟨h1, h2, fun j hj => ?_⟩
  obtain ⟨e, he, rfl, hb⟩ := h3 j hj
  exact hd e he hb
theorem wp_value {P : Program} {o : Oper} {a : Act} {w w' : World} {K : Act → World → Prop} {Q : Exit → Act → World → Prop} {v : Value} (h : (execOp a.eval o).run P w = .ok (.value v) w') (hk : K (a.put o.dst v) w') : o.wp P a w K Q := by
  unfold Oper.wp
  rw [h]
  exact hk
theorem wp_call {P : Program} {o : Oper} {a : Act} {w : World} {K : Act → World → Prop} {Q : Exit → Act → World → Prop} {f : FuncId} {args : Array Value} (h : (execOp a.eval o).run P w = .ok (.enter f args) w) (hk : Calls P f args w fun e w' => ∃ v, e = .returned v ∧ K (a.put o.dst v) w') : o.wp P a w K Q := by
  unfold Oper.wp
  rw [h, Oper.upon_enter]
  refine hk.mono ?_
  rintro e w' ⟨v, rfl, h⟩
  exact h
theorem eval_in {D : Nat → Bool} {a0 : Act} {u : Nat → Value} {s : Nat} (hd : D s = true) (hs : s < a0.tmps.size) : (ovr D a0 u).eval (.tmp s) = u s := by
  show (ovr D a0 u).tmps.getD s undef = _
  rw [getD_at, ovr_at D a0 u s hs, hd]
  rfl
theorem eval_out {D : Nat → Bool} {a0 : Act} {u : Nat → Value} {s : Nat} (hd : D s = false) (hs : s < a0.tmps.size) : (ovr D a0 u).eval (.tmp s) = a0.tmps.getD s undef := by
  show (ovr D a0 u).tmps.getD s undef = _
  rw [getD_at, ovr_at D a0 u s hs, hd]
  rfl
theorem put_in {D : Nat → Bool} {a0 : Act} {o : Oper} {d : Nat} (ho : o.dst = some d) (hd : D d = true) (u : Nat → Value) (v : Value) : (ovr D a0 u).put o.dst v = ovr D a0 (upd u d v) := by
  rw [ho]
  exact ovr_put hd
theorem put_no {D : Nat → Bool} {a0 : Act} {o : Oper} (ho : o.dst = none) (u : Nat → Value) (v : Value) : (ovr D a0 u).put o.dst v = ovr D a0 u := by
  rw [ho]
  rfl
end Go.Proofs.Ytfajnnibkcnkaal.region
