/-
  slices.SortFunc over numbers, laid over the program: which function and type of the library's own text is which one here. Chapter 7 as the program has it: how two that grieve are held against each other. A region that draws its order, by an invariant of what has come up, of the frame and of the world: each operation that may come up keeps it, in whatever order; no branching. A region that draws its order, by facts: what is known of the slot of each operation that has come up, and of the world. A drawn region's operations, handed in by their numbers. A drawn region whose last operation waits for all others: by one fact a slot, each of which stays where the world only grows.
-/
import Derived.Test.YtdogibjgogcdkacRows
import Derived.WalkKit
import Derived.Shelf.SlSortCmp.NoneTotal
import Derived.Test.YtdogibjgogcdkacM10
import Derived.Test.YtdogibjgogcdkacProg
import Derived.Orders
import Derived.Deep.Quiet
import Derived.Below
namespace Go.Proofs.Ytdogibjgogcdkac.gr
open Go Go.RowKit Go.Shelf

def lsort_ren : Go.Shelf.Ren := ⟨fun | 6 => 75 | 15 => 110 | 14 => 109 | 28 => 138 | 29 => 139 | 20 => 130 | 21 => 131 | 22 => 132 | 23 => 133 | 24 => 134 | 25 => 135 | 26 => 136 | 27 => 137 | 46 => 147 | 47 => 148 | 48 => 149 | 49 => 150 | 50 => 151 | 57 => 152 | n => n, fun | 22 => 63 | 24 => 3 | 25 => 103 | 3 => 3 | 39 => 134 | 0 => 0 | 53 => 166 | 55 => 168 | 4 => 4 | 46 => 160 | 45 => 159 | 50 => 91 | 5 => 5 | 9 => 9 | 66 => 171 | 70 => 175 | 76 => 177 | 77 => 178 | n => n, fun | n => n⟩
theorem lsort : Go.Proofs.SlLaysF.n6 Try.prog lsort_ren := {
  mixed := by kernel_rfl
  f6 := ⟨Try.f75.name, by decide, Try.func75.trans (congrArg some (by kernel_rfl))⟩
  f14 := ⟨Try.f109.name, by decide, Try.func109.trans (congrArg some (by kernel_rfl))⟩
  f15 := Try.func110.trans (congrArg some (by kernel_rfl))
  f20 := ⟨Try.f130.name, by decide, Try.func130.trans (congrArg some (by kernel_rfl))⟩
  f21 := ⟨Try.f131.name, by decide, Try.func131.trans (congrArg some (by kernel_rfl))⟩
  f22 := ⟨Try.f132.name, by decide, Try.func132.trans (congrArg some (by kernel_rfl))⟩
  f23 := ⟨Try.f133.name, by decide, Try.func133.trans (congrArg some (by kernel_rfl))⟩
  f24 := ⟨Try.f134.name, by decide, Try.func134.trans (congrArg some (by kernel_rfl))⟩
  f25 := ⟨Try.f135.name, by decide, Try.func135.trans (congrArg some (by kernel_rfl))⟩
  f26 := ⟨Try.f136.name, by decide, Try.func136.trans (congrArg some (by kernel_rfl))⟩
  f27 := ⟨Try.f137.name, by decide, Try.func137.trans (congrArg some (by kernel_rfl))⟩
  f28 := Try.func138.trans (congrArg some (by kernel_rfl))
  f29 := Try.func139.trans (congrArg some (by kernel_rfl))
  f46 := ⟨Try.f147.name, by decide, Try.func147.trans (congrArg some (by kernel_rfl))⟩
  f47 := Try.func148.trans (congrArg some (by kernel_rfl))
  f48 := Try.func149.trans (congrArg some (by kernel_rfl))
  f49 := ⟨Try.f150.name, by decide, Try.func150.trans (congrArg some (by kernel_rfl))⟩
  f50 := ⟨Try.f151.name, by decide, Try.func151.trans (congrArg some (by kernel_rfl))⟩
  f57 := ⟨Try.f152.name, by decide, Try.func152.trans (congrArg some (by kernel_rfl))⟩
  t0 := Try.underlying0
  a0 := Try.isAgg0
  z0 := Try.sizeOf0
  v0 := Try.zeroValue0
  t3 := Try.underlying3
  a3 := Try.isAgg3
  z3 := Try.sizeOf3
  v3 := Try.zeroValue3
  t4 := Try.underlying4
  a4 := Try.isAgg4
  z4 := Try.sizeOf4
  v4 := Try.zeroValue4
  t5 := Try.underlying5
  a5 := Try.isAgg5
  z5 := Try.sizeOf5
  v5 := Try.zeroValue5
  t9 := Try.underlying9
  a9 := Try.isAgg9
  z9 := Try.sizeOf9
  v9 := Try.zeroValue9
  t22 := Try.underlying63
  a22 := Try.isAgg63
  z22 := Try.sizeOf63
  v22 := Try.zeroValue63
  a24 := Try.isAgg3
  z24 := Try.sizeOf3
  t25 := Try.underlying103
  a25 := Try.isAgg103
  z25 := Try.sizeOf103
  v25 := Try.zeroValue103
  t39 := Try.underlying134
  a39 := Try.isAgg134
  z39 := Try.sizeOf134
  v39 := Try.zeroValue134
  t45 := Try.underlying159
  a45 := Try.isAgg159
  z45 := Try.sizeOf159
  v45 := Try.zeroValue159
  t46 := Try.underlying160
  a46 := Try.isAgg160
  z46 := Try.sizeOf160
  v46 := Try.zeroValue160
  t50 := Try.underlying91
  a50 := Try.isAgg91
  z50 := Try.sizeOf91
  v50 := Try.zeroValue91
  t53 := Try.underlying166
  a53 := Try.isAgg166
  z53 := Try.sizeOf166
  v53 := Try.zeroValue166
  t55 := Try.underlying168
  a55 := Try.isAgg168
  z55 := Try.sizeOf168
  v55 := Try.zeroValue168
  t66 := Try.underlying171
  a66 := Try.isAgg171
  z66 := Try.sizeOf171
  v66 := Try.zeroValue171
  t70 := Try.underlying175
  a70 := Try.isAgg175
  z70 := Try.sizeOf175
  v70 := Try.zeroValue175
  t76 := Try.underlying177
  a76 := Try.isAgg177
  z76 := Try.sizeOf177
  v76 := Try.zeroValue177
  t77 := Try.underlying178
  a77 := Try.isAgg178
  z77 := Try.sizeOf178
  v77 := Try.zeroValue178 }
end Go.Proofs.Ytdogibjgogcdkac.gr
namespace Go.Proofs.Ytdogibjgogcdkac.gr
open Go.RowKit rows heads
set_option maxRecDepth 100000
set_option linter.unusedVariables false

def orI (u v : Int) : Int := if u = 0 then v else u
set_option maxHeartbeats 2000000 in
theorem or2_any {w : World} {b : Nat} {u v : Int} (h0 : w.cell? ⟨b, 0, none⟩ = some (.int .i64 u)) (h1 : w.cell? ⟨b, 1, none⟩ = some (.int .i64 v)) :
    Calls Try.prog 77 #[.slice (some ⟨b, 0, none⟩) 2 2] w fun e w' => e = .returned (.int .i64 (orI u v)) ∧ w' = w := by
  by_cases hu : u = 0
  · subst hu
    have ER : Hid (orI 0 v = v) := rfl
    by_cases hv : v = 0
    · subst hv
      go_enter Try.func77, Try.ntmps77
      go_wp2_with fail
      refine wp_loop_rounds 3 ?_
      rw [rounds_succ]
      go_wp2
      rw [rounds_succ]
      go_wp2
      rw [rounds_succ]
      go_wp2
      go_ret
      exact ⟨rfl, rfl⟩
    · have hv' : (v != 0) = true := by simpa using hv
      go_enter Try.func77, Try.ntmps77
      go_wp2_with fail
      refine wp_loop_rounds 2 ?_
      rw [rounds_succ]
      go_wp2
      rw [rounds_succ]
      go_wp2
      go_ret
      exact ⟨rfl, rfl⟩
  · have hu' : (u != 0) = true := by simpa using hu
    have ER : Hid (orI u v = u) := by show _ = _; unfold orI; rw [if_neg hu]
    go_enter Try.func77, Try.ntmps77
    go_wp2_with fail
    refine wp_loop_rounds 1 ?_
    rw [rounds_succ]
    go_wp2
    go_ret
    exact ⟨by rw [ER.out]; rfl, rfl⟩
end Go.Proofs.Ytdogibjgogcdkac.gr
namespace Go.Proofs.Ytdogibjgogcdkac.region
open Go

theorem count_set (l : Array Bool) (i : Nat) (h : l.getD i true = false) : (l.setIfInBounds i true).toList.count false + 1 = l.toList.count false := by
  have hi : i < l.size := by
    rcases Nat.lt_or_ge i l.size with h' | h'
    · exact h'
    · simp [Array.getD, Nat.not_lt.2 h'] at h
  have he : l.toList[i]'(by simpa using hi) = false := by
    simpa [Array.getD, hi] using h
  rw [Array.toList_setIfInBounds, List.count_set (by simpa using hi)]
  have hc : 0 < l.toList.count false := List.count_pos_iff.2 (by rw [← he]; exact List.getElem_mem _)
  simp [he]
  have hc' : 0 < l.count false := by simpa using hc
  omega

theorem wpAny_inv {P : Program} {md : Region.Mode} {ops : Array Oper} {Q : Exit → Act → World → Prop} (I : Array Bool → Act → World → Prop)
    (fin : ∀ l a w, I l a w → Region.ready md ops l = [] → Q .normal a w)
    (stp : ∀ l a w i, I l a w → i ∈ Region.ready md ops l → wpOp P ops Q i (I (l.setIfInBounds i true)) a w) :
    ∀ (fuel : Nat) (l : Array Bool) (a : Act) (w : World), l.toList.count false ≤ fuel → I l a w → wpAny P md ops Q fuel l a w
  | 0, l, a, w, hc, h => by
    have e : Region.ready md ops l = [] := by
      rw [List.eq_nil_iff_forall_not_mem]
      intro i hi
      have := count_set l i (mem_ready.1 hi).1
      omega
    exact ⟨e, fin l a w h e⟩
  | fuel + 1, l, a, w, hc, h => by
    refine ⟨fun e => fin l a w h e, fun i hi => wpOp_mono (fun a' w' h' => ?_) (stp l a w i h hi)⟩
    have := count_set l i (mem_ready.1 hi).1
    exact wpAny_inv I fin stp fuel _ a' w' (by omega) h'

theorem wp_region_inv {P : Program} {id : Nat} {ops : Array Oper} {Q : Exit → Act → World → Prop} {a : Act} {w : World} (hm : P.follows .mixedOrders = true) (I : Array Bool → Act → World → Prop)
    (start : I (Array.replicate ops.size false) a w.drew)
    (fin : ∀ l a w, I l a w → Region.ready .any ops l = [] → Q .normal a w)
    (stp : ∀ l a w i, I l a w → i ∈ Region.ready .any ops l → wpOp P ops Q i (I (l.setIfInBounds i true)) a w) : (Code.region id ops true).wp P Q a w :=
  wp_region_any hm (wpAny_inv I fin stp _ _ _ _ (by simp) start)
end Go.Proofs.Ytdogibjgogcdkac.region
namespace Go.Proofs.Ytdogibjgogcdkac.region
open Go

/-- The frame a0 with other values in the slots of D. -/
def ovr (D : Nat → Bool) (a0 : Act) (u : Nat → Value) : Act := { a0 with tmps := ((List.range a0.tmps.size).map fun s => if D s then u s else a0.tmps.getD s undef).toArray }
def upd (u : Nat → Value) (d : Nat) (v : Value) : Nat → Value := fun s => if s = d then v else u s

theorem getD_at (t : Array Value) (s : Nat) : t.getD s undef = t[s]?.getD undef := by
  rw [Array.getD_eq_getD_getElem?]
theorem ovr_at (D : Nat → Bool) (a0 : Act) (u : Nat → Value) (s : Nat) (hs : s < a0.tmps.size) : (ovr D a0 u).tmps[s]? = some (if D s then u s else a0.tmps.getD s undef) := by
  simp [ovr, hs]
theorem ovr_size (D : Nat → Bool) (a0 : Act) (u : Nat → Value) : (ovr D a0 u).tmps.size = a0.tmps.size := by simp [ovr]
theorem ovr_self (D : Nat → Bool) (a0 : Act) : ovr D a0 (fun s => a0.tmps.getD s undef) = a0 := by
  cases a0 with
  | mk tmps defers =>
    unfold ovr
    congr 1
    apply Array.ext_getElem?
    intro s
    rcases Nat.lt_or_ge s tmps.size with h | h
    · simp [h]
    · simp [h]
theorem ovr_put {D : Nat → Bool} {a0 : Act} {u : Nat → Value} {d : Nat} {v : Value} (hd : D d = true) : (ovr D a0 u).put (some d) v = ovr D a0 (upd u d v) := by
  have e : ((ovr D a0 u).put (some d) v).tmps = (ovr D a0 (upd u d v)).tmps := by
    show (ovr D a0 u).tmps.setIfInBounds d v = _
    apply Array.ext_getElem?
    intro s
    rcases Nat.lt_or_ge s a0.tmps.size with h | h
    · rw [ovr_at D a0 _ s h, Array.getElem?_setIfInBounds]
      by_cases hs : d = s
      · subst hs
        rw [if_pos rfl, ovr_size, if_pos h, if_pos hd]
        simp [upd]
      · rw [if_neg hs, ovr_at D a0 _ s h]
        have : ¬ s = d := fun e => hs e.symm
        simp [upd, this]
    · rw [Array.getElem?_eq_none (by simpa [ovr_size] using h), Array.getElem?_eq_none (by simpa [ovr_size] using h)]
  have e' : ((ovr D a0 u).put (some d) v).defers = (ovr D a0 (upd u d v)).defers := rfl
  cases h1 : (ovr D a0 u).put (some d) v
  cases h2 : ovr D a0 (upd u d v)
  rw [h1, h2] at e e'
  simp only at e e'
  rw [e, e']

theorem all_listed {ops : Array Oper} {l : Array Bool} (hacyc : ∀ (k : Nat) (o : Oper), ops[k]? = some o → ∀ e ∈ o.after, e.on < k) (hl : l.size = ops.size) (h : Region.ready .any ops l = []) : ∀ k, k < ops.size → l.getD k false = true := by
  intro k
  induction k using Nat.strongRecOn with
  | ind k ih =>
    intro hk
    have hl' : k < l.size := by omega
    cases hv : l.getD k false with
    | true => rfl
    | false =>
      have h1 : l.getD k true = false := by
        simp only [Array.getD, hl', dite_true] at hv ⊢
        exact hv
      have : k ∈ Region.ready .any ops l := mem_ready.2 ⟨h1, ops[k], Array.getElem?_eq_getElem hk, fun e he _ => ih e.on (hacyc k _ (Array.getElem?_eq_getElem hk) e he) (by have := hacyc k _ (Array.getElem?_eq_getElem hk) e he; omega)⟩
      rw [h] at this
      cases this

theorem wp_region_facts {P : Program} {id : Nat} {ops : Array Oper} {Q : Exit → Act → World → Prop} {a0 : Act} {w : World} (hm : P.follows .mixedOrders = true) (D : Nat → Bool)
    (hg : ∀ o ∈ ops, o.guard = none) (hacyc : ∀ (k : Nat) (o : Oper), ops[k]? = some o → ∀ e ∈ o.after, e.on < k)
    (I : Array Bool → (Nat → Value) → World → Prop)
    (start : I (Array.replicate ops.size false) (fun s => a0.tmps.getD s undef) w.drew)
    (fin : ∀ l u w, I l u w → (∀ k, k < ops.size → l.getD k false = true) → Q .normal (ovr D a0 u) w)
    (stp : ∀ l u w k o, I l u w → l.size = ops.size → l.getD k false = false → ops[k]? = some o → (∀ e ∈ o.after, Region.binds .any e = true → l.getD e.on false = true) →
      o.wp P (ovr D a0 u) w (fun a' w' => ∃ u', a' = ovr D a0 u' ∧ I (l.setIfInBounds k true) u' w') Q) : (Code.region id ops true).wp P Q a0 w := by
  refine wp_region_inv hm (fun l a w => l.size = ops.size ∧ ∃ u, a = ovr D a0 u ∧ I l u w) ⟨by simp, _, (ovr_self D a0).symm, start⟩ ?_ ?_
  · rintro l a w ⟨hl, u, rfl, h⟩ hr
    exact fin l u w h (all_listed hacyc hl hr)
  · rintro l a w i ⟨hl, u, rfl, h⟩ hi
    obtain ⟨h1, o, ho, hd⟩ := mem_ready.1 hi
    have hi' : i < ops.size := (Array.getElem?_eq_some_iff.1 ho).1
    have h1' : l.getD i false = false := by
      have hl' : i < l.size := by omega
      simp only [Array.getD, hl', dite_true] at h1 ⊢
      exact h1
    have hgo := hg o (Array.mem_of_getElem? ho)
    unfold wpOp
    rw [ho]
    simp only
    rw [if_pos (by simp [Region.wanted, hgo])]
    refine .inl (Oper.wp_mono (fun a' w' h' => ?_) (stp l u w i o h hl h1' ho hd))
    obtain ⟨u', e, h'⟩ := h'
    exact ⟨by simpa using hl, u', e, h'⟩

theorem getD_other (l : Array Bool) {k j : Nat} (h : ¬ k = j) : (l.setIfInBounds k true).getD j false = l.getD j false := by
  rw [Array.getD_eq_getD_getElem?, Array.getElem?_setIfInBounds, if_neg h, Array.getD_eq_getD_getElem?]

/-- What is known of the slots stays known where one more is known. -/
theorem facts_put {n : Nat} {F : Nat → Value → World → Prop} {dst : Nat → Nat} {l : Array Bool} {u : Nat → Value} {w w' : World} {k : Nat} {v : Value} (hi : ∀ j, j < n → dst j = dst k → j = k)
    (H : ∀ j, j < n → l.getD j false = true → F j (u (dst j)) w) (hs : ∀ j, j < n → j ≠ k → l.getD j false = true → ∀ t, F j t w → F j t w') (hv : F k v w') :
    ∀ j, j < n → (l.setIfInBounds k true).getD j false = true → F j (upd u (dst k) v (dst j)) w' := by
  intro j hj hlj
  by_cases e : j = k
  · subst e
    simp only [upd, if_true]
    exact hv
  · have : ¬ dst j = dst k := fun e' => e (hi j hj e')
    simp only [upd, this, if_false]
    have hlj' : l.getD j false = true := by rwa [getD_other l (Ne.symm e)] at hlj
    exact hs j hj e hlj' _ (H j hj hlj')
theorem listed_put {l : Array Bool} {k j : Nat} (hl : k < l.size) (h : (l.setIfInBounds k true).getD j false = false) : l.getD j false = false := by
  by_cases e : k = j
  · subst e
    simp [Array.getD, hl] at h
  · rwa [getD_other l e] at h
theorem listed_ne {l : Array Bool} {k : Nat} (hk : k < l.size) : (l.setIfInBounds k true).getD k false = true := by
  simp [Array.getD, hk]
end Go.Proofs.Ytdogibjgogcdkac.region
namespace Go.Proofs.Ytdogibjgogcdkac.region
open Go

/-- The operation k of a region: its slot, what it is, what it waits for. -/
def Has (ops : Array Oper) (k : Nat) (d : Option Nat) (op : Op) (deps : List Nat) : Prop := ∃ o, ops[k]? = some o ∧ o.dst = d ∧ o.op = op ∧ ∀ j ∈ deps, ∃ e ∈ o.after, e.on = j ∧ Region.binds .any e = true
theorem has_at {ops : Array Oper} {k : Nat} {d : Option Nat} {op : Op} {deps : List Nat} (h : Has ops k d op deps) {o : Oper} (ho : ops[k]? = some o) {l : Array Bool} (hd : ∀ e ∈ o.after, Region.binds .any e = true → l.getD e.on false = true) : o.dst = d ∧ o.op = op ∧ ∀ j ∈ deps, l.getD j false = true := by
  obtain ⟨o', ho', h1, h2, h3⟩ := h
  rw [ho] at ho'
  injection ho' with ho'
  subst ho'
  refine ⟨h1, h2, fun j hj => ?_⟩
  obtain ⟨e, he, rfl, hb⟩ := h3 j hj
  exact hd e he hb
theorem wp_value {P : Program} {o : Oper} {a : Act} {w w' : World} {K : Act → World → Prop} {Q : Exit → Act → World → Prop} {v : Value} (h : (execOp a.eval o).run P w = .ok (.value v) w') (hk : K (a.put o.dst v) w') : o.wp P a w K Q := by
  unfold Oper.wp
  rw [h]
  exact hk
theorem wp_call {P : Program} {o : Oper} {a : Act} {w : World} {K : Act → World → Prop} {Q : Exit → Act → World → Prop} {f : FuncId} {args : Array Value} (h : (execOp a.eval o).run P w = .ok (.enter f args) w) (hk : Calls P f args w fun e w' => ∃ v, e = .returned v ∧ K (a.put o.dst v) w') : o.wp P a w K Q := by
  unfold Oper.wp
  rw [h, Oper.upon_enter]
  refine hk.mono ?_
  rintro e w' ⟨v, rfl, h⟩
  exact h
theorem eval_in {D : Nat → Bool} {a0 : Act} {u : Nat → Value} {s : Nat} (hd : D s = true) (hs : s < a0.tmps.size) : (ovr D a0 u).eval (.tmp s) = u s := by
  show (ovr D a0 u).tmps.getD s undef = _
  rw [getD_at, ovr_at D a0 u s hs, hd]
  rfl
theorem eval_out {D : Nat → Bool} {a0 : Act} {u : Nat → Value} {s : Nat} (hd : D s = false) (hs : s < a0.tmps.size) : (ovr D a0 u).eval (.tmp s) = a0.tmps.getD s undef := by
  show (ovr D a0 u).tmps.getD s undef = _
  rw [getD_at, ovr_at D a0 u s hs, hd]
  rfl
theorem put_in {D : Nat → Bool} {a0 : Act} {o : Oper} {d : Nat} (ho : o.dst = some d) (hd : D d = true) (u : Nat → Value) (v : Value) : (ovr D a0 u).put o.dst v = ovr D a0 (upd u d v) := by
  rw [ho]
  exact ovr_put hd
theorem put_no {D : Nat → Bool} {a0 : Act} {o : Oper} (ho : o.dst = none) (u : Nat → Value) (v : Value) : (ovr D a0 u).put o.dst v = ovr D a0 u := by
  rw [ho]
  rfl
end Go.Proofs.Ytdogibjgogcdkac.region
namespace Go.Proofs.Ytdogibjgogcdkac.region
open Go Go.RowKit

theorem wp_region_plain {P : Program} {id : Nat} {ops : Array Oper} {Q : Exit → Act → World → Prop} {a0 : Act} {w : World} (hm : P.follows .mixedOrders = true) (D : Nat → Bool)
    (hg : ∀ o ∈ ops, o.guard = none) (hacyc : ∀ (k : Nat) (o : Oper), ops[k]? = some o → ∀ e ∈ o.after, e.on < k) (n : Nat) (hn : ops.size = n + 1) (dst : Nat → Nat) (hinj : ∀ k, k < n → ∀ j, j < n → dst j = dst k → j = k)
    (F : Nat → Value → World → Prop) (hst : ∀ k t W W', Below W.heap.size W W' → F k t W → F k t W')
    (hall : ∀ o, ops[n]? = some o → ∀ j, j < n → ∃ e ∈ o.after, e.on = j ∧ Region.binds .any e = true)
    (step : ∀ k o u W, k < n → ops[k]? = some o → Below w.heap.size w W → (∀ j, j < n → (∃ e ∈ o.after, e.on = j ∧ Region.binds .any e = true) → F j (u (dst j)) W) → o.wp P (ovr D a0 u) W (fun a' W' => ∃ v, a' = ovr D a0 (upd u (dst k) v) ∧ Below W.heap.size W W' ∧ F k v W') Q)
    (last : ∀ o u W, ops[n]? = some o → Below w.heap.size w W → (∀ j, j < n → F j (u (dst j)) W) → o.wp P (ovr D a0 u) W (fun a' W' => ∃ u', a' = ovr D a0 u' ∧ Q .normal (ovr D a0 u') W') Q) :
    (Code.region id ops true).wp P Q a0 w := by
  refine wp_region_facts hm D hg hacyc (fun l u W => (l.getD n false = false ∧ Below w.heap.size w W ∧ ∀ k, k < n → l.getD k false = true → F k (u (dst k)) W) ∨ ((∀ k, k < n + 1 → l.getD k false = true) ∧ Q .normal (ovr D a0 u) W)) (.inl ⟨?_, (Below.refl _ w).drew, fun k hk h => ?_⟩) ?_ ?_
  · simp [Array.getD, hn]
  · simp [Array.getD, hn, show k < n + 1 by omega] at h
  · rintro l u W (⟨h1, _⟩ | ⟨_, h⟩) hA
    · rw [hA n (by omega)] at h1
      cases h1
    · exact h
  · rintro l u W k o (⟨h1, hB, hF⟩ | ⟨hA, _⟩) hl hlk ho hd
    case inr =>
      have hk : k < n + 1 := by rw [← hn]; exact (Array.getElem?_eq_some_iff.1 ho).1
      rw [hA k hk] at hlk
      cases hlk
    have hk : k < n + 1 := by rw [← hn]; exact (Array.getElem?_eq_some_iff.1 ho).1
    by_cases e : k = n
    · subst e
      have hA : ∀ j, j < k → l.getD j false = true := fun j hj => by
        obtain ⟨e, he, rfl, hb⟩ := hall o ho j hj
        exact hd e he hb
      refine Oper.wp_mono ?_ (last o u W ho hB (fun j hj => hF j hj (hA j hj)))
      rintro a' W' ⟨u', rfl, h⟩
      refine ⟨u', rfl, .inr ⟨fun j hj => ?_, h⟩⟩
      by_cases e : j = k
      · subst e; exact listed_ne (by omega)
      · rw [getD_other l (Ne.symm e)]; exact hA j (by omega)
    · have hk' : k < n := by omega
      refine Oper.wp_mono ?_ (step k o u W hk' ho hB (fun j hj ⟨e, he, e1, hb⟩ => hF j hj (by rw [← e1]; exact hd e he hb)))
      rintro a' W' ⟨v, rfl, hb, hv⟩
      refine ⟨_, rfl, .inl ⟨?_, hB.trans (hb.mono hB.size), ?_⟩⟩
      · rw [getD_other l e]; exact h1
      · exact facts_put (dst := dst) (hinj k hk') hF (fun j _ _ _ t => hst j t W W' hb) hv
/-- The operation k as it is handed in. -/
theorem has_plain {ops : Array Oper} {k : Nat} {d : Option Nat} {op : Op} {deps : List Nat} (h : Has ops k d op deps) {o : Oper} (ho : ops[k]? = some o) : o.dst = d ∧ o.op = op ∧ ∀ j ∈ deps, ∃ e ∈ o.after, e.on = j ∧ Region.binds .any e = true := by
  obtain ⟨o', ho', h1, h2, h3⟩ := h
  rw [ho] at ho'
  injection ho' with ho'
  subst ho'
  exact ⟨h1, h2, h3⟩
theorem wp_skip' {P : Program} {o : Oper} {a : Act} {w w' : World} {K : Act → World → Prop} {Q : Exit → Act → World → Prop} (h : (execOp a.eval o).run P w = .ok .skip w') (hk : K (a.put o.dst undef) w') : o.wp P a w K Q := by
  unfold Oper.wp
  rw [h]
  exact hk
end Go.Proofs.Ytdogibjgogcdkac.region
