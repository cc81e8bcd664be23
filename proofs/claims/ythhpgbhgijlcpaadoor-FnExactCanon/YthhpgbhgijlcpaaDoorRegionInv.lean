/-
  A region that draws its order, by an invariant of what has come up, of the frame and of the world: each operation that may come up keeps it, in whatever order; no branching.
  Made from the template RegionInv.
-/
import Derived.Test.YthhpgbhgijlcpaaDoorProg
import Derived.Orders
import Derived.Deep.Quiet
namespace Go.Proofs.YthhpgbhgijlcpaaDoor.region
open Go

theorem count_set (l : Array Bool) (i : Nat) (h : l.getD i true = false) : (l.setIfInBounds i true).toList.count false + 1 = l.toList.count false := by
  have hi : i < l.size := by
    rcases Nat.lt_or_ge i l.size with h' | h'
    · exact h'
    · simp [Array.getD, Nat.not_lt.2 h'] at h
  have he : l.toList[i]'(by simpa using hi) = false := by
    simpa [Array.getD, hi] using h
  rw [Array.toList_setIfInBounds, List.count_set (by simpa using hi)]
  have hc : 0 < l.toList.count false := List.count_pos_iff.2 (by rw [← he]; exact List.getElem_mem _)
  simp [he]
  have hc' : 0 < l.count false := by simpa using hc
  omega

theorem wpAny_inv {P : Program} {md : Region.Mode} {ops : Array Oper} {Q : Exit → Act → World → Prop} (I : Array Bool → Act → World → Prop)
    (fin : ∀ l a w, I l a w → Region.ready md ops l = [] → Q .normal a w)
    (stp : ∀ l a w i, I l a w → i ∈ Region.ready md ops l → wpOp P ops Q i (I (l.setIfInBounds i true)) a w) :
    ∀ (fuel : Nat) (l : Array Bool) (a : Act) (w : World), l.toList.count false ≤ fuel → I l a w → wpAny P md ops Q fuel l a w
  | 0, l, a, w, hc, h => by
    have e : Region.ready md ops l = [] := by
      rw [List.eq_nil_iff_forall_not_mem]
      intro i hi
      have := count_set l i (mem_ready.1 hi).1
      omega
    exact ⟨e, fin l a w h e⟩
  | fuel + 1, l, a, w, hc, h => by
    refine ⟨fun e => fin l a w h e, fun i hi => wpOp_mono (fun a' w' h' => ?_) (stp l a w i h hi)⟩
    have := count_set l i (mem_ready.1 hi).1
    exact wpAny_inv I fin stp fuel _ a' w' (by omega) h'

theorem wp_region_inv {P : Program} {id : Nat} {ops : Array Oper} {Q : Exit → Act → World → Prop} {a : Act} {w : World} (hm : P.follows .mixedOrders = true) (I : Array Bool → Act → World → Prop)
    (start : I (Array.replicate ops.size false) a w.drew)
    (fin : ∀ l a w, I l a w → Region.ready .any ops l = [] → Q .normal a w)
    (stp : ∀ l a w i, I l a w → i ∈ Region.ready .any ops l → wpOp P ops Q i (I (l.setIfInBounds i true)) a w) : (Code.region id ops true).wp P Q a w :=
  wp_region_any hm (wpAny_inv I fin stp _ _ _ _ (by simp) start)
end Go.Proofs.YthhpgbhgijlcpaaDoor.region
