/-
  Chapter 6: no answer is greater than the laws go. Chapter 18: what is turned is no greater than it was.
-/
import Derived.Test.YthldaifnlnbpgaaGraphE
import Derived.Test.YthldaifnlnbpgaaBecM
namespace Go.Proofs.Ythldaifnlnbpgaa.gr
open Go.RowKit rows heads
set_option maxRecDepth 100000

/-- Whatever lies as this graph is small. -/
def Small (R : Gr) : Prop := ∀ rs : List MO, rs.map MO.abs = R.objs → gSize rs R ≤ 1048576
theorem small_same {G R : Gr} (ho : R.objs = G.objs) (hr : R.roots.length ≤ G.roots.length) (hm : R.mourned.length ≤ G.mourned.length) (h : ∃ ms : List MO, ms.map MO.abs = G.objs ∧ gSize ms G ≤ 1048576) : Small R := by
  obtain ⟨ms, e, hs⟩ := h
  intro rs er
  have := gSize_of (er.trans ho) e hs
  unfold gSize at this ⊢
  omega
theorem small_zero : Small gr0 := by
  intro rs er
  have e : rs = [] := by simpa [gr0] using er
  subst e
  decide
theorem hR_GCopied (G : Gr) (t f : Int) (h : ∃ ms : List MO, ms.map MO.abs = G.objs ∧ gSize ms G ≤ 1048576) : Small (gCopied G t f).1 := by
  unfold gCopied copyRoot
  split
  · split
    · exact small_same (G := G) rfl (by simp) (Nat.le_refl _) h
    · exact small_same (G := G) rfl (Nat.le_refl _) (Nat.le_refl _) h
  · exact small_zero
theorem hR_GFetched (G : Gr) (t f s : Int) (h : ∃ ms : List MO, ms.map MO.abs = G.objs ∧ gSize ms G ≤ 1048576) : Small (gFetched G t f s).1 := by
  unfold gFetched fetch
  split
  · split
    · exact small_same (G := G) rfl (by simp) (Nat.le_refl _) h
    · exact small_same (G := G) rfl (Nat.le_refl _) (Nat.le_refl _) h
  · exact small_zero
theorem hR_GPut (G : Gr) (x : Int) (e : Rf) (h : ∃ ms : List MO, ms.map MO.abs = G.objs ∧ gSize ms G ≤ 1048576) : Small (gPut G x e).1 := by
  unfold gPut putR
  split
  · split
    · exact small_same (G := G) rfl (by simp) (Nat.le_refl _) h
    · exact small_same (G := G) rfl (Nat.le_refl _) (Nat.le_refl _) h
  · exact small_zero
/-- How many slots these objects have. -/
def slotsOf : List Ob → Nat
  | [] => 0
  | o :: os => o.slots.length + slotsOf os
theorem slotsOf_abs : ∀ ms : List MO, slotsLen ms = slotsOf (ms.map MO.abs)
  | [] => rfl
  | m :: ms => by
    have := slotsOf_abs ms
    simp only [List.map_cons, slotsOf]
    rw [← this]
    rfl
theorem slotsOf_setSlot : ∀ (os : List Ob) (k j : Nat) (e : Rf), slotsOf (setSlot os k j e) = slotsOf os
  | [], _, _, _ => by simp [setSlot]
  | o :: os, 0, j, e => by simp [setSlot, slotsOf]
  | o :: os, k + 1, j, e => by
    have := slotsOf_setSlot os k j e
    simpa [setSlot, slotsOf] using this
theorem hR_GStored (G : Gr) (t s f : Int) (h : ∃ ms : List MO, ms.map MO.abs = G.objs ∧ gSize ms G ≤ 1048576) : Small (gStored G t s f).1 := by
  unfold gStored store
  split
  · split
    · obtain ⟨ms, e, hs⟩ := h
      intro rs er
      have er' : rs.map MO.abs = setSlot G.objs (plc G t) s.toNat (rootAt G f) := er
      have l1 : rs.length = ms.length := by
        have h1 := congrArg List.length er'
        have h2 := congrArg List.length e
        simp only [List.length_map, setSlot, List.length_set] at h1 h2
        omega
      have l2 : slotsLen rs = slotsLen ms := by rw [slotsOf_abs, slotsOf_abs, er', slotsOf_setSlot, e]
      unfold gSize at hs ⊢
      show rs.length + slotsLen rs + G.roots.length + G.mourned.length ≤ _
      omega
    · exact small_same (G := G) rfl (Nat.le_refl _) (Nat.le_refl _) h
  · exact small_zero
end Go.Proofs.Ythldaifnlnbpgaa.gr
namespace Go.Proofs.Ythldaifnlnbpgaa.gr
open Go.RowKit rows heads
set_option maxRecDepth 100000

theorem slotsOf_turned (f : Rf → Rf) : ∀ os : List Ob, slotsOf (os.map (bObj f)) = slotsOf os
  | [] => rfl
  | o :: os => by
    have := slotsOf_turned f os
    simp [slotsOf, bObj] at this ⊢
    omega
theorem hR_GTurned (G : Gr) (a b : Int) (both : Bool) (h : ∃ ms : List MO, ms.map MO.abs = G.objs ∧ gSize ms G ≤ 1048576) : Small (gTurned G a b both).1 := by
  unfold gTurned turned
  split
  · split
    · obtain ⟨ms, e, hs⟩ := h
      intro rs er
      have er' : rs.map MO.abs = G.objs.map (bObj (bRef (rootAt G a).2 (rootAt G b).2 both)) := er
      have l1 : rs.length = ms.length := by
        have := congrArg List.length er'
        have := congrArg List.length e
        simp at *
        omega
      have l2 : slotsLen rs = slotsLen ms := by rw [slotsOf_abs, slotsOf_abs, er', slotsOf_turned, e]
      unfold gSize at hs ⊢
      show rs.length + slotsLen rs + (G.roots.map _).length + (G.mourned.map _).length ≤ _
      rw [List.length_map, List.length_map]
      omega
    · exact small_same (G := G) rfl (Nat.le_refl _) (Nat.le_refl _) h
  · exact small_zero
end Go.Proofs.Ythldaifnlnbpgaa.gr
