/-
  Small facts on graphs, for the walks of the laws.
  Made from the template GraphsL.
-/
import Derived.Test.YthldaifnlnbpgaaGraphsM
namespace Go.Proofs.Ythldaifnlnbpgaa.gr
open Go.RowKit rows heads
set_option maxRecDepth 100000

theorem graphAt_slices {w : World} {o r m : Value} {ms : List MO} {G : Gr} (h : GraphAt w o r m ms G) : ∃ a1 n1 c1 a2 n2 c2 a3 n3 c3, o = .slice a1 n1 c1 ∧ r = .slice a2 n2 c2 ∧ m = .slice a3 n3 c3 := by
  obtain ⟨_, ⟨⟨a1, c1, e1, _⟩, _⟩, hR, hM⟩ := h
  obtain ⟨a2, n2, c2, e2⟩ := refs_slice hR
  obtain ⟨a3, n3, c3, e3⟩ := refs_slice hM
  exact ⟨a1, _, c1, a2, n2, c2, a3, n3, c3, e1, e2, e3⟩
theorem slotsLen_abs : ∀ {ms ns : List MO}, ms.map MO.abs = ns.map MO.abs → slotsLen ms = slotsLen ns
  | [], [], _ => rfl
  | [], _ :: _, h => by simp at h
  | _ :: _, [], h => by simp at h
  | m :: ms, n :: ns, h => by
    simp only [List.map_cons, List.cons.injEq] at h
    have e : m.slots = n.slots := congrArg Ob.slots h.1
    simp only [slotsLen, e, slotsLen_abs h.2]
theorem gSize_of {ms ns : List MO} {G : Gr} (h : ms.map MO.abs = G.objs) (h' : ns.map MO.abs = G.objs) (hs : gSize ns G ≤ 1048576) : gSize ms G ≤ 1048576 := by
  have e := h.trans h'.symm
  have e1 := slotsLen_abs e
  have e2 := abs_len e
  unfold gSize at hs ⊢
  omega
end Go.Proofs.Ythldaifnlnbpgaa.gr
