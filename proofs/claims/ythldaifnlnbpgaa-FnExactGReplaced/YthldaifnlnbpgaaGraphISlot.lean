/-
  Chapter 6 as the program has it: a slot of the object to which a root leads.
  Made from the template GraphISlot.
-/
import Derived.Test.YthldaifnlnbpgaaGraphEd1
import Derived.Lib.Hide
namespace Go.Proofs.Ythldaifnlnbpgaa.gr
open Go.RowKit rows heads
set_option maxRecDepth 100000

theorem gOk_len {G : Gr} (h : gOk G = true) : G.objs.length ≤ 200 ∧ G.roots.length = 6 ∧ G.mourned.length ≤ 40 ∧ 1 ≤ G.next ∧ G.next ≤ 100000 ∧ 0 ≤ G.seed ∧ G.seed ≤ 65535 := by
  unfold gOk at h
  simp only [Bool.and_eq_true] at h
  obtain ⟨⟨⟨h0, _⟩, _⟩, _⟩ := h
  simp only [gHead, inR, Bool.and_eq_true, decide_eq_true_eq] at h0
  omega
theorem own_len {w : World} {base : Nat} {o r m : Value} {ms : List MO} {G : Gr} (O : OwnG w base o r m ms G) : ms.length = G.objs.length := by rw [← O.1]; simp
theorem own_abs {w : World} {base : Nat} {o r m : Value} {ms : List MO} {G : Gr} (O : OwnG w base o r m ms G) (k : Nat) : (ms.getD k moD).slots = (G.objs.getD k obD).slots := by rw [← O.1, abs_getD]; rfl

end Go.Proofs.Ythldaifnlnbpgaa.gr
