/-
  Chapter 4 as the specification has it: PutObject.
  Made from the template PutS2.
-/
import Derived.Test.YtlfnjdgkpocanaaPutS
import Derived.Test.YtlfnjdgkpocanaaCopied
namespace Go.Proofs.Ytlfnjdgkpocanaa.walks
open Go.RowKit rows heads words
set_option maxRecDepth 100000

theorem own_nothing2 {w : World} {base g : Nat} (hg : g = w.heap.size) (hb : base ≤ g) : Own (w.alloc (.cells #[] 2)) base (.slice (some ⟨g, 0, none⟩) 0 0) [] := by
  subst hg; exact own_nothing w base hb
theorem all_not {ys : List Int} {q : Nat} (hq : q < ys.length) (h : isW (ys.getD q 0) = false) : ys.all isW = false := by
  rw [List.all_eq_false]
  refine ⟨ys.getD q 0, ?_, by rw [h]; simp⟩
  rw [List.getD_eq_getElem?_getD, List.getElem?_eq_getElem hq]
  exact List.getElem_mem hq
theorem all_yes {ys : List Int} (h : ∀ q, q < ys.length → isW (ys.getD q 0) = true) : ys.all isW = true := by
  rw [List.all_eq_true]
  intro x hx
  obtain ⟨q, hq, rfl⟩ := List.mem_iff_getElem.1 hx
  have := h q hq
  rwa [List.getD_eq_getElem?_getD, List.getElem?_eq_getElem hq] at this

theorem putOk_false {xs ys : List Int} {i s f c g : Int} {p m : Bool} (h : ¬ (hok s f c g p m = true ∧ f ≤ 2 ∧ m = false ∧ (ys.length : Int) = s ∧ atOk xs i = true ∧ i + sz s ≤ xs.length ∧ ys.all isW = true)) : putOk xs i s f c g p m ys = false := by
  cases e : putOk xs i s f c g p m ys
  · rfl
  · refine absurd ?_ h
    simp only [putOk, Bool.and_eq_true, decide_eq_true_eq, Bool.not_eq_true'] at e
    obtain ⟨⟨_, ⟨⟨⟨⟨e1, e2⟩, e3⟩, e4⟩, e5⟩, e6⟩, e7⟩ := e
    exact ⟨e1, e2, e3, e4, e5, e6, e7⟩
theorem putOk_true {xs ys : List Int} {i s f c g : Int} {p m : Bool} (d : rowOk xs = true) (h : hok s f c g p m = true ∧ f ≤ 2 ∧ m = false ∧ (ys.length : Int) = s ∧ atOk xs i = true ∧ i + sz s ≤ xs.length ∧ ys.all isW = true) : putOk xs i s f c g p m ys = true := by
  obtain ⟨e1, e2, e3, e4, e5, e6, e7⟩ := h
  unfold putOk
  rw [d, e1, e3, e5, e7, decide_eq_true e2, decide_eq_true e4, decide_eq_true e6]
  rfl

end Go.Proofs.Ytlfnjdgkpocanaa.walks
