/-
  Chapter 6 as the specification has it: the hash of the object to which a root leads.
  Made from the template GraphS3.
-/
import Derived.Test.YthldaifnlnbpgaaGraphS2
import Derived.Test.YthldaifnlnbpgaaGraphS
namespace Go.Proofs.Ythldaifnlnbpgaa.gr
open Go.RowKit rows heads
set_option maxRecDepth 100000

/-- The ref at a root. -/
abbrev rootAt (G : Gr) (x : Int) : Rf := G.roots.getD x.toNat refD
def hashAt (G : Gr) (x : Int) : Int := if (inR 0 5 x && (rootAt G x).1 == 2) = true then (G.objs.getD (atI G.objs (rootAt G x).2).toNat obD).hash else -1
theorem gOk_parts {G : Gr} (h : gOk G = true) : G.roots.length = 6 ∧ ∀ i, i < 6 → refOk G.objs (G.roots.getD i refD) = true := by
  unfold gOk at h
  simp only [Bool.and_eq_true] at h
  obtain ⟨⟨⟨h0, _⟩, h2⟩, _⟩ := h
  unfold gHead at h0
  simp only [Bool.and_eq_true, decide_eq_true_eq] at h0
  rw [List.all_eq_true] at h2
  exact ⟨h0.1.1.1.2, fun i hi => h2 i (List.mem_range.2 hi)⟩
theorem refOk_two {os : List Ob} {r : Rf} (h : refOk os r = true) (h2 : r.1 = 2) : 0 ≤ atI os r.2 ∧ atI os r.2 < os.length := by
  unfold refOk at h
  rw [h2] at h
  simp at h
  rcases atI_le os r.2 with ⟨_, h3⟩ | h3
  · exact ⟨h, h3⟩
  · omega

def gHash (G : Gr) (x : Int) : Int := if gOk G = true then hashAt G x else -1
end Go.Proofs.Ythldaifnlnbpgaa.gr
