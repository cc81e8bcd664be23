/-
  Chapter 6 as the program has it: the object to which a root leads, and GHash.
  Made from the template GraphIAt.
-/
import Derived.Test.YtdogibjgogcdkalGraphIGraphOk
import Derived.Test.YtdogibjgogcdkalGraphE
import Derived.Test.YtdogibjgogcdkalGraphILed
namespace Go.Proofs.Ytdogibjgogcdkal.gr
open Go.RowKit rows heads
set_option maxRecDepth 100000

/-- Does this root lead to an object? -/
def leads (G : Gr) (x : Int) : Bool := inR 0 5 x && (rootAt G x).1 == 2
theorem leads_plc {G : Gr} (hok : gOk G = true) {x : Int} (h : leads G x = true) : atI G.objs (rootAt G x).2 = (plc G x : Int) ∧ plc G x < G.objs.length := by
  simp only [leads, Bool.and_eq_true, beq_iff_eq] at h
  have h1 : 0 ≤ x ∧ x ≤ 5 := by simpa [inR] using h.1
  have := refOk_two ((gOk_parts hok).2 x.toNat (by omega)) h.2
  unfold plc rootAt
  omega

theorem leads_led {G : Gr} (hok : gOk G = true) {x : Int} (hx : inR 0 5 x = true) : ledB G.objs (rootAt G x) = leads G x := by
  have h1 : 0 ≤ x ∧ x ≤ 5 := by simpa [inR] using hx
  have hr := (gOk_parts hok).2 x.toNat (by omega)
  unfold ledB leads
  rw [hx, Bool.true_and]
  by_cases h2 : (rootAt G x).1 = 2
  · have := (refOk_two hr h2).1
    rw [decide_eq_true this, Bool.and_true]
  · have : ((rootAt G x).1 == 2) = false := by simpa using h2
    rw [this, Bool.false_and]
end Go.Proofs.Ytdogibjgogcdkal.gr
