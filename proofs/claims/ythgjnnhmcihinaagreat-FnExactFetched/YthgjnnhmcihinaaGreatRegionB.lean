/-
  What may change while a drawn region with a store is run: nothing of what there was but one block, which once it is as wanted stays so.
  Made from the template RegionB.
-/
import Derived.Test.YthgjnnhmcihinaaGreatM1
import Derived.Test.YthgjnnhmcihinaaGreatRegionTell
namespace Go.Proofs.YthgjnnhmcihinaaGreat.hp
open Go.RowKit rows heads words walks region
set_option linter.unusedVariables false

def RelB (B : Nat) (G C : Option Obj → Prop) (W W' : World) : Prop := Ch [B] W W' ∧ (G W.heap[B]? → G W'.heap[B]?) ∧ (C W.heap[B]? → C W'.heap[B]?)
theorem relB_refl (B : Nat) (G C : Option Obj → Prop) (W : World) : RelB B G C W W := ⟨Ch.refl _ _, fun z => z, fun z => z⟩
theorem relB_trans (B : Nat) (G C : Option Obj → Prop) (a b c : World) (h : RelB B G C a b) (g : RelB B G C b c) : RelB B G C a c := ⟨h.1.trans g.1, fun z => g.2.1 (h.2.1 z), fun z => g.2.2 (h.2.2 z)⟩
theorem relB_drew (B : Nat) (G C : Option Obj → Prop) (W : World) : RelB B G C W W.drew := ⟨⟨rfl, rfl, rfl, Nat.le_refl _, fun _ _ _ => rfl⟩, fun z => z, fun z => z⟩
theorem relB_below {B : Nat} {G C : Option Obj → Prop} {W W' : World} (h : Below W.heap.size W W') (hB : B < W.heap.size) : RelB B G C W W' := ⟨ch_below h, fun z => by rw [h.block _ hB]; exact z, fun z => by rw [h.block _ hB]; exact z⟩
theorem ch_cell {S : List Nat} {w w' : World} {p : Addr} (h : Ch S w w') (hl : p.block < w.heap.size) (hn : p.block ∉ S) : w'.cell? p = w.cell? p := by
  unfold World.cell?
  rw [h.block _ hl hn]
end Go.Proofs.YthgjnnhmcihinaaGreat.hp
