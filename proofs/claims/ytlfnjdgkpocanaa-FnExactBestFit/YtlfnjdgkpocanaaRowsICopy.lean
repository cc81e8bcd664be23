/-
  A copy by make and copy: a block of its own that holds just these numbers.
  Made from the template RowsICopy.
-/
import Derived.Test.YtlfnjdgkpocanaaInts
import Derived.Laws.CopyOwn
import Derived.Deep.Cut
import Derived.Deep.CutRange
namespace Go.Proofs.Ytlfnjdgkpocanaa.rows
open Go.RowKit
set_option maxRecDepth 100000

theorem infoSize : (Try.prog.info? 2).map (·.size) = some 1 := by kernel_rfl
theorem splice_all {L cs : List Value} (h : cs.length = L.length) : splice L 0 cs = cs := by simp [splice, h]

theorem src_of {w : World} {a : Option Addr} {cap : Nat} {xs : List Int} (h : IntsAt w (.slice a xs.length cap) xs) (hp : 0 < xs.length) : ∃ ad, a = some ad ∧ ∀ j v, (cellsOf xs)[j]? = some v → w.cell? (ad.add j) = some v := by
  have h' := h
  obtain ⟨a', cap', e, _, _, _, hc⟩ := h
  injection e with e1 e2 e3
  subst e1
  obtain ⟨b, off, rfl, _⟩ := hc hp
  exact ⟨_, rfl, ints_news h'⟩

theorem own_nil (w : World) (base : Nat) : Own w base (.slice none 0 0) [] := World.ownsRow_nil _ _ _ _

end Go.Proofs.Ytlfnjdgkpocanaa.rows
