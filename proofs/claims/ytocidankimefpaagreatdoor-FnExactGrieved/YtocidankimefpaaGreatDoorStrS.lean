/- Chapter 10 as the specification has it:  -/
import Derived.Test.YtocidankimefpaaGreatDoorM19
set_option linter.unusedSimpArgs false
set_option linter.unusedVariables false
set_option maxRecDepth 100000
namespace Go.Proofs.YtocidankimefpaaGreatDoor.hp
open Go.RowKit rows heads words walks region
theorem SS.G9 {W:World} {w:World} {P base gr go gm cr co cm nr no nm:Nat} {vs vl vl':Value} {H:Hp} {os os' xs rs ms:List Int} (h:SS w W P base gr go gm cr co cm nr no nm vs vl H os xs rs ms) (hl:rows.Own W w.heap.size vl' os'):SS w W P base gr go gm cr co cm nr no nm vs vl' H os' xs rs ms:=
 ⟨h.nine,h.row,h.roots,h.mour,h.seen,hl,h.ch,h.lr,h.lo,h.lm⟩
end Go.Proofs.YtocidankimefpaaGreatDoor.hp
