/-
  Chapter 12 as the specification has it: a slot there is, and what stands in it, followed. Chapter 12 as the program has it: a set kept rising. Chapter 12 as lists: a slot stored, and what is seen then. Chapter 12 as the specification has it: Stored.
-/
import Derived.Test.YtemlagfaaibenaaGreatM12
import Derived.Test.YtemlagfaaibenaaGreatM7
import Derived.Test.YtemlagfaaibenaaGreatHeapS7
import Derived.Test.YtemlagfaaibenaaGreatM13
namespace Go.Proofs.YtemlagfaaibenaaGreat.hp
open Go.RowKit rows heads words walks region
set_option maxRecDepth 100000
set_option linter.unusedVariables false
set_option linter.unusedSimpArgs false
end Go.Proofs.YtemlagfaaibenaaGreat.hp
namespace Go.Proofs.YtemlagfaaibenaaGreat.hp
open Go.RowKit rows heads words walks
set_option maxRecDepth 100000
set_option linter.unusedVariables false
set_option linter.unusedSimpArgs false
end Go.Proofs.YtemlagfaaibenaaGreat.hp
namespace Go.Proofs.YtemlagfaaibenaaGreat.hp
open Go.RowKit rows heads words walks
set_option maxRecDepth 100000
set_option linter.unusedVariables false
end Go.Proofs.YtemlagfaaibenaaGreat.hp
namespace Go.Proofs.YtemlagfaaibenaaGreat.hp
open Go.RowKit rows heads words walks region
set_option maxRecDepth 100000
set_option linter.unusedVariables false
set_option linter.unusedSimpArgs false
end Go.Proofs.YtemlagfaaibenaaGreat.hp
