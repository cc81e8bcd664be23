/-
  Chapter 5 as the program has it: ClassesOk.
  Made from the template ClassIOk.
-/
import Derived.Test.YtdogibjgogcdkabClassIMap
namespace Go.Proofs.Ytdogibjgogcdkab.ents
open Go.RowKit rows heads

theorem implClassesOk (w : World) (v : Value) (es : List Ent) (h : EntsAt w v es) (hb : Borne es) (_ : es.length ≤ 1048576) (_ : namesLen es ≤ 1048576) :
    Calls Try.prog 24 #[v] w fun e w' => e = .returned (.bool (clsOk es)) ∧ Below w.heap.size w w' := by
  have N := namesOf_any h hb
  generalize clsOk es = c at *
  go_enter Try.func24, Try.ntmps24
  go_wp2_with fail
  refine N.mono ?_
  rintro e w1 ⟨b, D, rfl, -, b1⟩
  have HB : Hid _ := b1
  clear b1 N
  go_wp2
  go_ret
  exact ⟨rfl, HB⟩
end Go.Proofs.Ytdogibjgogcdkab.ents
