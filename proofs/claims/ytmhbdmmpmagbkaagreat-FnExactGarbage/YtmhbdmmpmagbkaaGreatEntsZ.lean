/-
  How much a list of entries holds, as the laws reckon it.
  Made from the template EntsZ.
-/
import Derived.Test.YtmhbdmmpmagbkaaGreatEnts
namespace Go.Proofs.YtmhbdmmpmagbkaaGreat.ents
open Go.RowKit rows

/-- The bytes of all Names. -/
def namesLen : List Ent → Nat
  | [] => 0
  | e :: es => e.2.size + namesLen es
theorem namesLen_take_succ : ∀ {es : List Ent} {k : Nat}, k < es.length → namesLen (es.take (k + 1)) = namesLen (es.take k) + (es.getD k entD).2.size
  | [], _, h => by simp at h
  | e :: es, 0, _ => by simp [namesLen]
  | e :: es, k + 1, h => by
    have := namesLen_take_succ (es := es) (k := k) (by simpa using h)
    simp [namesLen] at this ⊢
    omega
theorem namesLen_take_le : ∀ (es : List Ent) (k : Nat), namesLen (es.take k) ≤ namesLen es
  | [], k => by simp [namesLen]
  | e :: es, 0 => by simp [namesLen]
  | e :: es, k + 1 => by
    have := namesLen_take_le es k
    simp [namesLen]
    omega
theorem size_le_names : ∀ {es : List Ent} {k : Nat}, k < es.length → (es.getD k entD).2.size ≤ namesLen es
  | [], _, h => by simp at h
  | e :: es, 0, _ => by simp [namesLen]
  | e :: es, k + 1, h => by
    have := size_le_names (es := es) (k := k) (by simpa using h)
    simp [namesLen] at this ⊢
    omega
/-- All Names are such as a machine bears. -/
def Borne (es : List Ent) : Prop := ∀ k, k < es.length → I64 (es.getD k entD).1 ∧ (es.getD k entD).2.size ≤ 9223372036854775807
/-- What is left when all is taken off; -1: it is too much. -/
def szE (es : List Ent) (left : Nat) : Int := if es.length + namesLen es ≤ left then (left : Int) - (es.length + namesLen es : Nat) else -1

end Go.Proofs.YtmhbdmmpmagbkaaGreat.ents
