/-
  Chapter 5 as lists: which lists are right, a name claimed, an index released, the next hash.
  Made from the template ClassD.
-/
import Derived.Test.YtmhbdmmpmagbkaaGreatEnts
import Derived.Test.YtmhbdmmpmagbkaaGreatEntsZ
import Derived.Test.YtmhbdmmpmagbkaaGreatHeadOk
namespace Go.Proofs.YtmhbdmmpmagbkaaGreat.ents
open Go.RowKit rows heads

/-- Are two names alike? -/
def eqN (s t : ByteArray) : Bool := s.toList == t.toList
/-- Is the entry at i right, with those ahead of it? -/
def entOk (es : List Ent) (i : Nat) : Bool :=
  inR 0 99 (es.getD i entD).1 && inR 1 20 ((es.getD i entD).2.size : Int) && (decide (i = 0) || decide ((es.getD (i - 1) entD).1 < (es.getD i entD).1)) && (List.range i).all (fun k => !eqN (es.getD k entD).2 (es.getD i entD).2)
def clsOk (es : List Ent) : Bool := decide (es.length ≤ 40) && (List.range es.length).all (entOk es)
theorem clsOk_no {es : List Ent} {i : Nat} (hi : i < es.length) (h : entOk es i = false) : clsOk es = false := by
  unfold clsOk
  rw [Bool.and_eq_false_iff]
  refine .inr ?_
  rw [List.all_eq_false]
  exact ⟨i, List.mem_range.2 hi, by simp [h]⟩
theorem clsOk_yes {es : List Ent} (hl : es.length ≤ 40) (h : ∀ i, i < es.length → entOk es i = true) : clsOk es = true := by
  unfold clsOk
  rw [Bool.and_eq_true, decide_eq_true_eq, List.all_eq_true]
  exact ⟨hl, fun i hi => h i (List.mem_range.1 hi)⟩
theorem clsOk_at {es : List Ent} (h : clsOk es = true) : es.length ≤ 40 ∧ ∀ i, i < es.length → entOk es i = true := by
  unfold clsOk at h
  rw [Bool.and_eq_true, decide_eq_true_eq, List.all_eq_true] at h
  exact ⟨h.1, fun i hi => h.2 i (List.mem_range.2 hi)⟩
theorem entOk_parts {es : List Ent} {i : Nat} (h : entOk es i = true) : inR 0 99 (es.getD i entD).1 = true ∧ inR 1 20 ((es.getD i entD).2.size : Int) = true ∧ (i = 0 ∨ (es.getD (i - 1) entD).1 < (es.getD i entD).1) ∧ ∀ k, k < i → eqN (es.getD k entD).2 (es.getD i entD).2 = false := by
  unfold entOk at h
  simp only [Bool.and_eq_true, Bool.or_eq_true, decide_eq_true_eq, List.all_eq_true, Bool.not_eq_true'] at h
  exact ⟨h.1.1.1, h.1.1.2, h.1.2, fun k hk => h.2 k (List.mem_range.2 hk)⟩
theorem entOk_yes {es : List Ent} {i : Nat} (h1 : inR 0 99 (es.getD i entD).1 = true) (h2 : inR 1 20 ((es.getD i entD).2.size : Int) = true) (h3 : i = 0 ∨ (es.getD (i - 1) entD).1 < (es.getD i entD).1) (h4 : ∀ k, k < i → eqN (es.getD k entD).2 (es.getD i entD).2 = false) : entOk es i = true := by
  unfold entOk
  simp only [Bool.and_eq_true, Bool.or_eq_true, decide_eq_true_eq, List.all_eq_true, Bool.not_eq_true']
  exact ⟨⟨⟨h1, h2⟩, h3⟩, fun k hk => h4 k (List.mem_range.1 hk)⟩
theorem entOk_no {es : List Ent} {i : Nat} (h : inR 0 99 (es.getD i entD).1 = false ∨ inR 1 20 ((es.getD i entD).2.size : Int) = false ∨ (0 < i ∧ (es.getD i entD).1 ≤ (es.getD (i - 1) entD).1) ∨ ∃ k, k < i ∧ eqN (es.getD k entD).2 (es.getD i entD).2 = true) : entOk es i = false := by
  cases e : entOk es i
  · rfl
  · obtain ⟨p1, p2, p3, p4⟩ := entOk_parts e
    rcases h with h | h | ⟨h, h'⟩ | ⟨k, h, h'⟩
    · rw [h] at p1; cases p1
    · rw [h] at p2; cases p2
    · omega
    · rw [p4 k h] at h'; cases h'

/-- The place of a name; none. -/
def findN (es : List Ent) (name : ByteArray) : Option Nat := (List.range es.length).find? fun i => eqN (es.getD i entD).2 name
/-- The least index that is free: as many as stand at their own places from the start on. -/
def freeK : List Ent → Nat → Nat
  | [], k => k
  | e :: es, k => if e.1 = (k : Int) then freeK es (k + 1) else k
/-- The next hash. -/
def drawH (s : Int) : Int := if inR 0 65535 s = true then (25173 * s + 13849) % 65536 else -1

end Go.Proofs.YtmhbdmmpmagbkaaGreat.ents
