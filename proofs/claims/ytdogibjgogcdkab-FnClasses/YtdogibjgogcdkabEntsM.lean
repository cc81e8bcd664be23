/-
  Marks written into lists of entries, and found again; how much a list of entries holds.
  Made from the template EntsM.
-/
import Derived.Test.YtdogibjgogcdkabEntsX
import Derived.Test.YtdogibjgogcdkabMarkText
namespace Go.Proofs.Ytdogibjgogcdkab.ents
open Go.RowKit rows

def marksE (k : Nat) (n : Nat) : List Ent := (List.range n).map (fun i : Nat => (((k + 2 * i : Nat) : Int), mt (k + 2 * i + 1)))
theorem marksE_length (k : Nat) (n : Nat) : (marksE k n).length = n := by simp [marksE]
theorem marksE_getD (k : Nat) {n i : Nat} (h : i < n) : (marksE k n).getD i entD = (((k + 2 * i : Nat) : Int), mt (k + 2 * i + 1)) := by simp [marksE, List.getD_eq_getElem?_getD, h]
theorem marksE_set {es : List Ent} {k : Nat} (k0 : Nat) (h : k < es.length) : (marksE k0 k ++ es.drop k).set k (((k0 + 2 * k : Nat) : Int), mt (k0 + 2 * k + 1)) = marksE k0 (k + 1) ++ es.drop (k + 1) := by
  apply List.ext_getElem?
  intro i
  simp only [marksE, List.getElem?_set, List.getElem?_append, List.length_map, List.length_range, List.getElem?_map, List.getElem?_drop, List.length_append, List.length_drop]
  rcases Nat.lt_trichotomy i k with hi | hi | hi
  · grind
  · grind
  · grind

theorem grown_below {w w1 w2 : World} {r : Option Nat} (h : w.grownBy w1 r) (b : Below w1.heap.size w1 w2) : w.grownBy w2 r :=
  ⟨b.os.trans h.os, b.tape.trans h.tape, b.output.trans h.output, Nat.le_trans h.size b.size, fun i hi hne => (b.block i (Nat.lt_of_lt_of_le hi h.size)).trans (h.block i hi hne)⟩
theorem grown_both {w w1 w2 : World} {r : Option Nat} (h : w.grownBy w1 r) (b : w1.grownBy w2 r) : w.grownBy w2 r :=
  ⟨b.os.trans h.os, b.tape.trans h.tape, b.output.trans h.output, Nat.le_trans h.size b.size, fun i hi hne => (b.block i (Nat.lt_of_lt_of_le hi h.size) hne).trans (h.block i hi hne)⟩
theorem row_below {w w' : World} {base size n : Nat} {t : TypeId} {v : Value} {xs : List Value} (h : w.ownsRow base t size v n xs) (hb : Below w.heap.size w w') : w'.ownsRow base t size v n xs := by
  obtain ⟨h0, ⟨h1, h2⟩ | ⟨g, cap, cur, h1, hg, hh, hle, hm, hs, ht⟩⟩ := h
  · exact ⟨h0, .inl ⟨h1, h2⟩⟩
  · exact ⟨h0, .inr ⟨g, cap, cur, h1, hg, (hb.block g (lt_of_block hh)).trans hh, hle, hm, hs, ht⟩⟩

end Go.Proofs.Ytdogibjgogcdkab.ents
