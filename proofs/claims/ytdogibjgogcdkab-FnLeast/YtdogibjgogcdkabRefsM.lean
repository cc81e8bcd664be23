/-
  Marks written into lists of refs, and found again; how much a list of refs holds.
  Made from the template RefsM.
-/
import Derived.Test.YtdogibjgogcdkabRefsX
namespace Go.Proofs.Ytdogibjgogcdkab.gr
open Go.RowKit rows
set_option maxRecDepth 100000

def marksR (k : Nat) (n : Nat) : List Rf := (List.range n).map (fun i : Nat => (((k + 2 * i : Nat) : Int), ((k + 2 * i + 1 : Nat) : Int)))
theorem marksR_length (k : Nat) (n : Nat) : (marksR k n).length = n := by simp [marksR]
theorem marksR_getD (k : Nat) {n i : Nat} (h : i < n) : (marksR k n).getD i refD = (((k + 2 * i : Nat) : Int), ((k + 2 * i + 1 : Nat) : Int)) := by simp [marksR, List.getD_eq_getElem?_getD, h]
theorem marksR_set {es : List Rf} {k : Nat} (k0 : Nat) (h : k < es.length) : (marksR k0 k ++ es.drop k).set k (((k0 + 2 * k : Nat) : Int), ((k0 + 2 * k + 1 : Nat) : Int)) = marksR k0 (k + 1) ++ es.drop (k + 1) := by
  apply List.ext_getElem?
  intro i
  simp only [marksR, List.getElem?_set, List.getElem?_append, List.length_map, List.length_range, List.getElem?_map, List.getElem?_drop, List.length_append, List.length_drop]
  rcases Nat.lt_trichotomy i k with hi | hi | hi
  · grind
  · grind
  · grind

theorem grown_below {w w1 w2 : World} {r : Option Nat} (h : w.grownBy w1 r) (b : Below w1.heap.size w1 w2) : w.grownBy w2 r :=
  ⟨b.os.trans h.os, b.tape.trans h.tape, b.output.trans h.output, Nat.le_trans h.size b.size, fun i hi hne => (b.block i (Nat.lt_of_lt_of_le hi h.size)).trans (h.block i hi hne)⟩
theorem grown_both {w w1 w2 : World} {r : Option Nat} (h : w.grownBy w1 r) (b : w1.grownBy w2 r) : w.grownBy w2 r :=
  ⟨b.os.trans h.os, b.tape.trans h.tape, b.output.trans h.output, Nat.le_trans h.size b.size, fun i hi hne => (b.block i (Nat.lt_of_lt_of_le hi h.size) hne).trans (h.block i hi hne)⟩
theorem row_below {w w' : World} {base size n : Nat} {t : TypeId} {v : Value} {xs : List Value} (h : w.ownsRow base t size v n xs) (hb : Below w.heap.size w w') : w'.ownsRow base t size v n xs := by
  obtain ⟨h0, ⟨h1, h2⟩ | ⟨g, cap, cur, h1, hg, hh, hle, hm, hs, ht⟩⟩ := h
  · exact ⟨h0, .inl ⟨h1, h2⟩⟩
  · exact ⟨h0, .inr ⟨g, cap, cur, h1, hg, (hb.block g (lt_of_block hh)).trans hh, hle, hm, hs, ht⟩⟩

end Go.Proofs.Ytdogibjgogcdkab.gr
