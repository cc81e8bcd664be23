/-
  Chapter 10 as the specification has it: a heap of the call's own made straight.
  Made from the template StrS (mkstrs.py).
-/
import Derived.Test.YtmhbdmmpmagbkaaGreatStrS0
namespace Go.Proofs.YtmhbdmmpmagbkaaGreat.hp
open Go.RowKit rows heads words walks region
set_option maxRecDepth 100000
set_option linter.unusedVariables false
set_option linter.unusedSimpArgs false

def dS8 (k : Nat) : Nat := 38 + k
theorem dS8_inj : ∀ k, k < 29 → ∀ j, j < 29 → dS8 j = dS8 k → j = k := fun k _ j _ e => by unfold dS8 at e; omega
def DS8 (s : Nat) : Bool := decide (38 ≤ s) && decide (s ≤ 66)
def FS8 (P g n c lb lo ln lc i0 j0 k0 : Nat) (hv0 : Value) (y z : Int) (k : Nat) (t : Value) : Prop :=
  match k with
  | 0 => t = .pointer (some ⟨P, 0, none⟩)
  | 1 => t = .pointer (some ⟨P, 0, none⟩)
  | 2 => t = .pointer (some ⟨P, 2, none⟩)
  | 3 => t = .slice (some ⟨g, 0, none⟩) n c
  | 4 => t = .slice (some ⟨lb, lo, none⟩) ln lc
  | 5 => t = .int .i64 (i0 : Int)
  | 6 => t = .pointer (some ⟨lb, lo + i0, none⟩)
  | 7 => t = .int .i64 (j0 : Int)
  | 8 => t = .int .i64 ((j0 : Int) + 1)
  | 9 => t = .int .i64 (k0 : Int)
  | 10 => t = .int .i64 ((j0 : Int) + 1 + (k0 : Int))
  | 11 => t = .pointer (some ⟨P, 0, none⟩)
  | 12 => t = .pointer (some ⟨P, 0, none⟩)
  | 13 => t = hv0
  | 14 => t = .pointer (some ⟨P, 0, none⟩)
  | 15 => t = .pointer (some ⟨P, 0, none⟩)
  | 16 => t = .pointer (some ⟨P, 2, none⟩)
  | 17 => t = .slice (some ⟨g, 0, none⟩) n c
  | 18 => t = .slice (some ⟨lb, lo, none⟩) ln lc
  | 19 => t = .int .i64 (i0 : Int)
  | 20 => t = .pointer (some ⟨lb, lo + i0, none⟩)
  | 21 => t = .int .i64 (j0 : Int)
  | 22 => t = .int .i64 ((j0 : Int) + 1)
  | 23 => t = .int .i64 (k0 : Int)
  | 24 => t = .int .i64 ((j0 : Int) + 1 + (k0 : Int))
  | 25 => t = .pointer (some ⟨g, j0 + 1 + k0, none⟩)
  | 26 => t = .int .i64 y
  | 27 => t = .int .i64 z
  | 28 => t = .pointer (some ⟨g, j0 + 1 + k0, none⟩)
  | _ => False
def dS12 (k : Nat) : Nat := 71 + k
theorem dS12_inj : ∀ k, k < 17 → ∀ j, j < 17 → dS12 j = dS12 k → j = k := fun k _ j _ e => by unfold dS12 at e; omega
def DS12 (s : Nat) : Bool := decide (71 ≤ s) && decide (s ≤ 87)
def FS12 (P g n c k0 : Nat) (hv0 : Value) (y z : Int) (k : Nat) (t : Value) : Prop :=
  match k with
  | 0 => t = .pointer (some ⟨P, 0, none⟩)
  | 1 => t = .pointer (some ⟨P, 0, none⟩)
  | 2 => t = .pointer (some ⟨P, 5, none⟩)
  | 3 => t = .slice (some ⟨g, 0, none⟩) n c
  | 4 => t = .int .i64 (k0 : Int)
  | 5 => t = .pointer (some ⟨P, 0, none⟩)
  | 6 => t = .pointer (some ⟨P, 0, none⟩)
  | 7 => t = hv0
  | 8 => t = .pointer (some ⟨P, 0, none⟩)
  | 9 => t = .pointer (some ⟨P, 0, none⟩)
  | 10 => t = .pointer (some ⟨P, 5, none⟩)
  | 11 => t = .slice (some ⟨g, 0, none⟩) n c
  | 12 => t = .int .i64 (k0 : Int)
  | 13 => t = .pointer (some ⟨g, k0, none⟩)
  | 14 => t = .int .i64 y
  | 15 => t = .int .i64 z
  | 16 => t = .pointer (some ⟨g, k0, none⟩)
  | _ => False
def dS16 (k : Nat) : Nat := 97 + k
theorem dS16_inj : ∀ k, k < 17 → ∀ j, j < 17 → dS16 j = dS16 k → j = k := fun k _ j _ e => by unfold dS16 at e; omega
def DS16 (s : Nat) : Bool := decide (97 ≤ s) && decide (s ≤ 113)
def FS16 (P g n c k0 : Nat) (hv0 : Value) (y z : Int) (k : Nat) (t : Value) : Prop :=
  match k with
  | 0 => t = .pointer (some ⟨P, 0, none⟩)
  | 1 => t = .pointer (some ⟨P, 0, none⟩)
  | 2 => t = .pointer (some ⟨P, 6, none⟩)
  | 3 => t = .slice (some ⟨g, 0, none⟩) n c
  | 4 => t = .int .i64 (k0 : Int)
  | 5 => t = .pointer (some ⟨P, 0, none⟩)
  | 6 => t = .pointer (some ⟨P, 0, none⟩)
  | 7 => t = hv0
  | 8 => t = .pointer (some ⟨P, 0, none⟩)
  | 9 => t = .pointer (some ⟨P, 0, none⟩)
  | 10 => t = .pointer (some ⟨P, 6, none⟩)
  | 11 => t = .slice (some ⟨g, 0, none⟩) n c
  | 12 => t = .int .i64 (k0 : Int)
  | 13 => t = .pointer (some ⟨g, k0, none⟩)
  | 14 => t = .int .i64 y
  | 15 => t = .int .i64 z
  | 16 => t = .pointer (some ⟨g, k0, none⟩)
  | _ => False
theorem SS.newList {W : World} {w : World} {P base gr go gm cr co cm nr no nm : Nat} {vs vl vl' : Value} {H : Hp} {os os' xs rs ms : List Int} (h : SS w W P base gr go gm cr co cm nr no nm vs vl H os xs rs ms) (hl : rows.Own W w.heap.size vl' os') : SS w W P base gr go gm cr co cm nr no nm vs vl' H os' xs rs ms :=
  ⟨h.nine, h.row, h.roots, h.mour, h.seen, hl, h.ch, h.lr, h.lo, h.lm⟩
end Go.Proofs.YtmhbdmmpmagbkaaGreat.hp
