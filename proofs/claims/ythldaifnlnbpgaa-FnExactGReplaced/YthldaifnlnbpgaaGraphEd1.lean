/-
  Chapter 6: a root copied onto another, in the graph that a pointer leads to; by the specification and by the program.
  Made from the template GraphEd1.
-/
import Derived.Test.YthldaifnlnbpgaaGraphE
import Derived.Test.YthldaifnlnbpgaaGraphIAt
import Derived.Deep.RegionLaw
namespace Go.Proofs.Ythldaifnlnbpgaa.gr
open Go.RowKit rows heads
set_option maxRecDepth 100000

theorem q_in_root {o m : Value} {q n c : Nat} {ms : List MO} : q ∈ gblk o (.slice (some ⟨q, 0, none⟩) n c) m ms := by simp [gblk, blk_some]
theorem held_setRoot {w : World} {base P : Nat} {o m : Value} {q n c : Nat} {ms : List MO} {G : Gr} (T : Five w P 30 o (.slice (some ⟨q, 0, none⟩) n c) m (.int .i64 G.next) (.int .i64 G.seed)) (O : OwnG w base o (.slice (some ⟨q, 0, none⟩) n c) m ms G) (N : P ∉ gblk o (.slice (some ⟨q, 0, none⟩) n c) m ms) (hb : base ≤ P) (i : Nat) (e : Rf) :
    Held (put2 w q i e) base P { G with roots := G.roots.set i e } ∧ Below base w (put2 w q i e) := by
  have hq : base ≤ q := (ownG_lt O q q_in_root).1
  refine ⟨⟨o, _, m, ms, five_ch T (put2_ch w q i e) (fun h => N ((List.mem_singleton.1 h) ▸ q_in_root)), ownG_setRoot O i e, N, hb⟩, ?_⟩
  exact ((Below.refl _ w).setCell (p := ⟨q, i * 2, none⟩) hq _).setCell (p := ⟨q, i * 2 + 1, none⟩) hq _
theorem bel_drew' {base q i : Nat} {e : Rf} {w : World} (h : Below base w (put2 w q i e)) : Below base w (put2 w.drew q i e) := ⟨h.os, h.tape, h.output, h.size, h.block⟩
theorem held_drew {w : World} {base P : Nat} {G : Gr} (h : Held w base P G) : Held w.drew base P G := h
theorem put2_drew (w : World) (q i : Nat) (e : Rf) : put2 w.drew q i e = (put2 w q i e).drew := rfl

theorem copyRoot_no {G : Gr} {t f : Int} (h : (inR 0 5 t && inR 0 5 f) = false) : copyRoot G t f = (G, false) := by unfold copyRoot; rw [h]; rfl
theorem copyRoot_yes {G : Gr} {t f : Int} (h : (inR 0 5 t && inR 0 5 f) = true) : copyRoot G t f = ({ G with roots := G.roots.set t.toNat (rootAt G f) }, true) := by unfold copyRoot; rw [if_pos h]

/-- The cell holds this number. -/
abbrev NumAt (w : World) (b : Nat) (x : Int) : Prop := w.cell? ⟨b, 0, none⟩ = some (.int .i64 x)
end Go.Proofs.Ythldaifnlnbpgaa.gr
