/-
  Chapter 6: a root copied onto another, in the graph that a pointer leads to; by the specification and by the program.
  Made from the template GraphEd1.
-/
import Derived.Test.YtcboojhabolcbaaGreatDoorM7
import Derived.Test.YtcboojhabolcbaaGreatDoorGraphIAt
import Derived.Deep.RegionLaw
namespace Go.Proofs.YtcboojhabolcbaaGreatDoor.gr
open Go.RowKit rows heads
set_option maxRecDepth 100000

theorem q_in_root {o m : Value} {q n c : Nat} {ms : List MO} : q ∈ gblk o (.slice (some ⟨q, 0, none⟩) n c) m ms := by simp [gblk, blk_some]
theorem held_setRoot {w : World} {base P : Nat} {o m : Value} {q n c : Nat} {ms : List MO} {G : Gr} (T : Five w P 27 o (.slice (some ⟨q, 0, none⟩) n c) m (.int .i64 G.next) (.int .i64 G.seed)) (O : OwnG w base o (.slice (some ⟨q, 0, none⟩) n c) m ms G) (N : P ∉ gblk o (.slice (some ⟨q, 0, none⟩) n c) m ms) (hb : base ≤ P) (i : Nat) (e : Rf) :
    Held (put2 w q i e) base P { G with roots := G.roots.set i e } ∧ Below base w (put2 w q i e) := by
  have hq : base ≤ q := (ownG_lt O q q_in_root).1
  refine ⟨⟨o, _, m, ms, five_ch T (put2_ch w q i e) (fun h => N ((List.mem_singleton.1 h) ▸ q_in_root)), ownG_setRoot O i e, N, hb⟩, ?_⟩
  exact ((Below.refl _ w).setCell (p := ⟨q, i * 2, none⟩) hq _).setCell (p := ⟨q, i * 2 + 1, none⟩) hq _
theorem bel_drew' {base q i : Nat} {e : Rf} {w : World} (h : Below base w (put2 w q i e)) : Below base w (put2 w.drew q i e) := ⟨h.os, h.tape, h.output, h.size, h.block⟩
theorem held_drew {w : World} {base P : Nat} {G : Gr} (h : Held w base P G) : Held w.drew base P G := h
theorem put2_drew (w : World) (q i : Nat) (e : Rf) : put2 w.drew q i e = (put2 w q i e).drew := rfl

theorem copyRoot_no {G : Gr} {t f : Int} (h : (inR 0 5 t && inR 0 5 f) = false) : copyRoot G t f = (G, false) := by unfold copyRoot; rw [h]; rfl
theorem copyRoot_yes {G : Gr} {t f : Int} (h : (inR 0 5 t && inR 0 5 f) = true) : copyRoot G t f = ({ G with roots := G.roots.set t.toNat (rootAt G f) }, true) := by unfold copyRoot; rw [if_pos h]

set_option maxHeartbeats 4000000 in
theorem l6CopyRoot_any {w : World} {base P : Nat} {G : Gr} (H : Held w base P G) (hok : gOk G = true) (t f : Int) :
    Calls Tryz.prog 46 #[.pointer (some ⟨P, 0, none⟩), .int .i64 t, .int .i64 f] w fun e w' => e = .returned (.bool (copyRoot G t f).2) ∧ Held w' base P (copyRoot G t f).1 ∧ Below base w w' := by
  have RT := l6Root_any t
  have RF := l6Root_any f
  cases d1 : inR 0 5 t
  · rw [copyRoot_no (by rw [d1]; rfl)]
    rw [d1] at RT
    have HH : Hid _ := H
    clear H RF
    go_enter Tryz.func46, Tryz.ntmps46
    go_wp2_with (go_at_call 64; refine (RT _).mono ?_; rintro e w3 ⟨rfl, hw3⟩; rw [hw3]; clear hw3 w3)
    go_ret
    exact ⟨rfl, HH.out, Below.refl _ _⟩
  cases d2 : inR 0 5 f
  · rw [copyRoot_no (by rw [d1, d2]; rfl)]
    rw [d1] at RT
    rw [d2] at RF
    have HH : Hid _ := H
    clear H
    go_enter Tryz.func46, Tryz.ntmps46
    go_wp2_with (first | (go_at_call 64; refine (RT _).mono ?_; rintro e w3 ⟨rfl, hw3⟩; rw [hw3]; clear hw3 w3 RT) | (go_at_call 64; refine (RF _).mono ?_; rintro e w3 ⟨rfl, hw3⟩; rw [hw3]; clear hw3 w3))
    go_ret
    exact ⟨rfl, HH.out, Below.refl _ _⟩
  rw [copyRoot_yes (by rw [d1, d2]; rfl)]
  rw [d1] at RT
  rw [d2] at RF
  have i1 : 0 ≤ t ∧ t ≤ 5 := by simpa [inR] using d1
  have i2 : 0 ≤ f ∧ f ≤ 5 := by simpa [inR] using d2
  obtain ⟨k1, rfl⟩ : ∃ k : Nat, t = (k : Int) := ⟨t.toNat, by omega⟩
  obtain ⟨k2, rfl⟩ : ∃ k : Nat, f = (k : Int) := ⟨f.toNat, by omega⟩
  have h6 := (gOk_parts hok).1
  obtain ⟨o, r, m, ms, T, O, N, hb⟩ := H
  obtain ⟨q, c, rfl⟩ := ownR_form O.2.2.1 (by omega)
  have hk1 : (k1 : Int) < 6 := by omega
  have hk2 : (k2 : Int) < 6 := by omega
  obtain ⟨x0, x1⟩ := ownR_cell O.2.2.1 (i := k2) (by omega)
  obtain ⟨y0, y1⟩ := ownR_cell O.2.2.1 (i := k1) (by omega)
  have f0 := row_frozen O.2.2.1 (k1 * 2)
  have f1 := row_frozen O.2.2.1 (k1 * 2 + 1)
  obtain ⟨_, z1, _⟩ := five_cells T
  have HH : Hid _ := held_setRoot T O N hb k1 (G.roots.getD k2 refD)
  rw [h6] at z1
  clear T O N hb h6 d1 d2 i1 i2
  simp only [rootAt, Int.toNat_natCast]
  generalize G.roots.getD k2 refD = e2 at *
  generalize G.roots.getD k1 refD = e1 at *
  obtain ⟨e21, e22⟩ := e2
  obtain ⟨e11, e12⟩ := e1
  go_enter Tryz.func46, Tryz.ntmps46
  go_wp2_with (first | (go_at_call 64; refine (RT _).mono ?_; rintro e w3 ⟨rfl, hw3⟩; rw [hw3]; clear hw3 w3 RT) | (go_at_call 64; refine (RF _).mono ?_; rintro e w3 ⟨rfl, hw3⟩; rw [hw3]; clear hw3 w3))
  go_region_law (fail)
  all_goals go_wp2
  all_goals go_ret
  all_goals exact ⟨rfl, HH.out.1, bel_drew' HH.out.2⟩

/-- The cell holds this number. -/
abbrev NumAt (w : World) (b : Nat) (x : Int) : Prop := w.cell? ⟨b, 0, none⟩ = some (.int .i64 x)
set_option maxHeartbeats 4000000 in
theorem cCopied_any {w : World} {base P b1 b2 : Nat} {G : Gr} (H : Held w base P G) (hok : gOk G = true) (t f : Int) (n1 : NumAt w b1 t) (n2 : NumAt w b2 f) :
    Calls Tryz.prog 39 #[.pointer (some ⟨P, 0, none⟩), .pointer (some ⟨b1, 0, none⟩), .pointer (some ⟨b2, 0, none⟩)] w fun e w' => e = .returned (.bool (copyRoot G t f).2) ∧ Held w' base P (copyRoot G t f).1 ∧ Below base w w' := by
  unfold NumAt at n1 n2
  have RT := rootInRange_any t
  have RF := rootInRange_any f
  cases d1 : inR 0 5 t
  · rw [copyRoot_no (by rw [d1]; rfl)]
    rw [d1] at RT
    have HH : Hid _ := H
    clear H RF
    go_enter Tryz.func39, Tryz.ntmps39
    go_wp2_with (go_at_call 37; refine (RT _).mono ?_; rintro e w3 ⟨rfl, hw3⟩; rw [hw3]; clear hw3 w3)
    go_ret
    exact ⟨rfl, HH.out, Below.refl _ _⟩
  cases d2 : inR 0 5 f
  · rw [copyRoot_no (by rw [d1, d2]; rfl)]
    rw [d1] at RT
    rw [d2] at RF
    have HH : Hid _ := H
    clear H
    go_enter Tryz.func39, Tryz.ntmps39
    go_wp2_with (first | (go_at_call 37; refine (RT _).mono ?_; rintro e w3 ⟨rfl, hw3⟩; rw [hw3]; clear hw3 w3 RT) | (go_at_call 37; refine (RF _).mono ?_; rintro e w3 ⟨rfl, hw3⟩; rw [hw3]; clear hw3 w3))
    go_ret
    exact ⟨rfl, HH.out, Below.refl _ _⟩
  rw [copyRoot_yes (by rw [d1, d2]; rfl)]
  rw [d1] at RT
  rw [d2] at RF
  have i1 : 0 ≤ t ∧ t ≤ 5 := by simpa [inR] using d1
  have i2 : 0 ≤ f ∧ f ≤ 5 := by simpa [inR] using d2
  obtain ⟨k1, rfl⟩ : ∃ k : Nat, t = (k : Int) := ⟨t.toNat, by omega⟩
  obtain ⟨k2, rfl⟩ : ∃ k : Nat, f = (k : Int) := ⟨f.toNat, by omega⟩
  have h6 := (gOk_parts hok).1
  obtain ⟨o, r, m, ms, T, O, N, hb⟩ := H
  obtain ⟨q, c, rfl⟩ := ownR_form O.2.2.1 (by omega)
  have hk1 : (k1 : Int) < 6 := by omega
  have hk2 : (k2 : Int) < 6 := by omega
  obtain ⟨x0, x1⟩ := ownR_cell O.2.2.1 (i := k2) (by omega)
  obtain ⟨y0, y1⟩ := ownR_cell O.2.2.1 (i := k1) (by omega)
  have f0 := row_frozen O.2.2.1 (k1 * 2)
  have f1 := row_frozen O.2.2.1 (k1 * 2 + 1)
  obtain ⟨_, z1, _⟩ := five_cells T
  have HH : Hid _ := held_setRoot T O N hb k1 (G.roots.getD k2 refD)
  rw [h6] at z1
  clear T O N hb h6 d1 d2 i1 i2
  simp only [rootAt, Int.toNat_natCast]
  generalize G.roots.getD k2 refD = e2 at *
  generalize G.roots.getD k1 refD = e1 at *
  obtain ⟨e21, e22⟩ := e2
  obtain ⟨e11, e12⟩ := e1
  go_enter Tryz.func39, Tryz.ntmps39
  go_wp2_with (first | (go_at_call 37; refine (RT _).mono ?_; rintro e w3 ⟨rfl, hw3⟩; rw [hw3]; clear hw3 w3 RT) | (go_at_call 37; refine (RF _).mono ?_; rintro e w3 ⟨rfl, hw3⟩; rw [hw3]; clear hw3 w3))
  go_region_law (fail)
  all_goals go_wp2
  all_goals go_ret
  all_goals exact ⟨rfl, HH.out.1, bel_drew' HH.out.2⟩
end Go.Proofs.YtcboojhabolcbaaGreatDoor.gr
