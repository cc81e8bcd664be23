/-
  Chapter 6: a ref put at a root, in the graph that a pointer leads to; by the specification and by the program.
  Made from the template GraphEd2.
-/
import Derived.Test.YtcboojhabolcbaaGreatDoorM13
import Derived.Lib.Hide
import Derived.Deep.Quiet
import Derived.BigQuiet
namespace Go.Proofs.YtcboojhabolcbaaGreatDoor.gr
open Go.RowKit rows heads
set_option maxRecDepth 100000

theorem putR_no {G : Gr} {x : Int} {e : Rf} (h : (inR 0 5 x && (e.1 != 2 && refOk G.objs e)) = false) : putR G x e = (G, false) := by unfold putR; rw [h]; rfl
theorem putR_yes {G : Gr} {x : Int} {e : Rf} (h : (inR 0 5 x && (e.1 != 2 && refOk G.objs e)) = true) : putR G x e = ({ G with roots := G.roots.set x.toNat e }, true) := by unfold putR; rw [if_pos h]
theorem held_gsize {w : World} {base P : Nat} {G : Gr} (H : Held w base P G) : ∃ o r m ms, Five w P 27 o r m (.int .i64 G.next) (.int .i64 G.seed) ∧ GraphAt w o r m ms G := by
  obtain ⟨o, r, m, ms, T, O, _⟩ := H
  exact ⟨o, r, m, ms, T, ownG_at O⟩

set_option maxHeartbeats 1000000 in
theorem canBePut_any (e : Rf) (w : World) :
    Calls Tryz.prog 38 #[rv e] w fun r w' => r = .returned (.bool (e.1 != 2 && refOk [] e)) ∧ Below w.heap.size w w' := by
  have S := shapeOf_any e (w.alloc (rb e))
  have C := shv_cases e
  obtain ⟨k, n⟩ := e
  have B : Below w.heap.size w (w.alloc (rb (k, n))) := (Below.refl _ w).alloc (Nat.le_refl _) _
  have hsz : w.heap.size ≤ (w.alloc (rb (k, n))).heap.size := B.size
  have HB : Hid _ := B
  clear B
  generalize hs : shv (k, n) = sv at *
  obtain ⟨RV, hRV⟩ : ∃ RV, (((k, n) : Rf).1 != 2 && refOk [] (k, n)) = RV := ⟨_, rfl⟩
  rw [hRV]
  have HRV : Hid _ := hRV
  clear hs hRV
  go_enter Tryz.func38, Tryz.ntmps38
  go_wp2_with fail
  refine S.mono ?_
  rintro e w1 ⟨rfl, b1⟩
  have HB1 : Hid _ := HB.out.trans (b1.mono hsz)
  clear S HB b1
  rcases C with ⟨c, rfl⟩ | ⟨c, cc, rfl⟩ | ⟨c, rfl⟩ | ⟨c, c0, c1, rfl⟩
  · injection c with d1 d2
    subst d1 d2
    have ER : Hid (RV = true) := by show _ = _; rw [← HRV.out]; rfl
    have a1 := as_nothing_nothing
    have a2 := as_nothing_number
    clear HRV
    go_wp2
    go_ret
    exact ⟨by rw [ER.out]; rfl, HB1⟩
  · subst c
    have ER : Hid (RV = true) := by show _ = _; rw [← HRV.out]; simpa [refOk] using cc
    have a1 := as_number_nothing
    have a2 := as_number_number
    clear HRV cc
    go_wp2
    go_ret
    exact ⟨by rw [ER.out]; rfl, HB1⟩
  · subst c
    have ER : Hid (RV = false) := by show _ = _; rw [← HRV.out]; rfl
    have a1 := as_leading_nothing
    have a2 := as_leading_number
    clear HRV
    go_wp2
    go_ret
    exact ⟨by rw [ER.out]; rfl, HB1⟩
  · have ER : Hid (RV = false) := by
      show _ = _
      rw [← HRV.out]
      unfold refOk
      by_cases k0 : k = 0
      · subst k0
        have : ¬ n = 0 := fun e => c0 ⟨rfl, e⟩
        simp [this]
      · by_cases k1 : k = 1
        · subst k1
          cases d : inR (-100000) 100000 n
          · simp
          · exact absurd ⟨rfl, d⟩ c1
        · simp [k0, k1, c]
    have a1 := as_nil_nothing
    have a2 := as_nil_number
    clear HRV c0 c1
    go_wp2
    go_ret
    exact ⟨by rw [ER.out]; rfl, HB1⟩
/-- What leads nowhere is right or wrong whatever objects there are. -/
theorem refOk_any_objs (os : List Ob) (e : Rf) : (e.1 != 2 && refOk os e) = (e.1 != 2 && refOk [] e) := by
  obtain ⟨k, n⟩ := e
  by_cases k2 : k = 2
  · subst k2; rfl
  · unfold refOk
    by_cases k0 : k = 0
    · simp [k0]
    · by_cases k1 : k = 1
      · simp [k1]
      · have h2 : (k == 2) = false := by simpa using k2
        simp [k0, k1, h2]
abbrev RefAt (w : World) (b : Nat) (e : Rf) : Prop := w.cell? ⟨b, 0, none⟩ = some (.int .i64 e.1) ∧ w.cell? ⟨b, 1, none⟩ = some (.int .i64 e.2)

set_option maxHeartbeats 4000000 in
theorem cPut_any {w : World} {base P b1 b2 : Nat} {G : Gr} (H : Held w base P G) (hok : gOk G = true) (x : Int) (e : Rf) (n1 : NumAt w b1 x) (n2 : w.cell? ⟨b2, 0, none⟩ = some (.int .i64 e.1)) (n3 : w.cell? ⟨b2, 1, none⟩ = some (.int .i64 e.2)) :
    Calls Tryz.prog 36 #[.pointer (some ⟨P, 0, none⟩), .pointer (some ⟨b1, 0, none⟩), .pointer (some ⟨b2, 0, none⟩)] w fun r w' => r = .returned (.bool (putR G x e).2) ∧ Held w' base P (putR G x e).1 ∧ Below base w w' := by
  unfold NumAt at n1
  have hbb := held_base H
  have l1 := cell_lt n1
  have l2 := cell_lt n2
  have RT := rootInRange_any x
  have CP := canBePut_any e w
  rw [← refOk_any_objs G.objs e] at CP
  cases d1 : inR 0 5 x
  · rw [putR_no (by rw [d1]; rfl)]
    rw [d1] at RT
    have HH : Hid _ := H
    clear H CP
    go_enter Tryz.func36, Tryz.ntmps36
    go_wp2_with (go_at_call 37; refine (RT _).mono ?_; rintro e w3 ⟨rfl, hw3⟩; rw [hw3]; clear hw3 w3)
    go_ret
    exact ⟨rfl, HH.out, Below.refl _ _⟩
  cases d2 : (e.1 != 2 && refOk G.objs e)
  · rw [putR_no (by rw [d1, d2]; rfl)]
    rw [d1] at RT
    rw [d2] at CP
    obtain ⟨ek, en⟩ := e
    have HH : Hid (∀ W, Below w.heap.size w W → _) := fun W hW => held_below H hW
    clear H d2
    go_enter Tryz.func36, Tryz.ntmps36
    go_wp2_with (first | (go_at_call 37; refine (RT _).mono ?_; rintro e w3 ⟨rfl, hw3⟩; rw [hw3]; clear hw3 w3 RT) | (go_at_call 38; refine CP.mono ?_; rintro e w3 ⟨rfl, b3⟩; have HB3 : Hid _ := b3; clear b3 CP))
    go_ret
    exact ⟨rfl, HH.out _ HB3.out, HB3.out.mono hbb⟩
  rw [putR_yes (by rw [d1, d2]; rfl)]
  rw [d1] at RT
  rw [d2] at CP
  have i1 : 0 ≤ x ∧ x ≤ 5 := by simpa [inR] using d1
  obtain ⟨k1, rfl⟩ : ∃ k : Nat, x = (k : Int) := ⟨x.toNat, by omega⟩
  have h6 := (gOk_parts hok).1
  have hk1 : (k1 : Int) < 6 := by omega
  have HX : Hid (∀ W, Below w.heap.size w W → ∃ q c, W.cell? ⟨P, 1, none⟩ = some (.slice (some ⟨q, 0, none⟩) 6 c) ∧ (∃ u0 u1, W.cell? ⟨q, k1 * 2, none⟩ = some (.int .i64 u0) ∧ W.cell? ⟨q, k1 * 2 + 1, none⟩ = some (.int .i64 u1)) ∧ W.frozen? ⟨q, k1 * 2, none⟩ = false ∧ W.frozen? ⟨q, k1 * 2 + 1, none⟩ = false ∧ Held (put2 W q k1 e) base P { G with roots := G.roots.set k1 e } ∧ Below base W (put2 W q k1 e)) := fun W hW => by
    obtain ⟨o, r, m, ms, T, O, N, hb⟩ := held_below H hW
    obtain ⟨q, c, rfl⟩ := ownR_form O.2.2.1 (by omega)
    obtain ⟨y0, y1⟩ := ownR_cell O.2.2.1 (i := k1) (by omega)
    obtain ⟨_, z1, _⟩ := five_cells T
    rw [h6] at z1
    have := held_setRoot T O N hb k1 e
    exact ⟨q, c, z1, ⟨_, _, y0, y1⟩, row_frozen O.2.2.1 _, row_frozen O.2.2.1 _, this.1, this.2⟩
  simp only [Int.toNat_natCast]
  clear H h6 d1 d2 i1
  obtain ⟨ek, en⟩ := e
  go_enter Tryz.func36, Tryz.ntmps36
  go_wp2_with (first | (go_at_call 37; refine (RT _).mono ?_; rintro e w3 ⟨rfl, hw3⟩; rw [hw3]; clear hw3 w3 RT) | (go_at_call 38; refine CP.mono ?_; rintro e w3 ⟨rfl, b3⟩; have HB3 : Hid _ := b3; clear b3 CP; refine Hid.out ?_))
  obtain ⟨q, c, z1, ⟨u0, u1, y0, y1⟩, f0, f1, hh, bb⟩ := HX.out _ HB3.out
  have m1 := (HB3.out.cell (p := ⟨b1, 0, none⟩) l1).trans n1
  have m2 := (HB3.out.cell (p := ⟨b2, 0, none⟩) l2).trans n2
  have m3 := (HB3.out.cell (p := ⟨b2, 1, none⟩) l2).trans n3
  have HH : Hid _ := hh
  have HBB : Hid _ := (HB3.out.mono hbb).trans bb
  clear HX hh bb n1 n2 n3
  refine Go.Lib.hid ?_
  go_wp2_with fail
  go_region_law (fail)
  all_goals go_wp2
  all_goals go_ret
  all_goals exact ⟨rfl, HH.out, ⟨HBB.out.os, HBB.out.tape, HBB.out.output, HBB.out.size, HBB.out.block⟩⟩


set_option maxHeartbeats 8000000 in
theorem l6Put_any {w : World} {base P : Nat} {G : Gr} (H : Held w base P G) (hok : gOk G = true) (x : Int) (e : Rf) :
    Calls Tryz.prog 41 #[.pointer (some ⟨P, 0, none⟩), .int .i64 x, rv e] w fun r w' => r = .returned (.bool (putR G x e).2) ∧ Held w' base P (putR G x e).1 ∧ Below base w w' := by
  have RT := l6Root_any x
  have hbw := held_base H
  obtain ⟨ek, en⟩ := e
  have BX : Below w.heap.size w (w.alloc (rb (ek, en))) := (Below.refl _ w).alloc (Nat.le_refl _) _
  have sX : w.heap.size < (w.alloc (rb (ek, en))).heap.size := by simp
  have K : (w.alloc (rb (ek, en))).heap[w.heap.size]? = some (rb (ek, en)) := heap_alloc_new _ _
  have k0 : (w.alloc (rb (ek, en))).cell? ⟨w.heap.size, 0, none⟩ = some (.int .i64 ek) := by unfold World.cell?; rw [K]; rfl
  have k1 : (w.alloc (rb (ek, en))).cell? ⟨w.heap.size, 1, none⟩ = some (.int .i64 en) := by unfold World.cell?; rw [K]; rfl
  clear K
  cases d1 : inR 0 5 x
  · rw [putR_no (by rw [d1]; rfl)]
    rw [d1] at RT
    have HH : Hid _ := held_below H BX
    have HB : Hid _ := BX.mono hbw
    clear H BX d1
    go_enter Tryz.func41, Tryz.ntmps41
    go_wp2_with fail
    go_quiet ((go_at_call 64; exact (RT _).mono fun _ _ ⟨he, hm⟩ => ⟨he, _, hm⟩))
    all_goals go_wp2
    all_goals go_ret
    all_goals exact ⟨rfl, HH.out, bel_two HB.out⟩
  cases d2 : (ek == 2)
  case true =>
    rw [putR_no (by rw [d1]; simp at d2; subst d2; rfl)]
    rw [d1] at RT
    have HH : Hid _ := held_below H BX
    have HB : Hid _ := BX.mono hbw
    clear H BX d1
    go_enter Tryz.func41, Tryz.ntmps41
    go_wp2_with fail
    go_quiet ((go_at_call 64; exact (RT _).mono fun _ _ ⟨he, hm⟩ => ⟨he, _, hm⟩))
    all_goals go_wp2
    all_goals go_ret
    all_goals exact ⟨rfl, HH.out, bel_two HB.out⟩
  have d3 : (((ek, en) : Rf).1 != 2) = true := by simpa using d2
  have H' := H
  obtain ⟨o, r, m, ms, T, O, N, hb⟩ := H'
  obtain ⟨a1, n1, c1, a2, n2, c2, a3, n3, c3, e1, e2, e3⟩ := graphAt_slices (ownG_at O)
  subst e1 e2 e3
  have LR := l6Ref_any (w := (w.alloc (rb (ek, en))).drew) (graphAt_below (ownG_at O) BX.drew) (by have := own_len O; have := (gOk_len hok).1; omega) (ek, en)
  obtain ⟨z0, z1, z2, z3, z4, _⟩ := five_cells (five_below T BX)
  cases d4 : refOk G.objs (ek, en)
  · rw [putR_no (by rw [d4]; simp)]
    rw [d1] at RT
    rw [d4] at LR
    have HH : Hid (∀ W, Below w.heap.size w W → _) := fun W hW => held_below H hW
    have HBX : Hid _ := BX
    clear H BX d1 d3 d4 T O N
    go_enter Tryz.func41, Tryz.ntmps41
    go_wp2_with fail
    go_region_law (first
      | (go_simp; go_at_call 64; refine (RT _).mono ?_; rintro e w3 ⟨rfl, hw3⟩; rw [hw3]; clear hw3 w3)
      | (go_simp; go_at_call 49; refine LR.mono ?_; clear LR; rintro e w3 ⟨rfl, b3⟩; have HB3 : Hid _ := HBX.out.drew.trans (b3.mono HBX.out.size); clear b3))
    all_goals go_wp2
    all_goals go_ret
    all_goals exact ⟨rfl, HH.out _ HB3.out, HB3.out.mono hbw⟩
  rw [putR_yes (by rw [d1, d4, d3]; rfl)]
  rw [d1] at RT
  rw [d4] at LR
  have i1 : 0 ≤ x ∧ x ≤ 5 := by simpa [inR] using d1
  obtain ⟨k1', rfl⟩ : ∃ k : Nat, x = (k : Int) := ⟨x.toNat, by omega⟩
  have h6 := (gOk_parts hok).1
  have hk1 : (k1' : Int) < 6 := by omega
  have HX : Hid (∀ W, Below w.heap.size w W → ∃ q c, W.cell? ⟨P, 1, none⟩ = some (.slice (some ⟨q, 0, none⟩) 6 c) ∧ (∃ u0 u1, W.cell? ⟨q, k1' * 2, none⟩ = some (.int .i64 u0) ∧ W.cell? ⟨q, k1' * 2 + 1, none⟩ = some (.int .i64 u1)) ∧ W.frozen? ⟨q, k1' * 2, none⟩ = false ∧ W.frozen? ⟨q, k1' * 2 + 1, none⟩ = false ∧ Held (put2 W q k1' (ek, en)) base P { G with roots := G.roots.set k1' (ek, en) } ∧ Below base W (put2 W q k1' (ek, en))) := fun W hW => by
    obtain ⟨o, r, m, ms, T, O, N, hb⟩ := held_below H hW
    obtain ⟨q, c, rfl⟩ := ownR_form O.2.2.1 (by omega)
    obtain ⟨y0, y1⟩ := ownR_cell O.2.2.1 (i := k1') (by omega)
    obtain ⟨_, z1, _⟩ := five_cells T
    rw [h6] at z1
    have := held_setRoot T O N hb k1' (ek, en)
    exact ⟨q, c, z1, ⟨_, _, y0, y1⟩, row_frozen O.2.2.1 _, row_frozen O.2.2.1 _, this.1, this.2⟩
  simp only [Int.toNat_natCast]
  have HBX : Hid _ := BX
  clear H BX d1 d3 d4 T O N h6 i1 hb
  go_enter Tryz.func41, Tryz.ntmps41
  go_wp2_with fail
  go_region_law (first
    | (go_simp; go_at_call 64; refine (RT _).mono ?_; rintro e w3 ⟨rfl, hw3⟩; rw [hw3]; clear hw3 w3)
    | (go_simp; go_at_call 49; refine LR.mono ?_; clear LR; rintro e w3 ⟨rfl, b3⟩; have HB3 : Hid _ := HBX.out.drew.trans (b3.mono HBX.out.size); have HB4 : Hid _ := b3; clear b3))
  all_goals
    obtain ⟨q, c, z1, ⟨u0, u1, y0, y1⟩, f0, f1, hh, bb⟩ := HX.out _ HB3.out
    have m2 := (HB4.out.cell (p := ⟨w.heap.size, 0, none⟩) (by simp)).trans k0
    have m3 := (HB4.out.cell (p := ⟨w.heap.size, 1, none⟩) (by simp)).trans k1
    have HH : Hid _ := hh
    have HBB : Hid _ := (HB3.out.mono hbw).trans bb
    clear HX hh bb k0 k1
    go_wp2_with fail
    go_region_law (fail)
    all_goals go_wp2
    all_goals go_ret
    all_goals exact ⟨rfl, HH.out, bel_two HBB.out⟩
end Go.Proofs.YtcboojhabolcbaaGreatDoor.gr
