/-
  Chapter 6: a slot fetched to a root, in the graph that a pointer leads to; by the specification and by the program.
  Made from the template GraphEd3.
-/
import Derived.Test.YtdogibjgogcdkabGraphEd3
import Derived.Deep.Cut
import Derived.Deep.CutRange
namespace Go.Proofs.Ytdogibjgogcdkab.gr
open Go.RowKit rows heads
set_option maxRecDepth 100000

set_option maxHeartbeats 8000000 in
theorem l6Fetch_any {w : World} {base P : Nat} {G : Gr} (H : Held w base P G) (hok : gOk G = true) (t f s : Int) :
    Calls Try.prog 113 #[.pointer (some ⟨P, 0, none⟩), .int .i64 t, .int .i64 f, .int .i64 s] w fun e w' => e = .returned (.bool (fetch G t f s).2) ∧ Held w' base P (fetch G t f s).1 ∧ Below base w w' := by
  have RT := l6Root_any t
  have RF := l6Root_any f
  have hbw := held_base H
  have es : slotIn G f s = (inR 0 5 f && (rootAt G f).1 == 2 && (decide (0 ≤ s) && decide (s < (G.objs.getD (plc G f) obD).slots.length))) := rfl
  cases d1 : inR 0 5 t
  · rw [fetch_no (by rw [d1]; rfl)]
    rw [d1] at RT
    have HH : Hid _ := H
    clear H RF es
    go_enter Try.func113, Try.ntmps113
    go_wp2_with (go_at_call 140; refine (RT _).mono ?_; rintro e w3 ⟨rfl, hw3⟩; rw [hw3]; clear hw3 w3)
    go_ret
    exact ⟨rfl, HH.out, Below.refl _ _⟩
  cases d2 : inR 0 5 f
  · rw [fetch_no (by rw [es, d2]; simp)]
    rw [d1] at RT
    rw [d2] at RF
    have HH : Hid _ := H
    clear H es
    go_enter Try.func113, Try.ntmps113
    go_wp2_with (first | (go_at_call 140; refine (RT _).mono ?_; rintro e w3 ⟨rfl, hw3⟩; rw [hw3]; clear hw3 w3 RT) | (go_at_call 140; refine (RF _).mono ?_; rintro e w3 ⟨rfl, hw3⟩; rw [hw3]; clear hw3 w3))
    go_ret
    exact ⟨rfl, HH.out, Below.refl _ _⟩
  rw [d1] at RT
  rw [d2] at RF
  have i1 : 0 ≤ t ∧ t ≤ 5 := by simpa [inR] using d1
  have i2 : 0 ≤ f ∧ f ≤ 5 := by simpa [inR] using d2
  obtain ⟨k2, rfl⟩ : ∃ k : Nat, t = (k : Int) := ⟨t.toNat, by omega⟩
  obtain ⟨k1, rfl⟩ : ∃ k : Nat, f = (k : Int) := ⟨f.toNat, by omega⟩
  have h6 := (gOk_parts hok).1
  have hk1 : (k1 : Int) < 6 := by omega
  have hk2 : (k2 : Int) < 6 := by omega
  cases d3 : ((rootAt G (k1 : Int)).1 == 2)
  · rw [fetch_no (by rw [es, d2, d3]; simp)]
    have HH : Hid _ := H
    obtain ⟨o, r, m, ms, T, O, N, hb⟩ := H
    obtain ⟨q, c, rfl⟩ := ownR_form O.2.2.1 (by omega)
    obtain ⟨x0, x1⟩ := ownR_cell O.2.2.1 (i := k1) (by omega)
    obtain ⟨_, z1, _⟩ := five_cells T
    rw [h6] at z1
    have d3' : (G.roots.getD k1 refD).1 ≠ 2 := by simpa using d3
    clear T O N hb h6 d1 d2 i1 i2 es d3
    generalize G.roots.getD k1 refD = e1 at *
    obtain ⟨e11, e12⟩ := e1
    have d4 : (e11 != 2) = true := by simpa using d3'
    clear d3'
    go_enter Try.func113, Try.ntmps113
    go_wp2_with (first | (go_at_call 140; refine (RT _).mono ?_; rintro e w3 ⟨rfl, hw3⟩; rw [hw3]; clear hw3 w3 RT) | (go_at_call 140; refine (RF _).mono ?_; rintro e w3 ⟨rfl, hw3⟩; rw [hw3]; clear hw3 w3))
    go_ret
    exact ⟨rfl, HH.out, Below.refl _ _⟩
  have hy : leads G (k1 : Int) = true := by unfold leads; rw [d2, d3]; rfl
  have hpl := (leads_plc hok hy).1
  have HP : Hid _ := (leads_plc hok hy).2
  rw [d2, d3] at es
  obtain ⟨q0, c0, a2, n2, c2, a3, n3, c3, sa, sc, ms, T, O, N, hb, hsv, x0, x1, x2, x3, x4⟩ := held_slot H hok hy
  have hlm := own_len O
  have hl2 := (gOk_len hok).1
  obtain ⟨q, c, er⟩ := ownR_form O.2.2.1 (by omega)
  rw [h6] at er
  rw [er] at T O N
  have er2 : rootAt G (k1 : Int) = G.roots.getD k1 refD := rfl
  have HL6 : Hid (∀ W, Below w.heap.size w W → Calls Try.prog 145 #[gv (.slice (some ⟨q0, 0, none⟩) G.objs.length c0) (.slice (some ⟨q, 0, none⟩) 6 c) (.slice a3 n3 c3) G.next G.seed, .int .i64 (G.roots.getD k1 refD).2] W fun e w' => e = .returned (.int .i64 (plc G (k1 : Int))) ∧ w' = W.alloc (gb (.slice (some ⟨q0, 0, none⟩) G.objs.length c0) (.slice (some ⟨q, 0, none⟩) 6 c) (.slice a3 n3 c3) G.next G.seed)) := fun W hW => by
    have := l6At_any (graphAt_below (ownG_at O) hW) (by omega) (rootAt G (k1 : Int)).2
    rw [hpl, er2] at this
    exact this
  have hplt : (plc G (k1 : Int) : Int) < G.objs.length := by have := HP.out; omega
  obtain ⟨r0, r1⟩ := ownR_cell O.2.2.1 (i := k1) (by omega)
  obtain ⟨z0, z1, z2, z3, z4, _⟩ := five_cells T
  have hk : (G.roots.getD k1 refD).1 = 2 := by simpa using d3
  have HT : Hid _ := T
  have HO : Hid _ := O
  have HN : Hid _ := N
  have HSV : Hid _ := hsv
  have HHe : Hid _ := H
  obtain ⟨gbv, hgbv⟩ : ∃ gbv, gbv = gb (.slice (some ⟨q0, 0, none⟩) G.objs.length c0) (.slice (some ⟨q, 0, none⟩) 6 c) (.slice a3 n3 c3) G.next G.seed := ⟨_, rfl⟩
  have BA1 : Below w.heap.size w (w.alloc (gb (.slice (some ⟨q0, 0, none⟩) G.objs.length c0) (.slice (some ⟨q, 0, none⟩) 6 c) (.slice a3 n3 c3) G.next G.seed)) := (Below.refl _ w).alloc (Nat.le_refl _) _
  have BB1 : Below w.heap.size w (w.alloc (ob moD)) := (Below.refl _ w).alloc (Nat.le_refl _) _
  have BA2 : Below w.heap.size w ((w.alloc (gb (.slice (some ⟨q0, 0, none⟩) G.objs.length c0) (.slice (some ⟨q, 0, none⟩) 6 c) (.slice a3 n3 c3) G.next G.seed)).alloc (ob moD)) := BA1.alloc BA1.size _
  have BB2 : Below w.heap.size w ((w.alloc (ob moD)).alloc (gb (.slice (some ⟨q0, 0, none⟩) G.objs.length c0) (.slice (some ⟨q, 0, none⟩) 6 c) (.slice a3 n3 c3) G.next G.seed)) := BB1.alloc BB1.size _
  clear hgbv gbv
  have o0a := (BA1.cell (p := ⟨q0, plc G (k1 : Int) * 5, none⟩) (cell_lt x0)).trans x0
  have o1a := (BA1.cell (p := ⟨q0, plc G (k1 : Int) * 5 + 1, none⟩) (cell_lt x1)).trans x1
  have o2a := (BA1.cell (p := ⟨q0, plc G (k1 : Int) * 5 + 2, none⟩) (cell_lt x2)).trans x2
  have o3a := (BA1.cell (p := ⟨q0, plc G (k1 : Int) * 5 + 3, none⟩) (cell_lt x3)).trans x3
  have o4a := (BA1.cell (p := ⟨q0, plc G (k1 : Int) * 5 + 4, none⟩) (cell_lt x4)).trans x4
  have p0a := (BA1.cell (p := ⟨P, 0, none⟩) (cell_lt z0)).trans z0
  have p1a := (BA1.cell (p := ⟨P, 1, none⟩) (cell_lt z1)).trans z1
  have p2a := (BA1.cell (p := ⟨P, 2, none⟩) (cell_lt z2)).trans z2
  have p3a := (BA1.cell (p := ⟨P, 3, none⟩) (cell_lt z3)).trans z3
  have p4a := (BA1.cell (p := ⟨P, 4, none⟩) (cell_lt z4)).trans z4
  have r0a := (BA1.cell (p := ⟨q, k1 * 2, none⟩) (cell_lt r0)).trans r0
  have r1a := (BA1.cell (p := ⟨q, k1 * 2 + 1, none⟩) (cell_lt r1)).trans r1
  have o0b := (BA2.cell (p := ⟨q0, plc G (k1 : Int) * 5, none⟩) (cell_lt x0)).trans x0
  have o1b := (BA2.cell (p := ⟨q0, plc G (k1 : Int) * 5 + 1, none⟩) (cell_lt x1)).trans x1
  have o2b := (BA2.cell (p := ⟨q0, plc G (k1 : Int) * 5 + 2, none⟩) (cell_lt x2)).trans x2
  have o3b := (BA2.cell (p := ⟨q0, plc G (k1 : Int) * 5 + 3, none⟩) (cell_lt x3)).trans x3
  have o4b := (BA2.cell (p := ⟨q0, plc G (k1 : Int) * 5 + 4, none⟩) (cell_lt x4)).trans x4
  have p0b := (BA2.cell (p := ⟨P, 0, none⟩) (cell_lt z0)).trans z0
  have p1b := (BA2.cell (p := ⟨P, 1, none⟩) (cell_lt z1)).trans z1
  have p2b := (BA2.cell (p := ⟨P, 2, none⟩) (cell_lt z2)).trans z2
  have p3b := (BA2.cell (p := ⟨P, 3, none⟩) (cell_lt z3)).trans z3
  have p4b := (BA2.cell (p := ⟨P, 4, none⟩) (cell_lt z4)).trans z4
  have r0b := (BA2.cell (p := ⟨q, k1 * 2, none⟩) (cell_lt r0)).trans r0
  have r1b := (BA2.cell (p := ⟨q, k1 * 2 + 1, none⟩) (cell_lt r1)).trans r1
  have o0c := (BB1.cell (p := ⟨q0, plc G (k1 : Int) * 5, none⟩) (cell_lt x0)).trans x0
  have o1c := (BB1.cell (p := ⟨q0, plc G (k1 : Int) * 5 + 1, none⟩) (cell_lt x1)).trans x1
  have o2c := (BB1.cell (p := ⟨q0, plc G (k1 : Int) * 5 + 2, none⟩) (cell_lt x2)).trans x2
  have o3c := (BB1.cell (p := ⟨q0, plc G (k1 : Int) * 5 + 3, none⟩) (cell_lt x3)).trans x3
  have o4c := (BB1.cell (p := ⟨q0, plc G (k1 : Int) * 5 + 4, none⟩) (cell_lt x4)).trans x4
  have p0c := (BB1.cell (p := ⟨P, 0, none⟩) (cell_lt z0)).trans z0
  have p1c := (BB1.cell (p := ⟨P, 1, none⟩) (cell_lt z1)).trans z1
  have p2c := (BB1.cell (p := ⟨P, 2, none⟩) (cell_lt z2)).trans z2
  have p3c := (BB1.cell (p := ⟨P, 3, none⟩) (cell_lt z3)).trans z3
  have p4c := (BB1.cell (p := ⟨P, 4, none⟩) (cell_lt z4)).trans z4
  have r0c := (BB1.cell (p := ⟨q, k1 * 2, none⟩) (cell_lt r0)).trans r0
  have r1c := (BB1.cell (p := ⟨q, k1 * 2 + 1, none⟩) (cell_lt r1)).trans r1
  have o0d := (BB2.cell (p := ⟨q0, plc G (k1 : Int) * 5, none⟩) (cell_lt x0)).trans x0
  have o1d := (BB2.cell (p := ⟨q0, plc G (k1 : Int) * 5 + 1, none⟩) (cell_lt x1)).trans x1
  have o2d := (BB2.cell (p := ⟨q0, plc G (k1 : Int) * 5 + 2, none⟩) (cell_lt x2)).trans x2
  have o3d := (BB2.cell (p := ⟨q0, plc G (k1 : Int) * 5 + 3, none⟩) (cell_lt x3)).trans x3
  have o4d := (BB2.cell (p := ⟨q0, plc G (k1 : Int) * 5 + 4, none⟩) (cell_lt x4)).trans x4
  have p0d := (BB2.cell (p := ⟨P, 0, none⟩) (cell_lt z0)).trans z0
  have p1d := (BB2.cell (p := ⟨P, 1, none⟩) (cell_lt z1)).trans z1
  have p2d := (BB2.cell (p := ⟨P, 2, none⟩) (cell_lt z2)).trans z2
  have p3d := (BB2.cell (p := ⟨P, 3, none⟩) (cell_lt z3)).trans z3
  have p4d := (BB2.cell (p := ⟨P, 4, none⟩) (cell_lt z4)).trans z4
  have r0d := (BB2.cell (p := ⟨q, k1 * 2, none⟩) (cell_lt r0)).trans r0
  have r1d := (BB2.cell (p := ⟨q, k1 * 2 + 1, none⟩) (cell_lt r1)).trans r1
  have ab := own_abs O (plc G (k1 : Int))
  have OS := O.2.1.2.1 _ (mem_getD (ms := ms) (i := plc G (k1 : Int)) (by have := HP.out; omega))
  rw [ab] at OS
  have HNO : Hid ((s < 0 ∨ ((G.objs.getD (plc G (k1 : Int)) obD).slots.length : Int) ≤ s) → fetch G (k2 : Int) (k1 : Int) s = (G, false)) := fun hn => fetch_no (by
    rw [es]
    simp only [Bool.true_and, Bool.and_eq_false_iff, decide_eq_false_iff_not]
    omega)
  have HYES : Hid (∀ j : Nat, s = (j : Int) → j < (G.objs.getD (plc G (k1 : Int)) obD).slots.length → ∃ (e : Rf) (q5 : Nat), fetch G (k2 : Int) (k1 : Int) s = ({ G with roots := G.roots.set k2 e }, true) ∧ sa = some ⟨q5, 0, none⟩ ∧ ∀ W, Below w.heap.size w W → W.cell? ⟨P, 1, none⟩ = some (.slice (some ⟨q, 0, none⟩) 6 c) ∧ (∃ u0 u1, W.cell? ⟨q, k2 * 2, none⟩ = some (.int .i64 u0) ∧ W.cell? ⟨q, k2 * 2 + 1, none⟩ = some (.int .i64 u1)) ∧ W.frozen? ⟨q, k2 * 2, none⟩ = false ∧ W.frozen? ⟨q, k2 * 2 + 1, none⟩ = false ∧ (W.cell? ⟨q5, j * 2, none⟩ = some (.int .i64 e.1) ∧ W.cell? ⟨q5, j * 2 + 1, none⟩ = some (.int .i64 e.2)) ∧ Held (put2 W q k2 e) base P { G with roots := G.roots.set k2 e } ∧ Below base W (put2 W q k2 e)) := fun j hj hlt => by
    obtain ⟨q5, c5, e5⟩ := ownR_form OS (by omega)
    have e5' := hsv.symm.trans e5
    injection e5' with e6 e7 e8
    have hf : fetch G (k2 : Int) (k1 : Int) s = ({ G with roots := G.roots.set k2 ((G.objs.getD (plc G (k1 : Int)) obD).slots.getD j refD) }, true) := by
      have d5 : slotIn G (k1 : Int) s = true := by rw [es, decide_eq_true (show 0 ≤ s by omega), decide_eq_true (show s < _ by omega)]; rfl
      rw [fetch_yes (by rw [d5, d1]; rfl), hj]
      simp only [Int.toNat_natCast]
    refine ⟨_, q5, hf, e6, fun W hW => ?_⟩
    have O3 := ownG_below O hW
    have T3 := five_below T hW
    obtain ⟨_, z1', _⟩ := five_cells T3
    have OS3 := ownR_below OS hW
    rw [e5] at OS3
    obtain ⟨u0, u1⟩ := ownR_cell O3.2.2.1 (i := k2) (by omega)
    have := held_setRoot T3 O3 N hb k2 ((G.objs.getD (plc G (k1 : Int)) obD).slots.getD j refD)
    exact ⟨z1', ⟨_, _, u0, u1⟩, row_frozen O3.2.2.1 _, row_frozen O3.2.2.1 _, ownR_cell OS3 (by omega), this.1, this.2⟩
  clear ab OS
  obtain ⟨RG, RB, hRG⟩ : ∃ RG RB, fetch G (k2 : Int) (k1 : Int) s = (RG, RB) := ⟨_, _, rfl⟩
  rw [hRG] at HNO HYES
  rw [hRG]
  clear hRG
  clear T O N hsv H BA1 BA2 BB1 BB2 d1 d2 d3 i1 i2 hpl h6
  clear HSV HT HO HN es er er2 HP hlm hl2 hy
  simp only [ob] at *
  generalize (G.objs.getD (plc G (k1 : Int)) obD).slots.length = sl at *
  generalize plc G (k1 : Int) = pl at *
  generalize G.roots.getD k1 refD = e1 at *
  obtain ⟨e11, e12⟩ := e1
  subst hk
  generalize (ms.getD pl moD).id = xi at *
  generalize (ms.getD pl moD).cls = xc at *
  generalize (ms.getD pl moD).fmt = xf at *
  generalize (ms.getD pl moD).hash = xh at *
  have HF1 : Hid (Five ((w.alloc (gb (.slice (some ⟨q0, 0, none⟩) G.objs.length c0) (.slice (some ⟨q, 0, none⟩) 6 c) (.slice a3 n3 c3) G.next G.seed)).alloc (.cells #[.int .i64 xi, .int .i64 xc, .int .i64 xf, .int .i64 xh, .slice sa sl sc] 72)) (w.heap.size + 1) 72 (.int .i64 xi) (.int .i64 xc) (.int .i64 xf) (.int .i64 xh) (.slice sa sl sc)) := by
    have := five_new (w.alloc (gb (.slice (some ⟨q0, 0, none⟩) G.objs.length c0) (.slice (some ⟨q, 0, none⟩) 6 c) (.slice a3 n3 c3) G.next G.seed)) 72 (.int .i64 xi) (.int .i64 xc) (.int .i64 xf) (.int .i64 xh) (.slice sa sl sc)
    rw [show (w.alloc (gb (.slice (some ⟨q0, 0, none⟩) G.objs.length c0) (.slice (some ⟨q, 0, none⟩) 6 c) (.slice a3 n3 c3) G.next G.seed)).heap.size = w.heap.size + 1 by simp] at this
    exact this
  have HBl1 : Hid (Below w.heap.size w ((w.alloc (gb (.slice (some ⟨q0, 0, none⟩) G.objs.length c0) (.slice (some ⟨q, 0, none⟩) 6 c) (.slice a3 n3 c3) G.next G.seed)).alloc (.cells #[.int .i64 xi, .int .i64 xc, .int .i64 xf, .int .i64 xh, .slice sa sl sc] 72)).drew) := (((Below.refl _ w).alloc (Nat.le_refl _) _).alloc (by simp) _).drew
  have HF2 : Hid (Five ((w.alloc (.cells #[.int .i64 xi, .int .i64 xc, .int .i64 xf, .int .i64 xh, .slice sa sl sc] 72)).alloc (gb (.slice (some ⟨q0, 0, none⟩) G.objs.length c0) (.slice (some ⟨q, 0, none⟩) 6 c) (.slice a3 n3 c3) G.next G.seed)) w.heap.size 72 (.int .i64 xi) (.int .i64 xc) (.int .i64 xf) (.int .i64 xh) (.slice sa sl sc)) := five_below (five_new w 72 (.int .i64 xi) (.int .i64 xc) (.int .i64 xf) (.int .i64 xh) (.slice sa sl sc)) ((Below.refl _ _).alloc (Nat.le_refl _) _)
  have HBl2 : Hid (Below w.heap.size w ((w.alloc (.cells #[.int .i64 xi, .int .i64 xc, .int .i64 xf, .int .i64 xh, .slice sa sl sc] 72)).alloc (gb (.slice (some ⟨q0, 0, none⟩) G.objs.length c0) (.slice (some ⟨q, 0, none⟩) 6 c) (.slice a3 n3 c3) G.next G.seed)).drew) := (((Below.refl _ w).alloc (Nat.le_refl _) _).alloc (by simp) _).drew
  go_enter Try.func113, Try.ntmps113
  go_wp2_with (first | (go_at_call 140; refine (RT _).mono ?_; rintro e w3 ⟨rfl, hw3⟩; rw [hw3]; clear hw3 w3 RT) | (go_at_call 140; refine (RF _).mono ?_; rintro e w3 ⟨rfl, hw3⟩; rw [hw3]; clear hw3 w3))
  go_cut [9] from 29 to 46 (fun v wr => ∃ bk : Nat, v = .pointer (some ⟨bk, 0, none⟩) ∧ Hid (Five wr bk 72 (.int .i64 xi) (.int .i64 xc) (.int .i64 xf) (.int .i64 xh) (.slice sa sl sc)) ∧ Hid (Below w.heap.size w wr))
  case first =>
    go_region_law (go_simp; go_at_call 145; refine (HL6.out _ (by first | exact (Below.refl _ _).drew | exact ((Below.refl _ _).alloc (Nat.le_refl _) _).drew | exact ((Below.refl _ _).drew.alloc (Nat.le_refl _) _))).mono ?_; rintro e w3 ⟨rfl, hw3⟩; rw [hw3]; clear hw3 w3)
    all_goals go_wp2
    all_goals go_meet
    all_goals case rel => first | exact ⟨_, rfl, HF1, HBl1⟩ | exact ⟨_, rfl, HF2, HBl2⟩
  obtain ⟨bk, rfl, HF, HBc⟩ := hcut
  have y4 := (five_cells HF.out).2.2.2.2.1
  have HHc : Hid _ := held_below HHe.out HBc.out
  have HBb : Hid _ := HBc.out.mono hbw
  clear o0a o1a o2a o3a o4a p0a p1a p2a p3a p4a r0a r1a o0b o1b o2b o3b o4b p0b p1b p2b p3b p4b r0b r1b o0c o1c o2c o3c o4c p0c p1c p2c p3c p4c r0c r1c o0d o1d o2d o3d o4d p0d p1d p2d p3d p4d r0d r1d HF1 HBl1 HF2 HBl2 HL6 HF HHe x0 x1 x2 x3 x4 z0 z1 z2 z3 z4 r0 r1
  by_cases s0 : s < 0
  · obtain ⟨e1, e2⟩ := Prod.mk.inj (HNO.out (.inl s0))
    subst e1 e2
    clear HNO HYES
    go_wp2
    go_ret
    exact ⟨rfl, HHc.out, HBb.out⟩
  obtain ⟨j, rfl⟩ : ∃ j : Nat, s = (j : Int) := ⟨s.toNat, by omega⟩
  by_cases s1 : (j : Int) ≥ (sl : Int)
  · obtain ⟨e1, e2⟩ := Prod.mk.inj (HNO.out (.inr s1))
    subst e1 e2
    clear HNO HYES
    go_wp2
    go_ret
    exact ⟨rfl, HHc.out, HBb.out⟩
  obtain ⟨⟨v1, v2⟩, q5, ef, rfl, HW⟩ := HYES.out j rfl (by omega)
  obtain ⟨e1, e2⟩ := Prod.mk.inj ef
  subst e1 e2
  obtain ⟨z1, ⟨u0, u1, y0, y1⟩, f0, f1, ⟨v0', v1'⟩, hh, bb⟩ := HW wc HBc.out
  have HH : Hid _ := hh
  have HBB : Hid _ := HBb.out.trans bb
  have s2 : (j : Int) < (sl : Int) := by omega
  clear HNO HYES HW ef hh bb HBc HHc HBb
  go_wp2_with fail
  go_region_law (fail)
  all_goals go_wp2
  all_goals go_ret
  all_goals exact ⟨rfl, HH.out, bel_two HBB.out⟩
end Go.Proofs.Ytdogibjgogcdkab.gr
