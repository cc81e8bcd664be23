/-
  Chapter 18 as the program has it: becomeInGraph, GSwapped, GReplaced.
  Made from the template BecI3 (mkbeci3.py).
-/
import Derived.Test.YthldaifnlnbpgaaBecI2
namespace Go.Proofs.Ythldaifnlnbpgaa.gr
open Go.RowKit rows heads Go.Maps
set_option maxRecDepth 100000
set_option linter.unusedVariables false

theorem egBec : ∀ args w, (callFunc 39 args).run Try.prog w = .ok (.enter 39 args) w := fun args w => by go_simp
theorem egSw : ∀ args w, (callFunc 22 args).run Try.prog w = .ok (.enter 22 args) w := fun args w => by go_simp
theorem egRe : ∀ args w, (callFunc 29 args).run Try.prog w = .ok (.enter 29 args) w := fun args w => by go_simp
set_option maxHeartbeats 8000000 in
theorem becomeInGraph_any {w : World} {o r m : Value} {ms : List MO} {G : Gr} (h : GraphAt w o r m ms G) (hs : gSize ms G ≤ 1048576) (a b : Int) (both : Bool) (F : Nat) (eg : ∀ args w, (callFunc F args).run Try.prog w = .ok (.enter F args) w) (HCM : Hid (∀ W X Y, wfR (2, X) → wfR (2, Y) → X ≠ Y → Calls Try.prog F #[rv (2, X), rv (2, Y)] W fun e w' => MapMade W w' e (bRef X Y both))) :
    Calls Try.prog 21 #[gv o r m G.next G.seed, .int .i64 a, .int .i64 b, .func (.func F) #[] #[]] w fun e w' => ∃ o' r' m' rs, e = .returned (.tuple #[gv o' r' m' (gTurned G a b both).1.next (gTurned G a b both).1.seed, .bool (gTurned G a b both).2]) ∧ OwnG w' w.heap.size o' r' m' rs (gTurned G a b both).1 ∧ Below w.heap.size w w' := by
  obtain ⟨a1, n1, c1, a2, n2, c2, a3, n3, c3, e1, e2, e3⟩ := graphAt_slices h
  subst e1 e2 e3
  generalize hn0 : w.heap.size = n0 at *
  obtain ⟨X, hX⟩ : ∃ X, X = (((((w.alloc (gb (.slice a1 n1 c1) (.slice a2 n2 c2) (.slice a3 n3 c3) G.next G.seed)).alloc (.cells #[.int .i64 a] 2)).alloc (.cells #[.int .i64 b] 2)).alloc (.cells #[.func (.func F) #[] #[]] 49)).alloc (gb (.slice none 0 0) (.slice none 0 0) (.slice none 0 0) 0 0)) := ⟨_, rfl⟩
  have sX : X.heap.size = n0 + 5 := by rw [hX]; simp; omega
  have B0 : Below n0 w X := by rw [hX]; exact ((((((Below.refl _ w).alloc (by first | omega | (simp; omega)) _).alloc (by first | omega | (simp; omega)) _).alloc (by first | omega | (simp; omega)) _).alloc (by first | omega | (simp; omega)) _).alloc (by first | omega | (simp; omega)) _)
  have K0 : X.heap[n0]? = some (gb (.slice a1 n1 c1) (.slice a2 n2 c2) (.slice a3 n3 c3) G.next G.seed) := by
    rw [hX, ← hn0]
    exact heap_push (heap_push (heap_push (heap_push (heap_alloc_new _ _))))
  have K1 : X.heap[n0 + 1]? = some (.cells #[.int .i64 a] 2) := by
    rw [hX, show n0 + 1 = (w.alloc (gb (.slice a1 n1 c1) (.slice a2 n2 c2) (.slice a3 n3 c3) G.next G.seed)).heap.size by simp; omega]
    exact heap_push (heap_push (heap_push (heap_alloc_new _ _)))
  have k1 : X.cell? ⟨n0 + 1, 0, none⟩ = some (.int .i64 a) := by simp [World.cell?, K1]
  have K2 : X.heap[n0 + 2]? = some (.cells #[.int .i64 b] 2) := by
    rw [hX, show n0 + 2 = ((w.alloc (gb (.slice a1 n1 c1) (.slice a2 n2 c2) (.slice a3 n3 c3) G.next G.seed)).alloc (.cells #[.int .i64 a] 2)).heap.size by simp; omega]
    exact heap_push (heap_push (heap_alloc_new _ _))
  have k2 : X.cell? ⟨n0 + 2, 0, none⟩ = some (.int .i64 b) := by simp [World.cell?, K2]
  have K3 : X.heap[n0 + 3]? = some (.cells #[.func (.func F) #[] #[]] 49) := by
    rw [hX, show n0 + 3 = (((w.alloc (gb (.slice a1 n1 c1) (.slice a2 n2 c2) (.slice a3 n3 c3) G.next G.seed)).alloc (.cells #[.int .i64 a] 2)).alloc (.cells #[.int .i64 b] 2)).heap.size by simp; omega]
    exact heap_push (heap_alloc_new _ _)
  have k3 : X.cell? ⟨n0 + 3, 0, none⟩ = some (.func (.func F) #[] #[]) := by simp [World.cell?, K3]
  have TR : Five X (n0 + 4) 30 (.slice none 0 0) (.slice none 0 0) (.slice none 0 0) (.int .i64 0) (.int .i64 0) := by
    rw [hX, show n0 + 4 = ((((w.alloc (gb (.slice a1 n1 c1) (.slice a2 n2 c2) (.slice a3 n3 c3) G.next G.seed)).alloc (.cells #[.int .i64 a] 2)).alloc (.cells #[.int .i64 b] 2)).alloc (.cells #[.func (.func F) #[] #[]] 49)).heap.size by simp; omega]
    exact heap_alloc_new _ _
  have hb : ∀ {W : World}, Below X.heap.size X W → ∀ (p : Addr), p.block < X.heap.size → W.cell? p = X.cell? p := fun h p hp => h.cell (p := p) hp
  have TG : Five X n0 30 (.slice a1 n1 c1) (.slice a2 n2 c2) (.slice a3 n3 c3) (.int .i64 G.next) (.int .i64 G.seed) := K0
  obtain ⟨t0, t1, t2, t3, t4, _⟩ := five_cells TG
  have ED := edited_any (graphAt_below h (by rw [hn0]; exact B0)) hs 39 #[.pointer (some ⟨n0 + 1, 0, none⟩), .pointer (some ⟨n0 + 2, 0, none⟩), .pointer (some ⟨n0 + 3, 0, none⟩)] egBec (R := (turned G a b both).1) (b := (turned G a b both).2) (fun ok base P W _ hW hH => cBecome_any hH ok a b both ((hb hW ⟨n0 + 1, 0, none⟩ (by show n0 + 1 < _; omega)).trans k1) ((hb hW ⟨n0 + 2, 0, none⟩ (by show n0 + 2 < _; omega)).trans k2) ((hb hW ⟨n0 + 3, 0, none⟩ (by show n0 + 3 < _; omega)).trans k3) eg HCM)
  have eR : (if gOk G = true then (turned G a b both).1 else gr0) = (gTurned G a b both).1 ∧ (gOk G && (turned G a b both).2) = (gTurned G a b both).2 := by
    unfold gTurned
    cases gOk G <;> simp
  rw [eR.1, eR.2] at ED
  clear eR
  obtain ⟨RG, hRG⟩ : ∃ RG, (gTurned G a b both).1 = RG := ⟨_, rfl⟩
  obtain ⟨RB, hRB⟩ : ∃ RB, (gTurned G a b both).2 = RB := ⟨_, rfl⟩
  rw [hRG, hRB] at ED
  rw [hRG, hRB]
  have HTR : Hid _ := TR
  have HB0 : Hid _ := B0
  have HX : Hid _ := hX
  have l1 : n0 + 5 ≤ X.heap.size := by omega
  clear hRG hRB TR TG K0 B0 hb h hs t0 t1 t2 t3 t4 k1 K1 k2 K2 k3 K3 HCM
  go_enter Try.func21, Try.ntmps21
  go_wp2_with fail
  rw [hX] at ED
  generalize (((((w.alloc (gb (.slice a1 n1 c1) (.slice a2 n2 c2) (.slice a3 n3 c3) G.next G.seed)).alloc (.cells #[.int .i64 a] 2)).alloc (.cells #[.int .i64 b] 2)).alloc (.cells #[.func (.func F) #[] #[]] 49)).alloc (gb (.slice none 0 0) (.slice none 0 0) (.slice none 0 0) 0 0)) = X2 at *
  subst hX
  refine ED.mono ?_
  rintro e w1 ⟨o', r', m', rs, rfl, O1, b1⟩
  obtain ⟨a1', n1', c1', a2', n2', c2', a3', n3', c3', e1, e2, e3⟩ := graphAt_slices (ownG_at O1)
  subst e1 e2 e3
  have TR1 := five_below HTR.out b1
  have B1 := HB0.out.trans (b1.mono (by omega))
  obtain ⟨v0, v1, v2, v3, v4, vf⟩ := five_cells TR1
  have g0 := vf 0
  have g1 := vf 1
  have g2 := vf 2
  have g3 := vf 3
  have g4 := vf 4
  have HOW : Hid _ := ownG_base (ownG_ch O1 (five_other (X := w1) (b := n0 + 4) (.slice a1' n1' c1') (.slice a2' n2' c2') (.slice a3' n3' c3') (.int .i64 RG.next) (.int .i64 RG.seed)) (fun x hx e => by have := (ownG_lt O1 x hx).1; rw [List.mem_singleton] at e; omega)) (show n0 ≤ X.heap.size by omega)
  have HTX : Hid _ := five_sets TR1 (.slice a1' n1' c1') (.slice a2' n2' c2') (.slice a3' n3' c3') (.int .i64 RG.next) (.int .i64 RG.seed)
  have HBX : Hid _ := five_belows B1 (show n0 ≤ n0 + 4 by omega) (.slice a1' n1' c1') (.slice a2' n2' c2') (.slice a3' n3' c3') (.int .i64 RG.next) (.int .i64 RG.seed)
  clear vf O1 B1 TR1 HTR HB0 b1 ED sX l1
  go_wp2
  exact bodyPost_ret (res_gr2 rfl rfl rfl HTX.out) rfl ⟨_, _, _, rs, rfl, HOW.out, HBX.out⟩
set_option maxHeartbeats 8000000 in
theorem implGSwapped {w : World} {o r m : Value} {ms : List MO} {G : Gr} (h : GraphAt w o r m ms G) (hs : gSize ms G ≤ 1048576) (a b : Int) :
    Calls Try.prog 8 #[gv o r m G.next G.seed, .int .i64 a, .int .i64 b] w fun e w' => ∃ o' r' m' rs, e = .returned (.tuple #[gv o' r' m' (gTurned G a b true).1.next (gTurned G a b true).1.seed, .bool (gTurned G a b true).2]) ∧ OwnG w' w.heap.size o' r' m' rs (gTurned G a b true).1 ∧ Below w.heap.size w w' := by
  obtain ⟨a1, n1, c1, a2, n2, c2, a3, n3, c3, e1, e2, e3⟩ := graphAt_slices h
  subst e1 e2 e3
  generalize hn0 : w.heap.size = n0 at *
  obtain ⟨X, hX⟩ : ∃ X, X = ((w.alloc (gb (.slice a1 n1 c1) (.slice a2 n2 c2) (.slice a3 n3 c3) G.next G.seed)).alloc (gb (.slice none 0 0) (.slice none 0 0) (.slice none 0 0) 0 0)) := ⟨_, rfl⟩
  have sX : X.heap.size = n0 + 2 := by rw [hX]; simp; omega
  have B0 : Below n0 w X := by rw [hX]; exact (((Below.refl _ w).alloc (by first | omega | (simp; omega)) _).alloc (by first | omega | (simp; omega)) _)
  have K0 : X.heap[n0]? = some (gb (.slice a1 n1 c1) (.slice a2 n2 c2) (.slice a3 n3 c3) G.next G.seed) := by
    rw [hX, ← hn0]
    exact heap_push (heap_alloc_new _ _)
  have TR : Five X (n0 + 1) 30 (.slice none 0 0) (.slice none 0 0) (.slice none 0 0) (.int .i64 0) (.int .i64 0) := by
    rw [hX, show n0 + 1 = (w.alloc (gb (.slice a1 n1 c1) (.slice a2 n2 c2) (.slice a3 n3 c3) G.next G.seed)).heap.size by simp; omega]
    exact heap_alloc_new _ _
  have hb : ∀ {W : World}, Below X.heap.size X W → ∀ (p : Addr), p.block < X.heap.size → W.cell? p = X.cell? p := fun h p hp => h.cell (p := p) hp
  have TG : Five X n0 30 (.slice a1 n1 c1) (.slice a2 n2 c2) (.slice a3 n3 c3) (.int .i64 G.next) (.int .i64 G.seed) := K0
  obtain ⟨t0, t1, t2, t3, t4, _⟩ := five_cells TG
  have ED := becomeInGraph_any (graphAt_below h (by rw [hn0]; exact B0)) hs a b true 22 egSw (fun W X Y h1 h2 h3 => cSwapMap_any h1 h2 h3)
  obtain ⟨RG, hRG⟩ : ∃ RG, (gTurned G a b true).1 = RG := ⟨_, rfl⟩
  obtain ⟨RB, hRB⟩ : ∃ RB, (gTurned G a b true).2 = RB := ⟨_, rfl⟩
  rw [hRG, hRB] at ED
  rw [hRG, hRB]
  have HTR : Hid _ := TR
  have HB0 : Hid _ := B0
  have HX : Hid _ := hX
  have l1 : n0 + 2 ≤ X.heap.size := by omega
  clear hRG hRB TR TG K0 B0 hb h hs t0 t1 t2 t3 t4  
  go_enter Try.func8, Try.ntmps8
  go_wp2_with fail
  rw [hX] at ED
  generalize ((w.alloc (gb (.slice a1 n1 c1) (.slice a2 n2 c2) (.slice a3 n3 c3) G.next G.seed)).alloc (gb (.slice none 0 0) (.slice none 0 0) (.slice none 0 0) 0 0)) = X2 at *
  subst hX
  refine ED.mono ?_
  rintro e w1 ⟨o', r', m', rs, rfl, O1, b1⟩
  obtain ⟨a1', n1', c1', a2', n2', c2', a3', n3', c3', e1, e2, e3⟩ := graphAt_slices (ownG_at O1)
  subst e1 e2 e3
  have TR1 := five_below HTR.out b1
  have B1 := HB0.out.trans (b1.mono (by omega))
  obtain ⟨v0, v1, v2, v3, v4, vf⟩ := five_cells TR1
  have g0 := vf 0
  have g1 := vf 1
  have g2 := vf 2
  have g3 := vf 3
  have g4 := vf 4
  have HOW : Hid _ := ownG_base (ownG_ch O1 (five_other (X := w1) (b := n0 + 1) (.slice a1' n1' c1') (.slice a2' n2' c2') (.slice a3' n3' c3') (.int .i64 RG.next) (.int .i64 RG.seed)) (fun x hx e => by have := (ownG_lt O1 x hx).1; rw [List.mem_singleton] at e; omega)) (show n0 ≤ X.heap.size by omega)
  have HTX : Hid _ := five_sets TR1 (.slice a1' n1' c1') (.slice a2' n2' c2') (.slice a3' n3' c3') (.int .i64 RG.next) (.int .i64 RG.seed)
  have HBX : Hid _ := five_belows B1 (show n0 ≤ n0 + 1 by omega) (.slice a1' n1' c1') (.slice a2' n2' c2') (.slice a3' n3' c3') (.int .i64 RG.next) (.int .i64 RG.seed)
  clear vf O1 B1 TR1 HTR HB0 b1 ED sX l1
  go_wp2
  exact bodyPost_ret (res_gr2 rfl rfl rfl HTX.out) rfl ⟨_, _, _, rs, rfl, HOW.out, HBX.out⟩
set_option maxHeartbeats 8000000 in
theorem implGReplaced {w : World} {o r m : Value} {ms : List MO} {G : Gr} (h : GraphAt w o r m ms G) (hs : gSize ms G ≤ 1048576) (a b : Int) :
    Calls Try.prog 13 #[gv o r m G.next G.seed, .int .i64 a, .int .i64 b] w fun e w' => ∃ o' r' m' rs, e = .returned (.tuple #[gv o' r' m' (gTurned G a b false).1.next (gTurned G a b false).1.seed, .bool (gTurned G a b false).2]) ∧ OwnG w' w.heap.size o' r' m' rs (gTurned G a b false).1 ∧ Below w.heap.size w w' := by
  obtain ⟨a1, n1, c1, a2, n2, c2, a3, n3, c3, e1, e2, e3⟩ := graphAt_slices h
  subst e1 e2 e3
  generalize hn0 : w.heap.size = n0 at *
  obtain ⟨X, hX⟩ : ∃ X, X = ((w.alloc (gb (.slice a1 n1 c1) (.slice a2 n2 c2) (.slice a3 n3 c3) G.next G.seed)).alloc (gb (.slice none 0 0) (.slice none 0 0) (.slice none 0 0) 0 0)) := ⟨_, rfl⟩
  have sX : X.heap.size = n0 + 2 := by rw [hX]; simp; omega
  have B0 : Below n0 w X := by rw [hX]; exact (((Below.refl _ w).alloc (by first | omega | (simp; omega)) _).alloc (by first | omega | (simp; omega)) _)
  have K0 : X.heap[n0]? = some (gb (.slice a1 n1 c1) (.slice a2 n2 c2) (.slice a3 n3 c3) G.next G.seed) := by
    rw [hX, ← hn0]
    exact heap_push (heap_alloc_new _ _)
  have TR : Five X (n0 + 1) 30 (.slice none 0 0) (.slice none 0 0) (.slice none 0 0) (.int .i64 0) (.int .i64 0) := by
    rw [hX, show n0 + 1 = (w.alloc (gb (.slice a1 n1 c1) (.slice a2 n2 c2) (.slice a3 n3 c3) G.next G.seed)).heap.size by simp; omega]
    exact heap_alloc_new _ _
  have hb : ∀ {W : World}, Below X.heap.size X W → ∀ (p : Addr), p.block < X.heap.size → W.cell? p = X.cell? p := fun h p hp => h.cell (p := p) hp
  have TG : Five X n0 30 (.slice a1 n1 c1) (.slice a2 n2 c2) (.slice a3 n3 c3) (.int .i64 G.next) (.int .i64 G.seed) := K0
  obtain ⟨t0, t1, t2, t3, t4, _⟩ := five_cells TG
  have ED := becomeInGraph_any (graphAt_below h (by rw [hn0]; exact B0)) hs a b false 29 egRe (fun W X Y h1 h2 _ => cReplMap_any h1 h2)
  obtain ⟨RG, hRG⟩ : ∃ RG, (gTurned G a b false).1 = RG := ⟨_, rfl⟩
  obtain ⟨RB, hRB⟩ : ∃ RB, (gTurned G a b false).2 = RB := ⟨_, rfl⟩
  rw [hRG, hRB] at ED
  rw [hRG, hRB]
  have HTR : Hid _ := TR
  have HB0 : Hid _ := B0
  have HX : Hid _ := hX
  have l1 : n0 + 2 ≤ X.heap.size := by omega
  clear hRG hRB TR TG K0 B0 hb h hs t0 t1 t2 t3 t4  
  go_enter Try.func13, Try.ntmps13
  go_wp2_with fail
  rw [hX] at ED
  generalize ((w.alloc (gb (.slice a1 n1 c1) (.slice a2 n2 c2) (.slice a3 n3 c3) G.next G.seed)).alloc (gb (.slice none 0 0) (.slice none 0 0) (.slice none 0 0) 0 0)) = X2 at *
  subst hX
  refine ED.mono ?_
  rintro e w1 ⟨o', r', m', rs, rfl, O1, b1⟩
  obtain ⟨a1', n1', c1', a2', n2', c2', a3', n3', c3', e1, e2, e3⟩ := graphAt_slices (ownG_at O1)
  subst e1 e2 e3
  have TR1 := five_below HTR.out b1
  have B1 := HB0.out.trans (b1.mono (by omega))
  obtain ⟨v0, v1, v2, v3, v4, vf⟩ := five_cells TR1
  have g0 := vf 0
  have g1 := vf 1
  have g2 := vf 2
  have g3 := vf 3
  have g4 := vf 4
  have HOW : Hid _ := ownG_base (ownG_ch O1 (five_other (X := w1) (b := n0 + 1) (.slice a1' n1' c1') (.slice a2' n2' c2') (.slice a3' n3' c3') (.int .i64 RG.next) (.int .i64 RG.seed)) (fun x hx e => by have := (ownG_lt O1 x hx).1; rw [List.mem_singleton] at e; omega)) (show n0 ≤ X.heap.size by omega)
  have HTX : Hid _ := five_sets TR1 (.slice a1' n1' c1') (.slice a2' n2' c2') (.slice a3' n3' c3') (.int .i64 RG.next) (.int .i64 RG.seed)
  have HBX : Hid _ := five_belows B1 (show n0 ≤ n0 + 1 by omega) (.slice a1' n1' c1') (.slice a2' n2' c2') (.slice a3' n3' c3') (.int .i64 RG.next) (.int .i64 RG.seed)
  clear vf O1 B1 TR1 HTR HB0 b1 ED sX l1
  go_wp2
  exact bodyPost_ret (res_gr2 rfl rfl rfl HTX.out) rfl ⟨_, _, _, rs, rfl, HOW.out, HBX.out⟩
end Go.Proofs.Ythldaifnlnbpgaa.gr
