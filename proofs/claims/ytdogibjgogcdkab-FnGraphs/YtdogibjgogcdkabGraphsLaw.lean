/-
  The walk of the law FnGraphs.
  Made from the template GraphsLaw (mkgraphs.py).
-/
import Derived.Test.YtdogibjgogcdkabM1
import Derived.Test.YtdogibjgogcdkabGraphIAt
import Derived.Test.YtdogibjgogcdkabGraphsR
import Derived.Deep.Cut
import Derived.Deep.CutRange
import Derived.Deep.Quiet
import Derived.BigQuiet
namespace Go.Proofs.Ytdogibjgogcdkab.gr
open Go.RowKit rows heads
set_option maxRecDepth 100000
set_option linter.unusedVariables false

/-- A graph in its box. -/
def Ax (V : World) (P : Nat) (o r m : Value) (ms : List MO) (G : Gr) : Prop := (V.cell? ⟨P, 0, none⟩ = some o ∧ V.cell? ⟨P, 1, none⟩ = some r ∧ V.cell? ⟨P, 2, none⟩ = some m ∧ V.cell? ⟨P, 3, none⟩ = some (.int .i64 G.next) ∧ V.cell? ⟨P, 4, none⟩ = some (.int .i64 G.seed)) ∧ GraphAt V o r m ms G
theorem keep_to {Φ : World → Prop} {W W' : World} (h : ∀ V, Below W.heap.size W V → Φ V) (q : Below W.heap.size W W') : ∀ V, Below W'.heap.size W' V → Φ V := fun V hV => h V (q.trans (hV.mono q.size))
theorem keep_box {Φ : World → Prop} {W : World} (h : ∀ V, Below W.heap.size W V → Φ V) {o r m : Value} {ms : List MO} {G : Gr} (A : GraphAt W o r m ms G) : ∀ V, Below (W.alloc (gb o r m G.next G.seed)).heap.size (W.alloc (gb o r m G.next G.seed)) V → Φ V ∧ Ax V W.heap.size o r m ms G := fun V hV => by
  have B : Below W.heap.size W (W.alloc (gb o r m G.next G.seed)) := (Below.refl _ _).alloc (Nat.le_refl _) _
  have q := B.trans (hV.mono B.size)
  obtain ⟨z0, z1, z2, z3, z4, _⟩ := five_cells (five_below (five_new W 55 o r m (.int .i64 G.next) (.int .i64 G.seed)) hV)
  exact ⟨h V q, ⟨z0, z1, z2, z3, z4⟩, graphAt_below A q⟩

theorem likeGraph_eq {w : World} {o r m o' r' m' : Value} {ms ns : List MO} {G G' : Gr} (e : G = G') (h : GraphAt w o r m ms G) (h' : GraphAt w o' r' m' ns G') (hs : gSize ms G ≤ 1048576) :
    Calls Try.prog 38 #[gv o r m G.next G.seed, gv o' r' m' G'.next G'.seed] w fun e w' => e = .returned (.bool true) ∧ Below w.heap.size w w' := by
  subst e
  exact likeGraph_same h h' hs
/-- What the laws ask of an answer to a right graph. -/
def Tri (G : Gr) (R : Gr × Bool) : Prop := gOk G = false ∨ (gOk G = true ∧ gOk R.1 = true ∧ R.2 = true) ∨ (gOk G = true ∧ gOk R.1 = true ∧ R.2 = false ∧ R.1 = G)
theorem tri_of {G : Gr} {C : Gr × Bool} (hk : gOk G = true → Right C.1) (hf : C.2 = false → C.1 = G) : Tri G (if gOk G = true then C else (gr0, false)) := by
  cases h : gOk G
  · exact .inl h
  · rw [if_pos rfl]
    cases hc : C.2
    · exact .inr (.inr ⟨h, (hk h).gOk, hc, hf hc⟩)
    · exact .inr (.inl ⟨h, (hk h).gOk, hc⟩)
theorem tri_ok {G : Gr} {R : Gr × Bool} (h : Tri G R) (e : gOk G = true) : gOk R.1 = true := by
  rcases h with h | ⟨_, h, _⟩ | ⟨_, h, _⟩
  · rw [h] at e; cases e
  · exact h
  · exact h
theorem tri_eq {G : Gr} {R : Gr × Bool} (h : Tri G R) (e : gOk G = true) (e' : R.2 = false) : R.1 = G := by
  rcases h with h | ⟨_, _, h⟩ | ⟨_, _, _, h⟩
  · rw [h] at e; cases e
  · rw [h] at e'; cases e'
  · exact h
theorem tri_made (G : Gr) (x c f s : Int) : Tri G (gMade G x c f s) := tri_of (fun h => right_made (right_of h) x c f s) (fun h => by rcases made_cases G x c f s with e | ⟨_, _, _, _, e⟩ <;> rw [e] at h ⊢; cases h)
theorem tri_stored (G : Gr) (t s f : Int) : Tri G (gStored G t s f) := tri_of (fun h => right_store (right_of h) t s f) (fun h => by unfold store at h ⊢; split at h; cases h; rename_i hc; rw [if_neg hc])
theorem tri_fetched (G : Gr) (t f s : Int) : Tri G (gFetched G t f s) := tri_of (fun h => right_fetch (right_of h) t f s) (fun h => by unfold fetch at h ⊢; split at h; cases h; rename_i hc; rw [if_neg hc])

set_option maxHeartbeats 32000000 in
theorem graphsLaw (a0 : Option Addr) (len0 cap0 : Nat) (w : World)
    (DM : len0 ≤ 4096 → ∀ W, Below w.heap.size w W → Calls Try.prog 31 #[.slice a0 len0 cap0] W fun e w' => ∃ (o r m : Value) (ms : List MO) (G : Gr) (x0 x1 x2 x3 : Int), e = .returned (.tuple #[gv o r m G.next G.seed, .int .i64 x0, .int .i64 x1, .int .i64 x2, .int .i64 x3]) ∧ GraphAt w' o r m ms G ∧ gSize ms G ≤ 1048576 ∧ Below W.heap.size W w')
    (DS' : len0 ≤ 4096 → ∀ W, Below w.heap.size w W → Calls Try.prog 33 #[.slice a0 len0 cap0] W fun e w' => ∃ (o r m : Value) (ms : List MO) (G : Gr) (x0 x1 x2 : Int), e = .returned (.tuple #[gv o r m G.next G.seed, .int .i64 x0, .int .i64 x1, .int .i64 x2]) ∧ GraphAt w' o r m ms G ∧ gSize ms G ≤ 1048576 ∧ Below W.heap.size W w')
    (DF : len0 ≤ 4096 → ∀ W, Below w.heap.size w W → Calls Try.prog 35 #[.slice a0 len0 cap0] W fun e w' => ∃ (o r m : Value) (ms : List MO) (G : Gr) (x0 x1 x2 : Int), e = .returned (.tuple #[gv o r m G.next G.seed, .int .i64 x0, .int .i64 x1, .int .i64 x2]) ∧ GraphAt w' o r m ms G ∧ gSize ms G ≤ 1048576 ∧ Below W.heap.size W w') :
    Calls Try.prog 6 #[.slice a0 len0 cap0] w fun e w' => e = .returned (.bool true) ∧ Below w.heap.size w w' := by
  have hl : 4096 < len0 ∨ len0 ≤ 4096 := by omega
  rcases hl with hl | hl
  · have hl' : (4096 : Int) < (len0 : Int) := by omega
    clear DM DS' DF
    go_enter Try.func6, Try.ntmps6
    go_wp2
    go_ret
    exact ⟨rfl, Below.refl _ _⟩
  have hl' : ¬ (4096 : Int) < (len0 : Int) := by omega
  have DM := DM hl
  have DS' := DS' hl
  have DF := DF hl
  have HK : Hid (∀ V, Below w.heap.size w V → Below w.heap.size w V) := fun V h => h
  go_enter Try.func6, Try.ntmps6
  go_wp2_with (go_at_call 8; go_in)
  refine (DM w (HK.out w (Below.refl _ _))).mono ?_
  rintro e w1 ⟨o1, r1, m1, ms1, G1, x0, x1, x2, x3, rfl, A1, Z1, q⟩
  clear DM
  obtain ⟨s11, s12, s13, s14, s15, s16, s17, s18, s19, e1, e2, e3⟩ := graphAt_slices A1
  subst e1 e2 e3
  have HK' : Hid _ := keep_box (keep_to HK.out q) A1
  clear HK
  have HK : Hid _ := HK'.out
  clear HK' q A1
  obtain ⟨⟨c10, c11, c12, c13, c14⟩, GA1⟩ := (HK.out (w1.alloc (gb (.slice s11 s12 s13) (.slice s14 s15 s16) (.slice s17 s18 s19) G1.next G1.seed)) (Below.refl _ _)).2
  have C := implGMade GA1 Z1 x0 x1 x2 x3
  go_wp2_with fail
  generalize hX : (w1.alloc (gb (.slice s11 s12 s13) (.slice s14 s15 s16) (.slice s17 s18 s19) G1.next G1.seed)) = X1 at *
  generalize w1.heap.size = P1 at *
  clear hX
  refine C.mono ?_
  rintro e w2 ⟨o2, r2, m2, ms2, rfl, O2, q⟩
  have Z2 := hR_GMade G1 x0 x1 x2 x3 ⟨ms1, GA1.1, Z1⟩ ms2 O2.1
  have A2 := ownG_at O2
  clear C O2 GA1
  clear c10 c11 c12 c13 c14
  obtain ⟨R2, hR2⟩ : ∃ R, gMade G1 x0 x1 x2 x3 = R := ⟨_, rfl⟩
  rw [hR2] at A2 Z2
  have HR2 : Hid _ := hR2
  simp only [hR2]
  clear hR2
  obtain ⟨s21, s22, s23, s24, s25, s26, s27, s28, s29, e1, e2, e3⟩ := graphAt_slices A2
  subst e1 e2 e3
  have HK' : Hid _ := keep_box (keep_to HK.out q) A2
  clear HK
  have HK : Hid _ := HK'.out
  clear HK' q A2
  go_wp2_with fail
  generalize hX : (w2.alloc (gb (.slice s21 s22 s23) (.slice s24 s25 s26) (.slice s27 s28 s29) R2.1.next R2.1.seed)) = X2 at *
  generalize w2.heap.size = P2 at *
  clear hX
  refine (DS' X2 (HK.out X2 (Below.refl _ _)).1.1).mono ?_
  rintro e w3 ⟨o3, r3, m3, ms3, G3, t3, k3, f3, rfl, A3, Z3, q⟩
  clear DS'
  obtain ⟨s31, s32, s33, s34, s35, s36, s37, s38, s39, e1, e2, e3⟩ := graphAt_slices A3
  subst e1 e2 e3
  have HK' : Hid _ := keep_box (keep_to HK.out q) A3
  clear HK
  have HK : Hid _ := HK'.out
  clear HK' q A3
  obtain ⟨⟨c30, c31, c32, c33, c34⟩, GA3⟩ := (HK.out (w3.alloc (gb (.slice s31 s32 s33) (.slice s34 s35 s36) (.slice s37 s38 s39) G3.next G3.seed)) (Below.refl _ _)).2
  have C := implGStored GA3 Z3 t3 k3 f3
  go_wp2_with fail
  generalize hX : (w3.alloc (gb (.slice s31 s32 s33) (.slice s34 s35 s36) (.slice s37 s38 s39) G3.next G3.seed)) = X3 at *
  generalize w3.heap.size = P3 at *
  clear hX
  refine C.mono ?_
  rintro e w4 ⟨o4, r4, m4, ms4, rfl, O4, q⟩
  have Z4 := hR_GStored G3 t3 k3 f3 ⟨ms3, GA3.1, Z3⟩ ms4 O4.1
  have A4 := ownG_at O4
  clear C O4 GA3
  clear c30 c31 c32 c33 c34
  obtain ⟨R4, hR4⟩ : ∃ R, gStored G3 t3 k3 f3 = R := ⟨_, rfl⟩
  rw [hR4] at A4 Z4
  have HR4 : Hid _ := hR4
  simp only [hR4]
  clear hR4
  obtain ⟨s41, s42, s43, s44, s45, s46, s47, s48, s49, e1, e2, e3⟩ := graphAt_slices A4
  subst e1 e2 e3
  have HK' : Hid _ := keep_box (keep_to HK.out q) A4
  clear HK
  have HK : Hid _ := HK'.out
  clear HK' q A4
  go_wp2_with fail
  generalize hX : (w4.alloc (gb (.slice s41 s42 s43) (.slice s44 s45 s46) (.slice s47 s48 s49) R4.1.next R4.1.seed)) = X4 at *
  generalize w4.heap.size = P4 at *
  clear hX
  refine (DF X4 (HK.out X4 (Below.refl _ _)).1.1.1.1).mono ?_
  rintro e w5 ⟨o5, r5, m5, ms5, G5, t5, f5, k5, rfl, A5, Z5, q⟩
  clear DF
  obtain ⟨s51, s52, s53, s54, s55, s56, s57, s58, s59, e1, e2, e3⟩ := graphAt_slices A5
  subst e1 e2 e3
  have HK' : Hid _ := keep_box (keep_to HK.out q) A5
  clear HK
  have HK : Hid _ := HK'.out
  clear HK' q A5
  obtain ⟨⟨c50, c51, c52, c53, c54⟩, GA5⟩ := (HK.out (w5.alloc (gb (.slice s51 s52 s53) (.slice s54 s55 s56) (.slice s57 s58 s59) G5.next G5.seed)) (Below.refl _ _)).2
  have C := implGFetched GA5 Z5 t5 f5 k5
  go_wp2_with fail
  generalize hX : (w5.alloc (gb (.slice s51 s52 s53) (.slice s54 s55 s56) (.slice s57 s58 s59) G5.next G5.seed)) = X5 at *
  generalize w5.heap.size = P5 at *
  clear hX
  refine C.mono ?_
  rintro e w6 ⟨o6, r6, m6, ms6, rfl, O6, q⟩
  have Z6 := hR_GFetched G5 t5 f5 k5 ⟨ms5, GA5.1, Z5⟩ ms6 O6.1
  have A6 := ownG_at O6
  clear C O6 GA5
  clear c50 c51 c52 c53 c54
  obtain ⟨R6, hR6⟩ : ∃ R, gFetched G5 t5 f5 k5 = R := ⟨_, rfl⟩
  rw [hR6] at A6 Z6
  have HR6 : Hid _ := hR6
  simp only [hR6]
  clear hR6
  obtain ⟨s61, s62, s63, s64, s65, s66, s67, s68, s69, e1, e2, e3⟩ := graphAt_slices A6
  subst e1 e2 e3
  have HK' : Hid _ := keep_box (keep_to HK.out q) A6
  clear HK
  have HK : Hid _ := HK'.out
  clear HK' q A6
  obtain ⟨⟨c10, c11, c12, c13, c14⟩, GA1⟩ := (HK.out (w6.alloc (gb (.slice s61 s62 s63) (.slice s64 s65 s66) (.slice s67 s68 s69) R6.1.next R6.1.seed)) (Below.refl _ _)).1.1.1.1.1.2
  have C := sGMade_any GA1 Z1 x0 x1 x2 x3
  rw [HR2.out] at C
  go_wp2_with fail
  generalize hX : (w6.alloc (gb (.slice s61 s62 s63) (.slice s64 s65 s66) (.slice s67 s68 s69) R6.1.next R6.1.seed)) = X6 at *
  generalize w6.heap.size = P6 at *
  clear hX
  refine C.mono ?_
  rintro e w7 ⟨o7, r7, m7, ms7, rfl, O7, q⟩
  have A7 := ownG_at O7
  clear C O7 GA1
  clear c10 c11 c12 c13 c14
  obtain ⟨s71, s72, s73, s74, s75, s76, s77, s78, s79, e1, e2, e3⟩ := graphAt_slices A7
  subst e1 e2 e3
  have HK' : Hid _ := keep_box (keep_to HK.out q) A7
  clear HK
  have HK : Hid _ := HK'.out
  clear HK' q A7
  have bb2 : (R2.2 != R2.2) = false := by simp
  have bo1 : (gOk G1 != gOk G1) = false := by simp
  obtain ⟨⟨c20, c21, c22, c23, c24⟩, GA2⟩ := (HK.out (w7.alloc (gb (.slice s71 s72 s73) (.slice s74 s75 s76) (.slice s77 s78 s79) R2.1.next R2.1.seed)) (Below.refl _ _)).1.1.1.1.1.2
  obtain ⟨⟨c70, c71, c72, c73, c74⟩, GA7⟩ := (HK.out (w7.alloc (gb (.slice s71 s72 s73) (.slice s74 s75 s76) (.slice s77 s78 s79) R2.1.next R2.1.seed)) (Below.refl _ _)).2
  obtain ⟨⟨c10, c11, c12, c13, c14⟩, GA1⟩ := (HK.out (w7.alloc (gb (.slice s71 s72 s73) (.slice s74 s75 s76) (.slice s77 s78 s79) R2.1.next R2.1.seed)) (Below.refl _ _)).1.1.1.1.1.1.2
  have CL := likeGraph_same (w := (w7.alloc (gb (.slice s71 s72 s73) (.slice s74 s75 s76) (.slice s77 s78 s79) R2.1.next R2.1.seed)).drew) (graphAt_below GA2 (Below.refl _ _).drew) (graphAt_below GA7 (Below.refl _ _).drew) Z2
  go_wp2_with fail
  generalize hX : (w7.alloc (gb (.slice s71 s72 s73) (.slice s74 s75 s76) (.slice s77 s78 s79) R2.1.next R2.1.seed)) = X7 at *
  generalize w7.heap.size = P7 at *
  clear hX
  have HO1 : Hid (∀ V, Below X7.heap.size X7 V → (V.cell? ⟨P1, 0, none⟩ = some (.slice s11 s12 s13) ∧ V.cell? ⟨P1, 1, none⟩ = some (.slice s14 s15 s16) ∧ V.cell? ⟨P1, 2, none⟩ = some (.slice s17 s18 s19) ∧ V.cell? ⟨P1, 3, none⟩ = some (.int .i64 G1.next) ∧ V.cell? ⟨P1, 4, none⟩ = some (.int .i64 G1.seed)) ∧ GraphAt V (.slice s11 s12 s13) (.slice s14 s15 s16) (.slice s17 s18 s19) ms1 G1) := fun V hV => (HK.out V hV).1.1.1.1.1.1.2
  have HDR : Hid (Below X7.heap.size X7 X7.drew) := (Below.refl _ _).drew
  clear GA2 GA7 GA1
  go_cut [103] from 88 to 103 (fun v wr => v = .bool false ∧ Hid (Below X7.heap.size X7 wr))
  case first =>
    go_region_law (first
      | (go_simp; go_at_call 38; refine CL.mono ?_; clear CL; rintro e v1 ⟨rfl, q1⟩; have D1 := HDR.out.trans (q1.mono HDR.out.size); obtain ⟨⟨d0, d1, d2, d3, d4⟩, GAx⟩ := HO1.out v1 D1; have CO := implGraphOk GAx Z1; have HD1 : Hid _ := D1; clear q1 D1 GAx)
      | (go_simp; go_at_call 39; refine CO.mono ?_; clear CO; rintro e v2 ⟨rfl, q2⟩; have D2 := HD1.out.trans (q2.mono HD1.out.size); obtain ⟨⟨d0', d1', d2', d3', d4'⟩, GAy⟩ := HO1.out v2 D2; have CS := sGraphOk_any GAy Z1; have HD2 : Hid _ := D2; clear q2 D2 GAy)
      | (go_simp; go_at_call 40; refine CS.mono ?_; clear CS; rintro e v3 ⟨rfl, q3⟩; have HD3 : Hid _ := HD2.out.trans (q3.mono HD2.out.size); clear q3))
    all_goals go_wp2
    all_goals go_meet
    all_goals exact ⟨rfl, HD3⟩
  obtain ⟨rfl, HBc⟩ := hcut
  obtain ⟨Y7, hY7⟩ : ∃ Y7, Y7 = wc := ⟨_, rfl⟩
  subst hY7
  have HK' : Hid _ := keep_to HK.out HBc.out
  clear HK HBc HO1 HDR CL bo1 bb2
  clear c20 c21 c22 c23 c24 c70 c71 c72 c73 c74 c10 c11 c12 c13 c14
  have HK : Hid _ := HK'.out
  clear HK'
  obtain ⟨⟨c30, c31, c32, c33, c34⟩, GA3⟩ := (HK.out Y7 (Below.refl _ _)).1.1.1.1.2
  have C := sGStored_any GA3 Z3 t3 k3 f3
  rw [HR4.out] at C
  go_wp2_with fail
  refine C.mono ?_
  rintro e w8 ⟨o8, r8, m8, ms8, rfl, O8, q⟩
  have A8 := ownG_at O8
  clear C O8 GA3
  clear c30 c31 c32 c33 c34
  obtain ⟨s81, s82, s83, s84, s85, s86, s87, s88, s89, e1, e2, e3⟩ := graphAt_slices A8
  subst e1 e2 e3
  have HK' : Hid _ := keep_box (keep_to HK.out q) A8
  clear HK
  have HK : Hid _ := HK'.out
  clear HK' q A8
  have bb4 : (R4.2 != R4.2) = false := by simp
  obtain ⟨⟨c40, c41, c42, c43, c44⟩, GA4⟩ := (HK.out (w8.alloc (gb (.slice s81 s82 s83) (.slice s84 s85 s86) (.slice s87 s88 s89) R4.1.next R4.1.seed)) (Below.refl _ _)).1.1.1.1.2
  obtain ⟨⟨c80, c81, c82, c83, c84⟩, GA8⟩ := (HK.out (w8.alloc (gb (.slice s81 s82 s83) (.slice s84 s85 s86) (.slice s87 s88 s89) R4.1.next R4.1.seed)) (Below.refl _ _)).2
  have CL := likeGraph_same GA4 GA8 Z4
  go_wp2_with fail
  generalize hX : (w8.alloc (gb (.slice s81 s82 s83) (.slice s84 s85 s86) (.slice s87 s88 s89) R4.1.next R4.1.seed)) = X8 at *
  generalize w8.heap.size = P8 at *
  clear hX
  refine CL.mono ?_
  rintro e y8 ⟨rfl, q⟩
  have HK' : Hid _ := keep_to HK.out q
  clear HK q CL GA4 GA8
  clear c40 c41 c42 c43 c44 c80 c81 c82 c83 c84
  have HK : Hid _ := HK'.out
  clear HK'
  obtain ⟨⟨c50, c51, c52, c53, c54⟩, GA5⟩ := (HK.out y8 (Below.refl _ _)).1.1.1.2
  have C := sGFetched_any GA5 Z5 t5 f5 k5
  rw [HR6.out] at C
  go_wp2_with fail
  refine C.mono ?_
  rintro e w9 ⟨o9, r9, m9, ms9, rfl, O9, q⟩
  have A9 := ownG_at O9
  clear C O9 GA5
  clear c50 c51 c52 c53 c54
  obtain ⟨s91, s92, s93, s94, s95, s96, s97, s98, s99, e1, e2, e3⟩ := graphAt_slices A9
  subst e1 e2 e3
  have HK' : Hid _ := keep_box (keep_to HK.out q) A9
  clear HK
  have HK : Hid _ := HK'.out
  clear HK' q A9
  have bb6 : (R6.2 != R6.2) = false := by simp
  obtain ⟨⟨c60, c61, c62, c63, c64⟩, GA6⟩ := (HK.out (w9.alloc (gb (.slice s91 s92 s93) (.slice s94 s95 s96) (.slice s97 s98 s99) R6.1.next R6.1.seed)) (Below.refl _ _)).1.1.1.2
  obtain ⟨⟨c90, c91, c92, c93, c94⟩, GA9⟩ := (HK.out (w9.alloc (gb (.slice s91 s92 s93) (.slice s94 s95 s96) (.slice s97 s98 s99) R6.1.next R6.1.seed)) (Below.refl _ _)).2
  have CL := likeGraph_same GA6 GA9 Z6
  go_wp2_with fail
  generalize hX : (w9.alloc (gb (.slice s91 s92 s93) (.slice s94 s95 s96) (.slice s97 s98 s99) R6.1.next R6.1.seed)) = X9 at *
  generalize w9.heap.size = P9 at *
  clear hX
  refine CL.mono ?_
  rintro e y9 ⟨rfl, q⟩
  have HK' : Hid _ := keep_to HK.out q
  clear HK q CL GA6 GA9
  clear c60 c61 c62 c63 c64 c90 c91 c92 c93 c94
  have HK : Hid _ := HK'.out
  clear HK'
  have T1 : Tri G1 R2 := by rw [← HR2.out]; exact tri_made G1 x0 x1 x2 x3
  have T3 : Tri G3 R4 := by rw [← HR4.out]; exact tri_stored G3 t3 k3 f3
  have T5 : Tri G5 R6 := by rw [← HR6.out]; exact tri_fetched G5 t5 f5 k5
  have HO1 : Hid (∀ V, Below y9.heap.size y9 V → Ax V P1 (.slice s11 s12 s13) (.slice s14 s15 s16) (.slice s17 s18 s19) ms1 G1) := fun V hV => (HK.out V hV).1.1.1.1.1.1.1.1.2
  have HO2 : Hid (∀ V, Below y9.heap.size y9 V → Ax V P2 (.slice s21 s22 s23) (.slice s24 s25 s26) (.slice s27 s28 s29) ms2 R2.1) := fun V hV => (HK.out V hV).1.1.1.1.1.1.1.2
  have HO3 : Hid (∀ V, Below y9.heap.size y9 V → Ax V P3 (.slice s31 s32 s33) (.slice s34 s35 s36) (.slice s37 s38 s39) ms3 G3) := fun V hV => (HK.out V hV).1.1.1.1.1.1.2
  have HO4 : Hid (∀ V, Below y9.heap.size y9 V → Ax V P4 (.slice s41 s42 s43) (.slice s44 s45 s46) (.slice s47 s48 s49) ms4 R4.1) := fun V hV => (HK.out V hV).1.1.1.1.1.2
  have HO5 : Hid (∀ V, Below y9.heap.size y9 V → Ax V P5 (.slice s51 s52 s53) (.slice s54 s55 s56) (.slice s57 s58 s59) ms5 G5) := fun V hV => (HK.out V hV).1.1.1.1.2
  have HO6 : Hid (∀ V, Below y9.heap.size y9 V → Ax V P6 (.slice s61 s62 s63) (.slice s64 s65 s66) (.slice s67 s68 s69) ms6 R6.1) := fun V hV => (HK.out V hV).1.1.1.2
  go_upto_region 18 with (fail)
  go_cut [192] from 138 to 191 (fun v wr => v = .bool false ∧ Hid (Below y9.heap.size y9 wr))
  case first =>
    rename_i J K' HJ HKK
    refine regG18 (A1 := gOk G1) (S1 := R2.2) (A2 := gOk G3) (S2 := R4.2) (A3 := gOk G5) (S3 := R6.2) (Vg1 := gv (.slice s11 s12 s13) (.slice s14 s15 s16) (.slice s17 s18 s19) (G1).next (G1).seed) (Vx1 := gv (.slice s21 s22 s23) (.slice s24 s25 s26) (.slice s27 s28 s29) (R2.1).next (R2.1).seed) (Vg2 := gv (.slice s31 s32 s33) (.slice s34 s35 s36) (.slice s37 s38 s39) (G3).next (G3).seed) (Vx2 := gv (.slice s41 s42 s43) (.slice s44 s45 s46) (.slice s47 s48 s49) (R4.1).next (R4.1).seed) (Vg3 := gv (.slice s51 s52 s53) (.slice s54 s55 s56) (.slice s57 s58 s59) (G5).next (G5).seed) (Vx3 := gv (.slice s61 s62 s63) (.slice s64 s65 s66) (.slice s67 s68 s69) (R6.1).next (R6.1).seed) (P1 := P1) (P2 := P2) (P3 := P3) (P4 := P4) (P5 := P5) (P6 := P6) rfl ⟨_, rfl, rfl, rfl, rfl⟩ ⟨_, rfl, rfl, rfl, rfl⟩ ⟨_, rfl, rfl, rfl, rfl⟩ ⟨_, rfl, rfl, rfl, rfl⟩ ⟨_, rfl, rfl, rfl, rfl⟩ ⟨_, rfl, rfl, rfl, rfl⟩ ⟨_, rfl, rfl, rfl, rfl⟩ ⟨_, rfl, rfl, rfl, rfl⟩ ⟨_, rfl, rfl, rfl, rfl⟩ ⟨_, rfl, rfl, rfl, rfl⟩ ⟨_, rfl, rfl, rfl, rfl⟩ ⟨_, rfl, rfl, rfl, rfl⟩ ⟨_, rfl, rfl, rfl, rfl⟩ ⟨_, rfl, rfl, rfl, rfl⟩ ⟨_, rfl, rfl, rfl, rfl⟩ ⟨_, rfl, rfl, rfl, rfl⟩ ⟨_, rfl, rfl, rfl, rfl⟩ ⟨_, rfl, rfl, rfl, rfl⟩ ⟨_, rfl, rfl, rfl, rfl⟩ ⟨_, rfl, rfl, rfl, rfl⟩ ⟨_, rfl, rfl, rfl, rfl⟩ ⟨_, rfl, rfl, rfl, rfl⟩ ⟨_, rfl, rfl, rfl, rfl⟩ ⟨_, rfl, rfl, rfl, rfl⟩ ⟨_, rfl, rfl, rfl, rfl⟩ ⟨_, rfl, rfl, rfl, rfl⟩ ⟨_, rfl, rfl, rfl, rfl⟩ ⟨_, rfl, rfl, rfl, rfl⟩ ⟨_, rfl, rfl, rfl, rfl⟩ ⟨_, rfl, rfl, rfl, rfl⟩ ⟨_, rfl, rfl, rfl, rfl⟩ ⟨_, rfl, rfl, rfl, rfl⟩ ⟨_, rfl, rfl, rfl, rfl⟩ ⟨_, rfl, rfl, rfl, rfl⟩ ⟨_, rfl, rfl, rfl, rfl⟩ ⟨_, rfl, rfl, rfl, rfl⟩ ⟨_, rfl, rfl, rfl, rfl⟩ ⟨_, rfl, rfl, rfl, rfl⟩ ⟨_, rfl, rfl, rfl, rfl⟩ ⟨_, rfl, rfl, rfl, rfl⟩ ⟨_, rfl, rfl, rfl, rfl⟩ ⟨_, rfl, rfl, rfl, rfl⟩ ⟨_, rfl, rfl, rfl, rfl⟩ ⟨_, rfl, rfl, rfl, rfl⟩ ⟨_, rfl, rfl, rfl, rfl⟩ ⟨_, rfl, rfl, rfl, rfl⟩ ⟨_, rfl, rfl, rfl, rfl⟩ ⟨_, rfl, rfl, rfl, rfl⟩ ⟨_, rfl, rfl, rfl, rfl⟩ ⟨_, rfl, rfl, rfl, rfl⟩ ⟨_, rfl, rfl, rfl, rfl⟩ ⟨_, rfl, rfl, rfl, rfl⟩ ⟨_, rfl, rfl, rfl, rfl⟩ ⟨_, rfl, rfl, rfl, rfl⟩ ⟨_, rfl, rfl, rfl, rfl⟩ (by simp) rfl rfl rfl rfl rfl rfl rfl rfl rfl (fun W hW => rg_ldc (HO1.out W hW).1) (fun W hW => rg_ldc (HO2.out W hW).1) (fun W hW => rg_ldc (HO3.out W hW).1) (fun W hW => rg_ldc (HO4.out W hW).1) (fun W hW => rg_ldc (HO5.out W hW).1) (fun W hW => rg_ldc (HO6.out W hW).1) (fun W hW => sGraphOk_any (HO1.out W hW).2 Z1) (fun e W hW => tri_ok T1 e ▸ implGraphOk (HO2.out W hW).2 Z2) (fun e e' W hW => likeGraph_eq (tri_eq T1 e e') (HO2.out W hW).2 (HO1.out W hW).2 Z2) (fun W hW => sGraphOk_any (HO3.out W hW).2 Z3) (fun e W hW => tri_ok T3 e ▸ implGraphOk (HO4.out W hW).2 Z4) (fun e e' W hW => likeGraph_eq (tri_eq T3 e e') (HO4.out W hW).2 (HO3.out W hW).2 Z4) (fun W hW => sGraphOk_any (HO5.out W hW).2 Z5) (fun e W hW => tri_ok T5 e ▸ implGraphOk (HO6.out W hW).2 Z6) (fun e e' W hW => likeGraph_eq (tri_eq T5 e e') (HO6.out W hW).2 (HO5.out W hW).2 Z6) ?_
    intro u w' hu hb
    exact HKK _ _ (Met.intro (HJ _ _ ⟨u 138, u 139, u 140, u 141, u 142, u 143, u 144, u 145, u 146, u 147, u 148, u 149, u 150, u 151, u 152, u 153, u 154, u 155, u 156, u 157, u 158, u 159, u 160, u 161, u 162, u 163, u 164, u 165, u 166, u 167, u 168, u 169, u 170, u 171, u 172, u 173, u 174, u 175, u 176, u 177, u 178, u 179, u 180, u 181, u 182, u 183, u 184, u 185, u 186, u 187, u 188, u 189, u 190, u 191, u 192, ⟨hu, hb⟩, rfl⟩))
  obtain ⟨rfl, HBc⟩ := hcut
  obtain ⟨Y, hY⟩ : ∃ Y, Y = wc := ⟨_, rfl⟩
  subst hY
  have HK' : Hid _ := keep_to HK.out HBc.out
  clear HK HBc HO1 HO2 HO3 HO4 HO5 HO6 T1 T3 T5
  have HK : Hid _ := HK'.out
  clear HK'
  go_upto_if 193 with (fail)
  go_cut [15, 25] from 30 to 214 (fun v v' wr => v = .bool R4.2 ∧ v' = .bool R4.2 ∧ Hid (Below Y.heap.size Y wr))
  case first =>
    cases b4 : R4.2
    · go_wp2
      go_meet
      exact ⟨by rw [b4], by rw [b4], (Below.refl _ _ : Below Y.heap.size Y Y)⟩
    have ok3 : gOk G3 = true := by
      cases h : gOk G3
      · have := HR4.out; unfold gStored at this; rw [h] at this; rw [← this] at b4; cases b4
      · rfl
    have eS : store G3 t3 k3 f3 = R4 := by have := HR4.out; unfold gStored at this; rw [if_pos ok3] at this; exact this
    have eF : gFetched R4.1 f3 t3 k3 = (R4.1, true) := by
      have hr := right_store (right_of ok3) t3 k3 f3
      have hf := fetch_store (right_of ok3) (t := t3) (s := k3) (f := f3) (by rw [eS]; exact b4)
      rw [eS] at hr hf
      unfold gFetched
      rw [if_pos hr.gOk]
      exact hf
    obtain ⟨⟨c40, c41, c42, c43, c44⟩, GA4⟩ := (HK.out Y (Below.refl _ _)).1.1.1.1.1.2
    have C := implGFetched GA4 Z4 f3 t3 k3
    rw [eF] at C
    simp only at C
    go_wp2_with fail
    refine C.mono ?_
    rintro e w10 ⟨o10, r10, m10, ms10, rfl, O10, q⟩
    have A10 := ownG_at O10
    have Z10 := gSize_of O10.1 GA4.1 Z4
    have HQ : Hid _ := q
    clear C O10 GA4
    clear c40 c41 c42 c43 c44
    obtain ⟨s101, s102, s103, s104, s105, s106, s107, s108, s109, e1, e2, e3⟩ := graphAt_slices A10
    subst e1 e2 e3
    have HK' : Hid _ := keep_box (keep_to HK.out q) A10
    clear HK
    have HK : Hid _ := HK'.out
    clear HK' q A10
    have HB10 : Hid (Below Y.heap.size Y (w10.alloc (gb (.slice s101 s102 s103) (.slice s104 s105 s106) (.slice s107 s108 s109) R4.1.next R4.1.seed))) := HQ.out.trans (((Below.refl _ _).alloc (Nat.le_refl _) _).mono HQ.out.size)
    by_cases ht : t3 = f3
    · have ht' : (t3 != f3) = false := by simp [ht]
      clear ht
      go_wp2
      go_meet
      exact ⟨by rw [b4], by rw [b4], HB10⟩
    have ht' : (t3 != f3) = true := by simpa using ht
    clear ht
    obtain ⟨⟨c100, c101, c102, c103, c104⟩, GA10⟩ := (HK.out (w10.alloc (gb (.slice s101 s102 s103) (.slice s104 s105 s106) (.slice s107 s108 s109) R4.1.next R4.1.seed)) (Below.refl _ _)).2
    obtain ⟨⟨c40, c41, c42, c43, c44⟩, GA4⟩ := (HK.out (w10.alloc (gb (.slice s101 s102 s103) (.slice s104 s105 s106) (.slice s107 s108 s109) R4.1.next R4.1.seed)) (Below.refl _ _)).1.1.1.1.1.1.2
    have CL := likeGraph_same GA10 GA4 Z10
    go_wp2_with fail
    refine CL.mono ?_
    rintro e v ⟨rfl, q⟩
    have HBv : Hid _ := HB10.out.trans (q.mono HB10.out.size)
    clear CL q GA10 GA4
    clear c100 c101 c102 c103 c104 c40 c41 c42 c43 c44
    go_wp2
    go_meet
    exact ⟨by rw [b4], by rw [b4], HBv⟩
  obtain ⟨rfl, rfl, hcu⟩ := hcut
  obtain ⟨U, hU⟩ : ∃ U, U = wc := ⟨_, rfl⟩
  subst hU
  have HK' : Hid _ := keep_to HK.out hcu.out
  clear HK hcu
  have HK : Hid _ := HK'.out
  clear HK'
  have HBU : Hid _ := (HK.out U (Below.refl _ _)).1.1.1.1.1.1.1.1.1
  cases b2 : R2.2
  · go_wp2_with fail
    go_quiet (fail)
    go_wp2
    go_ret
    exact ⟨rfl, below_drewN HBU.out _⟩
  have ok1 : gOk G1 = true := by
    cases h : gOk G1
    · have := HR2.out; unfold gMade at this; rw [h] at this; rw [← this] at b2; cases b2
    · rfl
  have eM : made G1 x0 x1 x2 x3 = R2 := by have := HR2.out; unfold gMade at this; rw [if_pos ok1] at this; exact this
  obtain ⟨hl2, h6, _, hN1, hN2, hS1, hS2⟩ := gOk_len ok1
  have gh : gHash R2.1 x0 = drawn G1.seed := by have := hash_made (right_of ok1) (x := x0) (c := x1) (f := x2) (s := x3) (by rw [eM]; exact b2); rw [eM] at this; exact this
  obtain ⟨hx, eL, eR⟩ : inR 0 5 x0 = true ∧ R2.1.objs.length = G1.objs.length + 1 ∧ R2.1.roots = G1.roots.set x0.toNat (2, G1.next) := by
    rcases made_cases G1 x0 x1 x2 x3 with e | ⟨hx, _, _, _, e⟩
    · rw [← eM, e] at b2; cases b2
    · rw [← eM, e]; exact ⟨hx, by simp, rfl⟩
  have hx' : 0 ≤ x0 ∧ x0 ≤ 5 := by simpa [inR] using hx
  obtain ⟨k0, rfl⟩ : ∃ k : Nat, x0 = (k : Int) := ⟨x0.toNat, by omega⟩
  obtain ⟨⟨c20, c21, c22, c23, c24⟩, GA2⟩ := (HK.out U (Below.refl _ _)).1.1.1.1.1.1.1.2
  obtain ⟨⟨c10, c11, c12, c13, c14⟩, GA1⟩ := (HK.out U (Below.refl _ _)).1.1.1.1.1.1.1.1.2
  have l2 : s22 = R2.1.objs.length := by obtain ⟨a', c', e, _⟩ := GA2.2.1.1; injection e with _ e _; rw [e]; exact graphAt_len GA2
  have l1 : s12 = G1.objs.length := by obtain ⟨a', c', e, _⟩ := GA1.2.1.1; injection e with _ e _; rw [e]; exact graphAt_len GA1
  obtain rfl : s22 = s12 + 1 := by omega
  obtain ⟨ra, rc, re, _, _, _, rh⟩ := GA2.2.2.1
  have rl : R2.1.roots.length = 6 := by rw [eR]; simpa using h6
  rw [rl] at re rh
  injection re with re1 re2 re3
  subst re1 re2 re3
  obtain ⟨rb', ro, rfl, rlt, rcell⟩ := rh (by decide)
  have hrt := (rcell k0 (by omega)).2
  rw [eR, getD_set_refs, if_pos ⟨by simp, by omega⟩] at hrt
  have HO1 : Hid (∀ V, Below U.heap.size U V → Ax V P1 (.slice s11 s12 s13) (.slice s14 s15 s16) (.slice s17 s18 s19) ms1 G1) := fun V hV => (HK.out V hV).1.1.1.1.1.1.1.1.2
  have HO2 : Hid (∀ V, Below U.heap.size U V → Ax V P2 (.slice s21 (s12 + 1) s23) (.slice (some ⟨rb', ro, none⟩) 6 s26) (.slice s27 s28 s29) ms2 R2.1) := fun V hV => (HK.out V hV).1.1.1.1.1.1.1.2
  have DR := drawI_any G1.seed hS1 hS2
  have dd : (drawn G1.seed == drawn G1.seed) = true := by simp
  have nn : (G1.next == G1.next) = true := by simp
  have ll : (((s12 + 1 : Nat) : Int) == (s12 : Int) + 1) = true := by simp
  have hs12 : (s12 : Int) ≤ 200 := by omega
  have wr1 : IntKind.i64.wrap ((s12 : Int) + 1) = (s12 : Int) + 1 := by rw [IntKind.wrap_i64]; omega
  have hk0 : (k0 : Int) < 6 := by omega
  have HDR : Hid (Below U.heap.size U U.drew) := (Below.refl _ _).drew
  have HCG : Hid (∀ x : Ext U.heap.size U, Calls Try.prog 43 #[gv (.slice s21 (s12 + 1) s23) (.slice (some ⟨rb', ro, none⟩) 6 s26) (.slice s27 s28 s29) R2.1.next R2.1.seed, .int .i64 (k0 : Int)] x.to fun e w' => e = .returned (.int .i64 (drawn G1.seed)) ∧ Below x.to.heap.size x.to w') := fun x => (by rw [← gh]; exact implGHash (HO2.out x.to x.below).2 Z2 (k0 : Int))
  have e10 : ∀ x : Ext U.heap.size U, x.to.cell? ⟨P1, 0, none⟩ = some (.slice s11 s12 s13) := fun x => (HO1.out x.to x.below).1.1
  have e13 : ∀ x : Ext U.heap.size U, x.to.cell? ⟨P1, 3, none⟩ = some (.int .i64 G1.next) := fun x => (HO1.out x.to x.below).1.2.2.2.1
  have e14 : ∀ x : Ext U.heap.size U, x.to.cell? ⟨P1, 4, none⟩ = some (.int .i64 G1.seed) := fun x => (HO1.out x.to x.below).1.2.2.2.2
  have e20 : ∀ x : Ext U.heap.size U, x.to.cell? ⟨P2, 0, none⟩ = some (.slice s21 (s12 + 1) s23) := fun x => (HO2.out x.to x.below).1.1
  have e21 : ∀ x : Ext U.heap.size U, x.to.cell? ⟨P2, 1, none⟩ = some (.slice (some ⟨rb', ro, none⟩) 6 s26) := fun x => (HO2.out x.to x.below).1.2.1
  have e22 : ∀ x : Ext U.heap.size U, x.to.cell? ⟨P2, 2, none⟩ = some (.slice s27 s28 s29) := fun x => (HO2.out x.to x.below).1.2.2.1
  have e23 : ∀ x : Ext U.heap.size U, x.to.cell? ⟨P2, 3, none⟩ = some (.int .i64 R2.1.next) := fun x => (HO2.out x.to x.below).1.2.2.2.1
  have e24 : ∀ x : Ext U.heap.size U, x.to.cell? ⟨P2, 4, none⟩ = some (.int .i64 R2.1.seed) := fun x => (HO2.out x.to x.below).1.2.2.2.2
  have ert : ∀ x : Ext U.heap.size U, x.to.cell? ⟨rb', ro + k0 * 2 + 1, none⟩ = some (.int .i64 G1.next) := fun x => (x.below.cell (p := ⟨rb', ro + k0 * 2 + 1, none⟩) rlt).trans hrt
  generalize drawn G1.seed = dg at *
  clear c20 c21 c22 c23 c24 c10 c11 c12 c13 c14
  clear GA1 GA2 l1 l2 eL eR eM ok1 h6 hl2 hx hx' gh rcell rh rl HK HO1 HO2 hrt HDR
  go_wp2_with fail
  haveI : Nonempty (Ext U.heap.size U) := ⟨⟨U, Below.refl _ _⟩⟩
  refine region_grow (n := U.heap.size) (by kernel_rfl) (by kernel_rfl) ?_
  repeat (go_big_quiet_step ((first | (go_at_call 43; exact calls_grow (Nat.le_refl _) (HCG.out _)) | (go_at_call 28; exact calls_grow (Nat.le_refl _) ((DR _).mono fun _ _ ⟨he, hw⟩ => ⟨he, hw ▸ Below.refl _ _⟩)))))
  refine wpQuiet_nil ?_
  intro _ hw'
  obtain ⟨x, rfl⟩ := hw'
  have HFB : Hid (Below w.heap.size w x.to) := HBU.out.trans (x.below.mono HBU.out.size)
  clear e10 e13 e14 e20 e21 e22 e23 e24 ert HCG DR
  generalize x.to = YY at *
  go_wp2
  go_ret
  exact ⟨rfl, HFB.out⟩
end Go.Proofs.Ytdogibjgogcdkab.gr
