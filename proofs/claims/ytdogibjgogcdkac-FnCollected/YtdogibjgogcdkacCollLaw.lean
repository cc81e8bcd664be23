/-
  The walk of the law FnCollected.
  Made from the template CollLaw.
-/
import Derived.Test.YtdogibjgogcdkacCollR
import Derived.Test.YtdogibjgogcdkacM15
import Derived.Test.YtdogibjgogcdkacM17
import Derived.Test.YtdogibjgogcdkacM16
import Derived.Test.YtdogibjgogcdkacM18
import Derived.Test.YtdogibjgogcdkacM3
import Derived.Deep.RegionLaw
import Derived.Deep.Cut
import Derived.Deep.CutRange
namespace Go.Proofs.Ytdogibjgogcdkac.gr
open Go.RowKit rows heads region
set_option maxRecDepth 100000
set_option linter.unusedVariables false
set_option linter.unusedSimpArgs false

/-- A graph in its box, with nothing changed that was there. -/
structure LG (w wz : World) (P : Nat) (o r m : Value) (ms : List MO) (G : Gr) : Prop where
  gat : GraphAt wz o r m ms G
  five : Five wz P 27 o r m (.int .i64 G.next) (.int .i64 G.seed)
  bel : Below w.heap.size w wz
theorem LG.below {w wz w' : World} {P : Nat} {o r m : Value} {ms : List MO} {G : Gr} (h : LG w wz P o r m ms G) (hb : Below wz.heap.size wz w') : LG w w' P o r m ms G := ⟨graphAt_below h.gat hb, five_below h.five hb, h.bel.trans (hb.mono h.bel.size)⟩
theorem LG.box {w wz : World} {o r m : Value} {ms : List MO} {G : Gr} (h : GraphAt wz o r m ms G) (hb : Below w.heap.size w wz) : LG w (wz.alloc (gb o r m G.next G.seed)) wz.heap.size o r m ms G :=
  ⟨graphAt_below h ((Below.refl _ _).alloc (Nat.le_refl _) _), five_new wz _ _ _ _ _ _, hb.trans (((Below.refl _ _).alloc (Nat.le_refl _) _).mono hb.size)⟩
/-- What the law finds, as mathematics. -/
theorem coll_found (G : Gr) : ∃ R X : Gr, ((gOk G = true → Collects G R) ∧ (gOk G = false → R = gr0)) ∧ ((gOk G = true → Mourns G X) ∧ (gOk G = false → X = gr0)) ∧ (Small R ∧ Small X) ∧
    (gOk G = true → ∃ ys : List Int, (gOk R = true ∧ gOk X = true) ∧ IsGrieving X [] ∧ (IsReached R ys ∧ IsReached X ys) ∧ ys.length = R.objs.length ∧ Collects R R ∧ ∃ l, X.mourned = G.mourned ++ l) := by
  cases d : gOk G
  · exact ⟨gr0, gr0, ⟨(fun e => by cases e), fun _ => rfl⟩, ⟨(fun e => by cases e), fun _ => rfl⟩, ⟨small_zero, small_zero⟩, (fun e => by cases e)⟩
  · classical
    have hG := right_of d
    obtain ⟨X, hX⟩ := mourns_ex _ hG (Nat.le_refl _)
    obtain ⟨L, hL⟩ := hX
    have rX := rounds_right hG hL
    have gX := rounds_end hL
    have hc : Collects G (collG X fun p => decide (Rch X p)) := ⟨X, _, ⟨L, hL⟩, fun p => by simp, rfl⟩
    obtain ⟨rR, cR, gR, aR⟩ := coll_again hG hc
    have hpick := coll_pick (G := X) (f := fun p => decide (Rch X p)) (g := fun p => decide (Rch (collG X fun p => decide (Rch X p)) p)) (fun q hq => by simpa using aR q hq)
    refine ⟨_, X, ⟨fun _ => hc, (fun e => by cases e)⟩, ⟨fun _ => ⟨L, hL⟩, (fun e => by cases e)⟩, ⟨coll_small rX _, right_small rX⟩, fun _ => ⟨pick X.objs (fun p => decide (Rch X p)) X.objs.length, ⟨rR.gOk, rX.gOk⟩, .inr ⟨rX.gOk, [], gX, rfl⟩, ⟨.inr ⟨rR.gOk, _, fun p => by simp, hpick.symm⟩, .inr ⟨rX.gOk, _, fun p => by simp, rfl⟩⟩, ?_, cR, rounds_pre hL⟩⟩
    rw [coll_len]
    unfold pick keptP
    simp

set_option maxHeartbeats 16000000 in
theorem collLaw (a0 : Option Addr) (len0 cap0 : Nat) (w : World)
    (DR : len0 ≤ 4096 → ∀ W, Below w.heap.size w W → Calls Try.prog 6 #[.slice a0 len0 cap0] W fun e w' => ∃ (o r m : Value) (ms : List MO) (G : Gr), e = .returned (gv o r m G.next G.seed) ∧ GKeep w' W.heap.size o r m ms G ∧ gSize ms G ≤ 1048576 ∧ Below W.heap.size W w') :
    Calls Try.prog 3 #[.slice a0 len0 cap0] w fun e w' => e = .returned (.bool true) ∧ Below w.heap.size w w' := by
  have hl : 4096 < len0 ∨ len0 ≤ 4096 := by omega
  rcases hl with hl | hl
  · have hl' : (4096 : Int) < (len0 : Int) := by omega
    clear DR
    go_enter Try.func3, Try.ntmps3
    go_wp2
    go_ret
    exact ⟨rfl, Below.refl _ _⟩
  have hl' : ¬ (4096 : Int) < (len0 : Int) := by omega
  have DD := DR hl w (Below.refl _ _)
  clear DR
  go_enter Try.func3, Try.ntmps3
  go_wp2_with (go_at_call 5; go_in)
  refine DD.mono ?_
  rintro e w1 ⟨o, r, m, ms, G, rfl, K1, Z, b1⟩
  have A1 := K1 w1 [] (Ch.refl _ _) (fun k hk => by cases hk)
  obtain ⟨a1, n1, c1, a2, n2, c2, a3, n3, c3, e1, e2, e3⟩ := graphAt_slices A1
  subst e1 e2 e3
  obtain ⟨R, X, ⟨hc1, hc0⟩, ⟨hm1, hm0⟩, ⟨smR, smX⟩, hok⟩ := coll_found G
  have HL1 : Hid _ := LG.box A1 b1
  have HMA : Hid _ := And.intro (And.intro hc1 hc0) (And.intro hm1 hm0)
  have HSM : Hid _ := And.intro smR smX
  have HOK : Hid _ := hok
  have IC := implCollected HL1.out.gat Z hc1 hc0
  obtain ⟨z0, z1, z2, z3, z4, _⟩ := five_cells HL1.out.five
  clear K1 A1 DD b1 hc1 hc0 hm1 hm0 smR smX hok
  go_wp2_with fail
  generalize (w1.alloc (gb (.slice a1 n1 c1) (.slice a2 n2 c2) (.slice a3 n3 c3) G.next G.seed)) = X1 at *
  generalize w1.heap.size = P at *
  refine IC.mono ?_
  clear IC
  rintro e w2 ⟨o2, r2, m2, rs, rfl, O2, q2⟩
  obtain ⟨b1, m1, d1, b2, m2, d2, b3, m3, d3, e1, e2, e3⟩ := graphAt_slices (ownG_at O2)
  subst e1 e2 e3
  have A2 := ownG_at O2
  have ZC := HSM.out.1 rs O2.1
  have HL2 : Hid _ := LG.box (w := w) A2 (HL1.out.bel.trans (q2.mono HL1.out.bel.size))
  have HG2 : Hid _ := (HL1.out.below q2).below ((Below.refl _ _).alloc (Nat.le_refl _) (gb (.slice b1 m1 d1) (.slice b2 m2 d2) (.slice b3 m3 d3) R.next R.seed))
  have IM := implMourning HG2.out.gat Z HMA.out.2.1 HMA.out.2.2
  clear z0 z1 z2 z3 z4 O2 q2 A2 HL1
  obtain ⟨z0, z1, z2, z3, z4, _⟩ := five_cells HG2.out.five
  go_wp2_with fail
  generalize (w2.alloc (gb (.slice b1 m1 d1) (.slice b2 m2 d2) (.slice b3 m3 d3) R.next R.seed)) = X2 at *
  generalize w2.heap.size = Pc at *
  refine IM.mono ?_
  clear IM
  rintro e w3 ⟨o3, r3, m3', ns, rfl, O3, q3⟩
  obtain ⟨f1, g1, h1, f2, g2, h2, f3, g3, h3, e1, e2, e3⟩ := graphAt_slices (ownG_at O3)
  subst e1 e2 e3
  have A3 := ownG_at O3
  have ZM := HSM.out.2 ns O3.1
  have NB := (Below.refl w3.heap.size w3).alloc (Nat.le_refl _) (gb (.slice f1 g1 h1) (.slice f2 g2 h2) (.slice f3 g3 h3) X.next X.seed)
  have HM3 : Hid _ := LG.box (w := w) A3 (HL2.out.bel.trans (q3.mono HL2.out.bel.size))
  have HC3 : Hid _ := (HL2.out.below q3).below NB
  have HG3 : Hid _ := (HG2.out.below q3).below NB
  clear z0 z1 z2 z3 z4 O3 q3 A3 HL2 HG2 NB
  go_upto_region 6 with fail
  generalize (w3.alloc (gb (.slice f1 g1 h1) (.slice f2 g2 h2) (.slice f3 g3 h3) X.next X.seed)) = Y at *
  generalize w3.heap.size = Pm at *
  have HBY : Hid (Below w.heap.size w Y) := HG3.out.bel
  have HSC : Hid (∀ W, Below Y.heap.size Y W → Calls Try.prog 10 #[gv (.slice a1 n1 c1) (.slice a2 n2 c2) (.slice a3 n3 c3) G.next G.seed] W fun e w' => ∃ o' r' m' rs', e = .returned (gv o' r' m' R.next R.seed) ∧ OwnG w' W.heap.size o' r' m' rs' R ∧ Below W.heap.size W w') := fun W hW => sCollected_any (HG3.out.below hW).gat Z HMA.out.1.1 HMA.out.1.2
  have HSM2 : Hid (∀ W, Below Y.heap.size Y W → Calls Try.prog 11 #[gv (.slice a1 n1 c1) (.slice a2 n2 c2) (.slice a3 n3 c3) G.next G.seed] W fun e w' => ∃ o' r' m' rs', e = .returned (gv o' r' m' X.next X.seed) ∧ OwnG w' W.heap.size o' r' m' rs' X ∧ Below W.heap.size W w') := fun W hW => sMourning_any (HG3.out.below hW).gat Z HMA.out.2.1 HMA.out.2.2
  have HCELL : Hid (∀ W, Below Y.heap.size Y W → (Five W P 27 (.slice a1 n1 c1) (.slice a2 n2 c2) (.slice a3 n3 c3) (.int .i64 G.next) (.int .i64 G.seed) ∧ Five W Pc 27 (.slice b1 m1 d1) (.slice b2 m2 d2) (.slice b3 m3 d3) (.int .i64 R.next) (.int .i64 R.seed)) ∧ Five W Pm 27 (.slice f1 g1 h1) (.slice f2 g2 h2) (.slice f3 g3 h3) (.int .i64 X.next) (.int .i64 X.seed)) := fun W hW => ⟨⟨five_below HG3.out.five hW, five_below HC3.out.five hW⟩, five_below HM3.out.five hW⟩
  go_cut [26] from 15 to 25 (fun v wz => v = .bool false ∧ Below Y.heap.size Y wz)
  case first =>
    obtain ⟨⟨T1, T2⟩, T3⟩ := HCELL.out Y (Below.refl _ _)
    obtain ⟨z0, z1, z2, z3, z4, _⟩ := five_cells T1
    obtain ⟨y0, y1, y2, y3, y4, _⟩ := five_cells T2
    obtain ⟨x0, x1, x2, x3, x4, _⟩ := five_cells T3
    clear T1 T2 T3
    go_region_law (first
      | (have hh := HSC; clear hh; go_simp; go_at_call 10; refine Calls.mono (HSC.out _ (Below.refl _ _).drew) ?_; clear HSC; rintro e w5 ⟨o5, r5, m5, rs5, rfl, O5, q5'⟩; obtain ⟨i1, j1, k1, i2, j2, k2, i3, j3, k3, e1, e2, e3⟩ := graphAt_slices (ownG_at O5); subst e1 e2 e3; have HB5 : Hid (Below Y.heap.size Y w5) := ⟨q5'.os, q5'.tape, q5'.output, q5'.size, q5'.block⟩; have LK : Hid (Calls Try.prog 9 #[gv (.slice b1 m1 d1) (.slice b2 m2 d2) (.slice b3 m3 d3) R.next R.seed, gv (.slice i1 j1 k1) (.slice i2 j2 k2) (.slice i3 j3 k3) R.next R.seed] w5 fun e w' => e = .returned (.bool true) ∧ Below w5.heap.size w5 w') := likeGraph_same (HC3.out.below HB5.out).gat (ownG_at O5) ZC; clear O5 q5' z0 z1 z2 z3 z4 y0 y1 y2 y3 y4 x0 x1 x2 x3 x4; obtain ⟨⟨T1, T2⟩, T3⟩ := HCELL.out w5 HB5.out; obtain ⟨z0, z1, z2, z3, z4, _⟩ := five_cells T1; obtain ⟨y0, y1, y2, y3, y4, _⟩ := five_cells T2; obtain ⟨x0, x1, x2, x3, x4, _⟩ := five_cells T3; clear T1 T2 T3)
      | (have hh := LK; clear hh; go_simp; go_at_call 9; refine Calls.mono LK.out ?_; clear LK; rintro e w6 ⟨rfl, q6⟩; have HB6 : Hid (Below Y.heap.size Y w6) := HB5.out.trans (q6.mono HB5.out.size); clear q6 HB5 z0 z1 z2 z3 z4 y0 y1 y2 y3 y4 x0 x1 x2 x3 x4; obtain ⟨⟨T1, T2⟩, T3⟩ := HCELL.out w6 HB6.out; obtain ⟨z0, z1, z2, z3, z4, _⟩ := five_cells T1; obtain ⟨y0, y1, y2, y3, y4, _⟩ := five_cells T2; obtain ⟨x0, x1, x2, x3, x4, _⟩ := five_cells T3; clear T1 T2 T3)
      | (have hh := HSM2; clear hh; go_simp; go_at_call 11; refine Calls.mono (HSM2.out _ HB6.out) ?_; clear HSM2; rintro e w7 ⟨o5, r5, m5, rs5, rfl, O5, q5⟩; obtain ⟨i1', j1', k1', i2', j2', k2', i3', j3', k3', e1, e2, e3⟩ := graphAt_slices (ownG_at O5); subst e1 e2 e3; have HB7 : Hid (Below Y.heap.size Y w7) := HB6.out.trans (q5.mono HB6.out.size); have LK2 : Hid (Calls Try.prog 9 #[gv (.slice f1 g1 h1) (.slice f2 g2 h2) (.slice f3 g3 h3) X.next X.seed, gv (.slice i1' j1' k1') (.slice i2' j2' k2') (.slice i3' j3' k3') X.next X.seed] w7 fun e w' => e = .returned (.bool true) ∧ Below w7.heap.size w7 w') := likeGraph_same (HM3.out.below HB7.out).gat (ownG_at O5) ZM; clear O5 q5 z0 z1 z2 z3 z4 y0 y1 y2 y3 y4 x0 x1 x2 x3 x4; obtain ⟨⟨T1, T2⟩, T3⟩ := HCELL.out w7 HB7.out; obtain ⟨z0, z1, z2, z3, z4, _⟩ := five_cells T1; obtain ⟨y0, y1, y2, y3, y4, _⟩ := five_cells T2; obtain ⟨x0, x1, x2, x3, x4, _⟩ := five_cells T3; clear T1 T2 T3)
      | (have hh := LK2; clear hh; go_simp; go_at_call 9; refine Calls.mono LK2.out ?_; clear LK2; rintro e w8 ⟨rfl, q8⟩; have HB8 : Hid (Below Y.heap.size Y w8) := HB7.out.trans (q8.mono HB7.out.size); clear q8))
    all_goals (go_wp2_with fail)
    all_goals go_meet
    all_goals exact ⟨rfl, HB8.out⟩
  obtain ⟨rfl, hB4⟩ := hcut
  have HB4 : Hid (Below Y.heap.size Y wc) := hB4
  obtain ⟨⟨T1, T2⟩, T3⟩ := HCELL.out wc hB4
  obtain ⟨z0, z1, z2, z3, z4, _⟩ := five_cells T1
  have GK := sGraphOk_any (HG3.out.below hB4).gat Z
  clear hB4 T1 T2 T3 HSC HSM2
  cases dG : gOk G
  · rw [dG] at GK
    have eR : R = gr0 := HMA.out.1.2 dG
    have eX : X = gr0 := HMA.out.2.2 dG
    subst eR eX
    go_wp2_with fail
    refine GK.mono ?_
    clear GK
    rintro e w5 ⟨rfl, q5⟩
    have HB5 : Hid (Below Y.heap.size Y w5) := HB4.out.trans (q5.mono HB4.out.size)
    clear q5 z0 z1 z2 z3 z4
    obtain ⟨⟨T1, T2⟩, T3⟩ := HCELL.out w5 HB5.out
    obtain ⟨y0, y1, y2, y3, y4, _⟩ := five_cells T2
    have LK := likeGraph_same (HC3.out.below HB5.out).gat (ownG_at (ownG_zero w5 0)) ZC
    clear T1 T2 T3
    go_wp2_with fail
    refine LK.mono ?_
    clear LK
    rintro e w6 ⟨rfl, q6⟩
    have HB6 : Hid (Below Y.heap.size Y w6) := HB5.out.trans (q6.mono HB5.out.size)
    clear q6 y0 y1 y2 y3 y4
    obtain ⟨⟨T1, T2⟩, T3⟩ := HCELL.out w6 HB6.out
    obtain ⟨x0, x1, x2, x3, x4, _⟩ := five_cells T3
    have LK := likeGraph_same (HM3.out.below HB6.out).gat (ownG_at (ownG_zero w6 0)) ZM
    clear T1 T2 T3
    go_wp2_with fail
    refine LK.mono ?_
    clear LK
    rintro e w7 ⟨rfl, q7⟩
    have HBE : Hid _ := HBY.out.trans ((HB6.out.trans (q7.mono HB6.out.size)).mono HBY.out.size)
    clear q7
    go_wp2
    go_ret
    exact ⟨rfl, HBE.out⟩
  · rw [dG] at GK
    obtain ⟨ys, ⟨okR, okX⟩, griX, ⟨reR, reX⟩, hyl, hcc, ⟨ml, hml⟩⟩ := HOK.out dG
    go_wp2_with fail
    refine GK.mono ?_
    clear GK
    rintro e w5 ⟨rfl, q5⟩
    have HB5 : Hid (Below Y.heap.size Y w5) := HB4.out.trans (q5.mono HB4.out.size)
    clear q5 z0 z1 z2 z3 z4
    go_upto_region 10 with fail
    have C5 := HC3.out.below HB5.out
    have M5 := HM3.out.below HB5.out
    have em : ys.length = m1 := by
      have h1 := C5.gat.1
      obtain ⟨⟨a', c', e, _⟩, _⟩ := C5.gat.2.1
      injection e with _ e2 _
      rw [hyl, ← h1, e2]; simp
    have hy2 : ys.length ≤ 1048576 := Nat.le_trans (isReached_len reX) (by decide)
    have HC5 : Hid _ := C5
    have HM5 : Hid _ := M5
    have HK5 : Hid _ := And.intro em (And.intro hy2 (And.intro okR (And.intro okX (And.intro griX (And.intro reR reX)))))
    have HML : Hid _ := hml
    have HCC : Hid _ := hcc
    clear C5 M5 em hy2 okR okX griX reR reX hyl hml hcc
    go_cut [68] from 38 to 67 (fun v wz => v = .bool false ∧ Below w5.heap.size w5 wz)
    case first =>
      rename_i J K' HJ HK
      obtain ⟨em, hy2, okR, okX, griX, reR, reX⟩ := HK5.out
      refine regC10 (Pc := Pc) (Pm := Pm) (R := R) (X := X) (ms := rs) (ns := ns) (ys := ys) ?_ rfl ⟨_, rfl, rfl, rfl, rfl, by simp [Region.binds]⟩ ⟨_, rfl, rfl, rfl, rfl, by simp [Region.binds]⟩ ⟨_, rfl, rfl, rfl, rfl, by simp [Region.binds]⟩ ⟨_, rfl, rfl, rfl, rfl, by simp [Region.binds]⟩ ⟨_, rfl, rfl, rfl, rfl, by simp [Region.binds]⟩ ⟨_, rfl, rfl, rfl, rfl, by simp [Region.binds]⟩ ⟨_, rfl, rfl, rfl, rfl, by simp [Region.binds]⟩ ⟨_, rfl, rfl, rfl, rfl, by simp [Region.binds]⟩ ⟨_, rfl, rfl, rfl, rfl, by simp [Region.binds]⟩ ⟨_, rfl, rfl, rfl, rfl, by simp [Region.binds]⟩ ⟨_, rfl, rfl, rfl, rfl, by simp [Region.binds]⟩ ⟨_, rfl, rfl, rfl, rfl, by simp [Region.binds]⟩ ⟨_, rfl, rfl, rfl, rfl, by simp [Region.binds]⟩ ⟨_, rfl, rfl, rfl, rfl, by simp [Region.binds]⟩ ⟨_, rfl, rfl, rfl, rfl, by simp [Region.binds]⟩ ⟨_, rfl, rfl, rfl, rfl, by simp [Region.binds]⟩ ⟨_, rfl, rfl, rfl, rfl, by simp [Region.binds]⟩ ⟨_, rfl, rfl, rfl, rfl, by simp [Region.binds]⟩ ⟨_, rfl, rfl, rfl, rfl, by simp [Region.binds]⟩ ⟨_, rfl, rfl, rfl, rfl, by simp [Region.binds]⟩ ⟨_, rfl, rfl, rfl, rfl, by simp [Region.binds]⟩ ⟨_, rfl, rfl, rfl, rfl, by simp [Region.binds]⟩ ⟨_, rfl, rfl, rfl, rfl, by simp [Region.binds]⟩ ⟨_, rfl, rfl, rfl, rfl, by simp [Region.binds]⟩ ⟨_, rfl, rfl, rfl, rfl, by simp [Region.binds]⟩ ⟨_, rfl, rfl, rfl, rfl, by simp [Region.binds]⟩ ⟨_, rfl, rfl, rfl, rfl, by simp [Region.binds]⟩ ⟨_, rfl, rfl, rfl, rfl, by simp [Region.binds]⟩ ⟨_, rfl, rfl, rfl, rfl, by simp [Region.binds]⟩ ⟨_, rfl, rfl, rfl, rfl, by simp [Region.binds]⟩ ⟨_, rfl, rfl, rfl, rfl, by simp [Region.binds]⟩ (by simp) rfl rfl HC5.out.five HM5.out.five HC5.out.gat HM5.out.gat ZC ZM okR okX griX reR reX em hy2 ?_
      · intro k o ho e he
        have hk : k < 31 := (Array.getElem?_eq_some_iff.1 ho).1
        rcases (show k = 0 ∨ k = 1 ∨ k = 2 ∨ k = 3 ∨ k = 4 ∨ k = 5 ∨ k = 6 ∨ k = 7 ∨ k = 8 ∨ k = 9 ∨ k = 10 ∨ k = 11 ∨ k = 12 ∨ k = 13 ∨ k = 14 ∨ k = 15 ∨ k = 16 ∨ k = 17 ∨ k = 18 ∨ k = 19 ∨ k = 20 ∨ k = 21 ∨ k = 22 ∨ k = 23 ∨ k = 24 ∨ k = 25 ∨ k = 26 ∨ k = 27 ∨ k = 28 ∨ k = 29 ∨ k = 30 by omega) with rfl | rfl | rfl | rfl | rfl | rfl | rfl | rfl | rfl | rfl | rfl | rfl | rfl | rfl | rfl | rfl | rfl | rfl | rfl | rfl | rfl | rfl | rfl | rfl | rfl | rfl | rfl | rfl | rfl | rfl | rfl
        all_goals
          injection ho with ho
          subst ho
          simp at he
          try omega
        all_goals
          first
            | (subst he; decide)
            | (rcases he with rfl | rfl <;> decide)
            | (rcases he with rfl | rfl | rfl <;> decide)
            | (rcases he with rfl | rfl | rfl | rfl <;> decide)
            | (rcases he with rfl | rfl | rfl | rfl | rfl <;> decide)
            | (rcases he with rfl | rfl | rfl | rfl | rfl | rfl <;> decide)
            | (rcases he with rfl | rfl | rfl | rfl | rfl | rfl | rfl <;> decide)
      · intro u w' hu hb
        exact HK _ _ (Met.intro (HJ _ _ ⟨u 38, u 39, u 40, u 41, u 42, u 43, u 44, u 45, u 46, u 47, u 48, u 49, u 50, u 51, u 52, u 53, u 54, u 55, u 56, u 57, u 58, u 59, u 60, u 61, u 62, u 63, u 64, u 65, u 66, u 67, u 68, ⟨hu, hb⟩, rfl⟩))
    obtain ⟨rfl, hB6⟩ := hcut
    have HB6 : Hid (Below Y.heap.size Y wc) := HB5.out.trans (hB6.mono HB5.out.size)
    clear hB6 HK5 HC5 HM5
    have hnG : n3 = G.mourned.length := by
      obtain ⟨a', c', e, _⟩ := HG3.out.gat.2.2.2
      injection e
    have hnX : g3 = X.mourned.length := by
      obtain ⟨a', c', e, _⟩ := HM3.out.gat.2.2.2
      injection e
    have hle : n3 ≤ g3 := by rw [hnG, hnX, HML.out]; simp
    have HNG : Hid _ := And.intro hnG hnX
    have bnG : n3 ≤ 1048576 := by rw [hnG]; unfold gSize at Z; omega
    clear hnG hnX
    go_wp2_with fail
    go_loopw [6] (fun p wr => ∃ k : Nat, k ≤ n3 ∧ p = .int .i64 (k : Int) ∧ Below Y.heap.size Y wr) (fun p _ => n3 - (intOf p).toNat)
    case atStart => exact ⟨0, Nat.zero_le _, rfl, HB6.out⟩
    case round =>
      obtain ⟨k, hk, rfl, hB⟩ := hrel
      clear HB6
      obtain ⟨⟨T1, T2⟩, T3⟩ := HCELL.out wr hB
      obtain ⟨z0, z1, z2, z3, z4, _⟩ := five_cells T1
      obtain ⟨y0, y1, y2, y3, y4, _⟩ := five_cells T2
      obtain ⟨x0, x1, x2, x3, x4, _⟩ := five_cells T3
      clear T1 T2 T3
      have HB7 : Hid _ := hB
      by_cases hlt : k < n3
      · have hlt' : (k : Int) < (n3 : Int) := by omega
        have hlg : (k : Int) < (g3 : Int) := by omega
        have rG := (HG3.out.below hB).gat.2.2.2
        have rX := (HM3.out.below hB).gat.2.2.2
        obtain ⟨a', c', e, _, _, _, hc⟩ := rG
        injection e with ea _ _
        obtain ⟨gb', go', ga, _, hcc⟩ := hc (by rw [← HNG.out.1]; omega)
        obtain ⟨q0, q1⟩ := hcc k (by rw [← HNG.out.1]; omega)
        obtain ⟨a'', c'', e', _, _, _, hc'⟩ := rX
        injection e' with ea' _ _
        obtain ⟨xb', xo', xa, _, hcc'⟩ := hc' (by rw [← HNG.out.2]; omega)
        obtain ⟨p0, p1⟩ := hcc' k (by rw [← HNG.out.2]; omega)
        subst ga xa
        subst ea ea'
        have hsame : X.mourned.getD k refD = G.mourned.getD k refD := by
          rw [HML.out, List.getD_eq_getElem?_getD, List.getElem?_append_left (by rw [← HNG.out.1]; omega), ← List.getD_eq_getElem?_getD]
        rw [hsame] at p0 p1
        clear hsame hc hc' hcc hcc' hB
        generalize G.mourned.getD k refD = x at *
        obtain ⟨xk, xn⟩ := x
        simp only at q0 q1 p0 p1
        have i1 : (xk == xk) = true := by simp
        have i2 : (xn == xn) = true := by simp
        go_wp2_with fail
        go_quiet (fail)
        go_wp2
        exact ⟨⟨k + 1, by omega, by go_num, ⟨HB7.out.os, HB7.out.tape, HB7.out.output, HB7.out.size, HB7.out.block⟩⟩, by simp [intOf]; omega⟩
      · have hlt' : ¬ (k : Int) < (n3 : Int) := by omega
        have HIC : Hid (∀ W, Below wr.heap.size wr W → Calls Try.prog 7 #[gv (.slice b1 m1 d1) (.slice b2 m2 d2) (.slice b3 m3 d3) R.next R.seed] W fun e w' => ∃ o' r' m' rs', e = .returned (gv o' r' m' R.next R.seed) ∧ OwnG w' W.heap.size o' r' m' rs' R ∧ Below W.heap.size W w') := fun W hW => implCollected ((HC3.out.below HB7.out).below hW).gat ZC (fun _ => HCC.out) (fun e => by rw [(HOK.out dG).choose_spec.1.1] at e; cases e)
        clear hB
        go_wp2_with fail
        go_region_law (first
          | (have hh := HIC; clear hh; go_simp; go_at_call 7; refine Calls.mono (HIC.out _ (Below.refl _ _).drew) ?_; clear HIC; rintro e w8 ⟨o5, r5, m5, rs5, rfl, O5, q5'⟩; obtain ⟨i1, j1, k1, i2, j2, k2, i3, j3, k3, e1, e2, e3⟩ := graphAt_slices (ownG_at O5); subst e1 e2 e3; have HB8 : Hid (Below wr.heap.size wr w8) := ⟨q5'.os, q5'.tape, q5'.output, q5'.size, q5'.block⟩; have HB9 : Hid (Below Y.heap.size Y w8) := HB7.out.trans (HB8.out.mono HB7.out.size); have LK : Hid (Calls Try.prog 9 #[gv (.slice i1 j1 k1) (.slice i2 j2 k2) (.slice i3 j3 k3) R.next R.seed, gv (.slice b1 m1 d1) (.slice b2 m2 d2) (.slice b3 m3 d3) R.next R.seed] w8 fun e w' => e = .returned (.bool true) ∧ Below w8.heap.size w8 w') := likeGraph_same (ownG_at O5) (HC3.out.below HB9.out).gat (HSM.out.1 rs5 O5.1); clear O5 q5' z0 z1 z2 z3 z4 y0 y1 y2 y3 y4 x0 x1 x2 x3 x4; obtain ⟨⟨T1, T2⟩, T3⟩ := HCELL.out w8 HB9.out; obtain ⟨y0, y1, y2, y3, y4, _⟩ := five_cells T2; clear T1 T2 T3)
          | (have hh := LK; clear hh; go_simp; go_at_call 9; refine Calls.mono LK.out ?_; clear LK; rintro e w9 ⟨rfl, q9⟩; have HBE : Hid (Below w.heap.size w w9) := HBY.out.trans ((HB9.out.trans (q9.mono HB9.out.size)).mono HBY.out.size); clear q9))
        all_goals go_wp2
        all_goals go_ret
        all_goals exact ⟨rfl, HBE.out⟩
end Go.Proofs.Ytdogibjgogcdkac.gr
