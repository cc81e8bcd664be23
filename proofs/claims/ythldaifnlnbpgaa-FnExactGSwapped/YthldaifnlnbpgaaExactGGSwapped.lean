/-
  The walk of the law FnExactGSwapped, given what the program's and the specification's GSwapped answer.
  Made from the template ExactGGSwapped.
-/
import Derived.Test.YthldaifnlnbpgaaGraphsM
import Derived.Test.YthldaifnlnbpgaaGraphsL
namespace Go.Proofs.Ythldaifnlnbpgaa.gr
open Go.RowKit rows heads
set_option maxRecDepth 100000

set_option maxHeartbeats 16000000 in
theorem exactGSwapped {G R : Gr} {b : Bool} (x0 x1 : Int)
    (SPEC : ∀ (w : World) (o r m : Value) (ms : List MO), GraphAt w o r m ms G → gSize ms G ≤ 1048576 → Calls Try.prog 6 #[gv o r m G.next G.seed, .int .i64 x0, .int .i64 x1] w fun e w' => ∃ (o' r' m' : Value) (rs : List MO), e = .returned (.tuple #[gv o' r' m' R.next R.seed, .bool b]) ∧ OwnG w' w.heap.size o' r' m' rs R ∧ Below w.heap.size w w')
    (IMPL : ∀ (w : World) (o r m : Value) (ms : List MO), GraphAt w o r m ms G → gSize ms G ≤ 1048576 → Calls Try.prog 8 #[gv o r m G.next G.seed, .int .i64 x0, .int .i64 x1] w fun e w' => ∃ (o' r' m' : Value) (rs : List MO), e = .returned (.tuple #[gv o' r' m' R.next R.seed, .bool b]) ∧ OwnG w' w.heap.size o' r' m' rs R ∧ Below w.heap.size w w')
    (hR : (∃ ms : List MO, ms.map MO.abs = G.objs ∧ gSize ms G ≤ 1048576) → ∀ rs : List MO, rs.map MO.abs = R.objs → gSize rs R ≤ 1048576)
    (w : World) (o r m : Value) (ms : List MO) (h : GraphAt w o r m ms G) :
    Calls Try.prog 3 #[gv o r m G.next G.seed, .int .i64 x0, .int .i64 x1] w fun e w' => e = .returned (.bool true) ∧ Below w.heap.size w w' := by
  obtain ⟨a1, n1, c1, a2, n2, c2, a3, n3, c3, e1, e2, e3⟩ := graphAt_slices h
  subst e1 e2 e3
  have B0 : Below w.heap.size w (w.alloc (.cells #[.slice a1 n1 c1, .slice a2 n2 c2, .slice a3 n3 c3, .int .i64 G.next, .int .i64 G.seed] 25)) := (Below.refl _ w).alloc (Nat.le_refl _) _
  have T0 := five_new w 25 (.slice a1 n1 c1) (.slice a2 n2 c2) (.slice a3 n3 c3) (.int .i64 G.next) (.int .i64 G.seed)
  have SZ := szGraph_any (graphAt_below h B0) 1048576 (Nat.le_refl _)
  have HG : Hid _ := h
  have HB0 : Hid _ := B0
  have HT0 : Hid _ := T0
  clear B0 T0 h
  go_enter Try.func3, Try.ntmps3
  go_wp2_with fail
  generalize (w.alloc (Obj.cells #[.slice a1 n1 c1, .slice a2 n2 c2, .slice a3 n3 c3, .int .i64 G.next, .int .i64 G.seed] 25)) = X0 at *
  refine SZ.mono ?_
  rintro e w1 ⟨rfl, q1⟩
  have B1 := HB0.out.trans (q1.mono HB0.out.size)
  have T1 := five_below HT0.out q1
  clear SZ HB0 HT0 q1
  by_cases hsz : gSize ms G ≤ 1048576
  case neg =>
    rw [if_neg hsz]
    have HB : Hid _ := B1
    clear B1 T1 HG
    go_wp2
    go_ret
    exact ⟨rfl, HB⟩
  rw [if_pos hsz]
  obtain ⟨lf, hlf⟩ : ∃ lf : Nat, ((1048576 : Nat) : Int) - (gSize ms G : Int) = (lf : Int) := ⟨1048576 - gSize ms G, by omega⟩
  rw [hlf]
  have hl0 : ¬ (lf : Int) < 0 := by omega
  have hRR := hR ⟨ms, HG.out.1, hsz⟩
  have HRR : Hid _ := hRR
  clear hlf hRR hR
  obtain ⟨z0, z1, z2, z3, z4, _⟩ := five_cells T1
  -- the specification's answer
  have TG := toGraph_any (graphAt_below HG.out B1) hsz
  have HT1 : Hid _ := T1
  have HB1 : Hid _ := B1
  clear T1 B1
  go_wp2_with fail
  refine TG.mono ?_
  rintro e w2 ⟨o2, r2, m2, rs2, rfl, O2, q2⟩
  have B2 := HB1.out.trans (q2.mono HB1.out.size)
  have T2 := five_below HT1.out q2
  obtain ⟨d1, f1, g1, d2, f2, g2, d3, f3, g3, e1, e2, e3⟩ := graphAt_slices (ownG_at O2)
  subst e1 e2 e3
  have SP := SPEC w2 _ _ _ _ (ownG_at O2) (gSize_of O2.1 HG.out.1 hsz)
  have HT2 : Hid _ := T2
  have HB2 : Hid _ := B2
  clear TG q2 T2 B2 HT1 HB1 O2 SPEC z0 z1 z2 z3 z4
  go_wp2_with fail
  refine SP.mono ?_
  rintro e w3 ⟨o3, r3, m3, rs3, rfl, O3, q3⟩
  have B3 := HB2.out.trans (q3.mono HB2.out.size)
  have T3 := five_below HT2.out q3
  obtain ⟨d1, f1, g1, d2, f2, g2, d3, f3, g3, e1, e2, e3⟩ := graphAt_slices (ownG_at O3)
  subst e1 e2 e3
  have N3 := (Below.refl w3.heap.size w3).alloc (Nat.le_refl _) (gb (.slice d1 f1 g1) (.slice d2 f2 g2) (.slice d3 f3 g3) R.next R.seed)
  have B4 := B3.trans (N3.mono B3.size)
  have T4 := five_below T3 N3
  have W4 := five_new w3 30 (.slice d1 f1 g1) (.slice d2 f2 g2) (.slice d3 f3 g3) (.int .i64 R.next) (.int .i64 R.seed)
  have O4 := ownG_below O3 N3
  have L4 := ownG_lt O3
  have p5 := lt_of_block T4
  obtain ⟨z0, z1, z2, z3, z4, _⟩ := five_cells T4
  have TG := toGraph_any (graphAt_below HG.out B4) hsz
  have p12 : w3.heap.size < (w3.alloc (gb (.slice d1 f1 g1) (.slice d2 f2 g2) (.slice d3 f3 g3) R.next R.seed)).heap.size := by simp
  have HT4 : Hid _ := T4
  have HB4 : Hid _ := B4
  have HW4 : Hid _ := W4
  have HO4 : Hid _ := O4
  have HL4 : Hid _ := L4
  clear SP HT2 HB2 B3 T3 N3 B4 T4 W4 O4 O3 q3 L4
  go_wp2_with fail
  generalize hX4 : (w3.alloc (gb (.slice d1 f1 g1) (.slice d2 f2 g2) (.slice d3 f3 g3) R.next R.seed)) = X4 at *
  generalize hP12 : w3.heap.size = P12 at *
  clear hX4
  refine TG.mono ?_
  rintro e w5 ⟨o5, r5, m5, rs5, rfl, O5, q5⟩
  have s5 := q5.size
  have B5 := HB4.out.trans (q5.mono HB4.out.size)
  have T5 := five_below HT4.out q5
  have W5 := five_below HW4.out q5
  have OW5 := ownG_below HO4.out q5
  obtain ⟨h1, i1, j1, h2, i2, j2, h3, i3, j3, e1, e2, e3⟩ := graphAt_slices (ownG_at O5)
  subst e1 e2 e3
  have N5 := (Below.refl w5.heap.size w5).alloc (Nat.le_refl _) (gb (.slice h1 i1 j1) (.slice h2 i2 j2) (.slice h3 i3 j3) G.next G.seed)
  have B6 := B5.trans (N5.mono B5.size)
  have T6 := five_below T5 N5
  have W6 := five_below W5 N5
  have OW6 := ownG_below OW5 N5
  have X6f := five_new w5 30 (.slice h1 i1 j1) (.slice h2 i2 j2) (.slice h3 i3 j3) (.int .i64 G.next) (.int .i64 G.seed)
  have OX6 := ownG_below O5 N5
  have LX := ownG_lt O5
  obtain ⟨x0, x1, x2, x3, x4, _⟩ := five_cells X6f
  have IM := IMPL _ _ _ _ _ (ownG_at OX6) (gSize_of OX6.1 HG.out.1 hsz)
  have p14 : w5.heap.size < (w5.alloc (gb (.slice h1 i1 j1) (.slice h2 i2 j2) (.slice h3 i3 j3) G.next G.seed)).heap.size := by simp
  have HB6 : Hid _ := B6
  have HT6 : Hid _ := T6
  have HW6 : Hid _ := W6
  have HOW6 : Hid _ := OW6
  have HX6 : Hid _ := X6f
  have HOX6 : Hid _ := OX6
  have HLX : Hid _ := LX
  clear TG HB4 HT4 HW4 HO4 q5 B5 T5 W5 OW5 N5 B6 T6 W6 OW6 X6f OX6 LX O5 z0 z1 z2 z3 z4
  -- the program's answer
  go_wp2_with fail
  generalize hX6 : (w5.alloc (gb (.slice h1 i1 j1) (.slice h2 i2 j2) (.slice h3 i3 j3) G.next G.seed)) = X6 at *
  generalize hP14 : w5.heap.size = P14 at *
  clear hX6
  refine IM.mono ?_
  rintro e w7 ⟨o7, r7, m7, rs7, rfl, O7, q7⟩
  have s7 := q7.size
  have B7 := HB6.out.trans (q7.mono HB6.out.size)
  have T7 := five_below HT6.out q7
  have W7 := five_below HW6.out q7
  have OW7 := ownG_below HOW6.out q7
  have X7 := five_below HX6.out q7
  have OX7 := ownG_below HOX6.out q7
  obtain ⟨k1, l1, m1, k2, l2, m2, k3, l3, m3, e1, e2, e3⟩ := graphAt_slices (ownG_at O7)
  subst e1 e2 e3
  have N7 := (Below.refl w7.heap.size w7).alloc (Nat.le_refl _) (gb (.slice k1 l1 m1) (.slice k2 l2 m2) (.slice k3 l3 m3) R.next R.seed)
  have B8 := B7.trans (N7.mono B7.size)
  have T8 := five_below T7 N7
  have W8 := five_below W7 N7
  have OW8 := ownG_below OW7 N7
  have X8f := five_below X7 N7
  have OX8 := ownG_below OX7 N7
  have Y8 := five_new w7 30 (.slice k1 l1 m1) (.slice k2 l2 m2) (.slice k3 l3 m3) (.int .i64 R.next) (.int .i64 R.seed)
  have OY8 := ownG_below O7 N7
  have LY := ownG_lt O7
  have p15 : w7.heap.size < (w7.alloc (gb (.slice k1 l1 m1) (.slice k2 l2 m2) (.slice k3 l3 m3) R.next R.seed)).heap.size := by simp
  have bb : (b != b) = false := by simp
  have EQ := eqGraph_same (ownG_at OY8) (ownG_at OW8) (HRR.out _ OY8.1)
  clear x0 x1 x2 x3 x4
  obtain ⟨y0, y1, y2, y3, y4, _⟩ := five_cells Y8
  obtain ⟨v0, v1, v2, v3, v4, _⟩ := five_cells W8
  have HB8 : Hid _ := B8
  have HT8 : Hid _ := T8
  have HW8 : Hid _ := W8
  have HOW8 : Hid _ := OW8
  have HX8 : Hid _ := X8f
  have HOX8 : Hid _ := OX8
  have HY8 : Hid _ := Y8
  have HOY8 : Hid _ := OY8
  have HLY : Hid _ := LY
  clear IM HB6 HT6 HW6 HOW6 HX6 HOX6 q7 B7 T7 W7 OW7 X7 OX7 N7 B8 T8 W8 OW8 X8f OX8 Y8 OY8 LY O7
  go_wp2_with fail
  generalize hX8 : (w7.alloc (gb (.slice k1 l1 m1) (.slice k2 l2 m2) (.slice k3 l3 m3) R.next R.seed)) = X8 at *
  generalize hP15 : w7.heap.size = P15 at *
  clear hX8
  refine EQ.mono ?_
  rintro e w9 ⟨rfl, q9⟩
  have s9 := q9.size
  have B9 := HB8.out.trans (q9.mono HB8.out.size)
  have T9 := five_below HT8.out q9
  have W9 := five_below HW8.out q9
  have OW9 := ownG_below HOW8.out q9
  have X9 := five_below HX8.out q9
  have OX9 := ownG_below HOX8.out q9
  have Y9 := five_below HY8.out q9
  have OY9 := ownG_below HOY8.out q9
  clear EQ HB8 HT8 HW8 HOW8 HX8 HOX8 HY8 HOY8 q9 y0 y1 y2 y3 y4 v0 v1 v2 v3 v4
  -- the argument is as it was
  have D9 : Below w9.heap.size w9 w9.drew := (Below.refl _ w9).drew
  have TG := toGraph_any (w := w9.drew) (graphAt_below HG.out B9.drew) hsz
  obtain ⟨z0, z1, z2, z3, z4, _⟩ := five_cells T9
  obtain ⟨x0, x1, x2, x3, x4, _⟩ := five_cells X9
  have z0d : w9.drew.cell? ⟨w.heap.size, 0, none⟩ = some (.slice a1 n1 c1) := z0
  have HB9 : Hid _ := B9
  have HT9 : Hid _ := T9
  have HW9 : Hid _ := W9
  have HOW9 : Hid _ := OW9
  have HX9 : Hid _ := X9
  have HOX9 : Hid _ := OX9
  have HY9 : Hid _ := Y9
  have HOY9 : Hid _ := OY9
  clear B9 T9 W9 OW9 X9 OX9 Y9 OY9 D9 z0d
  go_wp2_with fail
  go_region_law (first
    | (go_simp; go_at_call 7; refine TG.mono ?_; clear TG; rintro e w10 ⟨o10, r10, m10, rs10, rfl, O10, q10⟩
       obtain ⟨u1, u2, u3, u4, u5, u6, u7, u8, u9, e1, e2, e3⟩ := graphAt_slices (ownG_at O10)
       subst e1 e2 e3
       have D10 : Below w9.heap.size w9 w10 := ⟨q10.os, q10.tape, q10.output, q10.size, q10.block⟩
       have EQ2 := eqGraph_same (ownG_at (ownG_below HOX9.out D10)) (ownG_at O10) (gSize_of HOX9.out.1 HG.out.1 hsz)
       have X10 := five_below HX9.out D10
       obtain ⟨t0, t1, t2, t3, t4, _⟩ := five_cells X10
       have HD10 : Hid _ := D10
       clear q10 D10 O10 X10)
    | (go_simp; go_at_call 9; refine EQ2.mono ?_; clear EQ2; rintro e w11 ⟨rfl, q11⟩; have HD11 : Hid _ := HD10.out.trans (q11.mono HD10.out.size); clear q11 HD10))
  all_goals
    have D11 := HD11.out
    have B11 := HB9.out.trans (D11.mono HB9.out.size)
    have T11 := five_below HT9.out D11
    have W11 := five_below HW9.out D11
    have OW11 := ownG_below HOW9.out D11
    have X11 := five_below HX9.out D11
    have OX11 := ownG_below HOX9.out D11
    have Y11 := five_below HY9.out D11
    have OY11 := ownG_below HOY9.out D11
    have s11 := D11.size
    clear HD11 HB9 HT9 HW9 HOW9 HX9 HOX9 HY9 HOY9 D11 z0 z1 z2 z3 z4 x0 x1 x2 x3 x4
    have MK := markGraph_any OX11 (gSize_of OX11.1 HG.out.1 hsz) 1 (by decide)
    rw [show ((1 : Nat) : Int) = 1 from rfl] at MK
    obtain ⟨x0, x1, x2, x3, x4, _⟩ := five_cells X11
    have HB11 : Hid _ := B11
    have HT11 : Hid _ := T11
    have HW11 : Hid _ := W11
    have HOW11 : Hid _ := OW11
    have HY11 : Hid _ := Y11
    have HOY11 : Hid _ := OY11
    clear B11 T11 W11 OW11 X11 OX11 Y11 OY11
    go_wp2_with fail
    refine MK.mono ?_
    rintro e w12 ⟨kE, rfl, hkE, -, C12⟩
    have kE0 : ¬ (kE : Int) < 0 := by omega
    have fx : ∀ k ∈ gblk (.slice h1 i1 j1) (.slice h2 i2 j2) (.slice h3 i3 j3) rs5, X4.heap.size ≤ k ∧ k < P14 := HLX.out
    have s12 := C12.size
    have B12 := HB11.out.trans (below_ch C12 HB11.out.size (fun k hk => by have := (fx k hk).1; omega))
    have T12 := five_ch HT11.out C12 (fun e => by have := (fx _ e).1; omega)
    have W12 := five_ch HW11.out C12 (fun e => by have := (fx _ e).1; omega)
    have Y12 := five_ch HY11.out C12 (fun e => by have := (fx _ e).2; omega)
    have OW12 := ownG_ch HOW11.out C12 (fun k hk e => by have := (fx _ e).1; have := (HL4.out k hk).2; omega)
    have OY12 := ownG_ch HOY11.out C12 (fun k hk e => by have := (fx _ e).2; have := (HLY.out k hk).1; omega)
    clear MK C12 fx HB11 HT11 HW11 HOW11 HY11 HOY11 x0 x1 x2 x3 x4
    have EQ := eqGraph_same (ownG_at OY12) (ownG_at OW12) (HRR.out _ OY12.1)
    obtain ⟨y0, y1, y2, y3, y4, _⟩ := five_cells Y12
    obtain ⟨v0, v1, v2, v3, v4, _⟩ := five_cells W12
    have HB12 : Hid _ := B12
    have HT12 : Hid _ := T12
    have HW12 : Hid _ := W12
    have HOW12 : Hid _ := OW12
    have HY12 : Hid _ := Y12
    have HOY12 : Hid _ := OY12
    clear B12 T12 W12 OW12 Y12 OY12
    go_wp2_with fail
    refine EQ.mono ?_
    rintro e w13 ⟨rfl, q13⟩
    have s13 := q13.size
    have B13 := HB12.out.trans (q13.mono HB12.out.size)
    have T13 := five_below HT12.out q13
    have W13 := five_below HW12.out q13
    have OW13 := ownG_below HOW12.out q13
    have Y13 := five_below HY12.out q13
    have OY13 := ownG_below HOY12.out q13
    clear EQ q13 HB12 HT12 HW12 HOW12 HY12 HOY12 y0 y1 y2 y3 y4 v0 v1 v2 v3 v4
    have MK := markGraph_any OY13 (HRR.out _ OY13.1) 1 (by decide)
    rw [show ((1 : Nat) : Int) = 1 from rfl] at MK
    obtain ⟨y0, y1, y2, y3, y4, _⟩ := five_cells Y13
    have HB13 : Hid _ := B13
    have HT13 : Hid _ := T13
    have HW13 : Hid _ := W13
    have HOW13 : Hid _ := OW13
    have HY13 : Hid _ := Y13
    clear B13 T13 W13 OW13 Y13 OY13
    go_wp2_with fail
    refine MK.mono ?_
    rintro e w14 ⟨kF, rfl, hkF, MD14, C14⟩
    have kF0 : ¬ (kF : Int) < 0 := by omega
    have kFF : ((kF : Int) != (kF : Int)) = false := by simp
    have fy : ∀ k ∈ gblk (.slice k1 l1 m1) (.slice k2 l2 m2) (.slice k3 l3 m3) rs7, X6.heap.size ≤ k ∧ k < P15 := HLY.out
    have s14 := C14.size
    have B14 := HB13.out.trans (below_ch C14 HB13.out.size (fun k hk => by have := (fy k hk).1; omega))
    have T14 := five_ch HT13.out C14 (fun e => by have := (fy _ e).1; omega)
    have W14 := five_ch HW13.out C14 (fun e => by have := (fy _ e).1; omega)
    have Y14 := five_ch HY13.out C14 (fun e => by have := (fy _ e).2; omega)
    have OW14 := ownG_ch HOW13.out C14 (fun k hk e => by have := (fy _ e).1; have := (HL4.out k hk).2; omega)
    clear MK C14 fy HB13 HT13 HW13 HOW13 HY13 y0 y1 y2 y3 y4
    have HE := heldGraph_any R.next R.seed MD14 (by decide)
    rw [show ((1 : Nat) : Int) = 1 from rfl] at HE
    obtain ⟨y0, y1, y2, y3, y4, _⟩ := five_cells Y14
    have HB14 : Hid _ := B14
    have HT14 : Hid _ := T14
    have HW14 : Hid _ := W14
    have HOW14 : Hid _ := OW14
    have HY14 : Hid _ := Y14
    have HMD14 : Hid _ := MD14
    clear B14 T14 W14 OW14 Y14 MD14
    go_wp2_with fail
    refine HE.mono ?_
    rintro e w15 ⟨rfl, q15⟩
    have B15 := HB14.out.trans (q15.mono HB14.out.size)
    have T15 := five_below HT14.out q15
    have W15 := five_below HW14.out q15
    have OW15 := ownG_below HOW14.out q15
    have Y15 := five_below HY14.out q15
    have MD15 := marked_below HMD14.out q15
    clear HE q15 HB14 HT14 HW14 HOW14 HY14 HMD14 y0 y1 y2 y3 y4
    -- the program's answer once more
    have TG := toGraph_any (graphAt_below HG.out B15) hsz
    obtain ⟨z0, z1, z2, z3, z4, _⟩ := five_cells T15
    have HB15 : Hid _ := B15
    have HW15 : Hid _ := W15
    have HOW15 : Hid _ := OW15
    have HY15 : Hid _ := Y15
    have HMD15 : Hid _ := MD15
    clear B15 T15 W15 OW15 Y15 MD15
    go_wp2_with fail
    refine TG.mono ?_
    rintro e w16 ⟨o16, r16, m16, rs16, rfl, O16, q16⟩
    have B16 := HB15.out.trans (q16.mono HB15.out.size)
    have W16 := five_below HW15.out q16
    have OW16 := ownG_below HOW15.out q16
    have Y16 := five_below HY15.out q16
    have MD16 := marked_below HMD15.out q16
    obtain ⟨t1, t2, t3, t4, t5, t6, t7, t8, t9, e1, e2, e3⟩ := graphAt_slices (ownG_at O16)
    subst e1 e2 e3
    have IM := IMPL w16 _ _ _ _ (ownG_at O16) (gSize_of O16.1 HG.out.1 hsz)
    have HB16 : Hid _ := B16
    have HW16 : Hid _ := W16
    have HOW16 : Hid _ := OW16
    have HY16 : Hid _ := Y16
    have HMD16 : Hid _ := MD16
    clear TG q16 B16 W16 OW16 Y16 MD16 O16 HB15 HW15 HOW15 HY15 HMD15 z0 z1 z2 z3 z4
    go_wp2_with fail
    refine IM.mono ?_
    rintro e w17 ⟨o17, r17, m17, rs17, rfl, O17, q17⟩
    have B17 := HB16.out.trans (q17.mono HB16.out.size)
    have W17 := five_below HW16.out q17
    have OW17 := ownG_below HOW16.out q17
    have Y17 := five_below HY16.out q17
    have MD17 := marked_below HMD16.out q17
    obtain ⟨t1, t2, t3, t4, t5, t6, t7, t8, t9, e1, e2, e3⟩ := graphAt_slices (ownG_at O17)
    subst e1 e2 e3
    have N17 := (Below.refl w17.heap.size w17).alloc (Nat.le_refl _) (gb (.slice t1 t2 t3) (.slice t4 t5 t6) (.slice t7 t8 t9) R.next R.seed)
    have B18 := B17.trans (N17.mono B17.size)
    have W18 := five_below W17 N17
    have OW18 := ownG_below OW17 N17
    have Y18 := five_below Y17 N17
    have MD18 := marked_below MD17 N17
    have V18 := five_new w17 30 (.slice t1 t2 t3) (.slice t4 t5 t6) (.slice t7 t8 t9) (.int .i64 R.next) (.int .i64 R.seed)
    have O18 := ownG_below O17 N17
    have EQ := eqGraph_same (ownG_at O18) (ownG_at OW18) (HRR.out _ O18.1)
    obtain ⟨v0, v1, v2, v3, v4, _⟩ := five_cells W18
    obtain ⟨y0, y1, y2, y3, y4, _⟩ := five_cells V18
    have HB18 : Hid _ := B18
    have HY18 : Hid _ := Y18
    have HMD18 : Hid _ := MD18
    clear IM q17 B17 W17 OW17 Y17 MD17 N17 B18 W18 OW18 Y18 MD18 V18 O18 O17 HB16 HW16 HOW16 HY16 HMD16
    go_wp2_with fail
    generalize hX18 : (w17.alloc (gb (.slice t1 t2 t3) (.slice t4 t5 t6) (.slice t7 t8 t9) R.next R.seed)) = X18 at *
    clear hX18
    refine EQ.mono ?_
    rintro e w19 ⟨rfl, q19⟩
    have B19 := HB18.out.trans (q19.mono HB18.out.size)
    have Y19 := five_below HY18.out q19
    have HE := heldGraph_any R.next R.seed (marked_below HMD18.out q19) (by decide)
    rw [show ((1 : Nat) : Int) = 1 from rfl] at HE
    clear EQ q19 HB18 HY18 HMD18 y0 y1 y2 y3 y4 v0 v1 v2 v3 v4
    obtain ⟨y0, y1, y2, y3, y4, _⟩ := five_cells Y19
    have HB19 : Hid _ := B19
    clear B19 Y19
    go_wp2_with fail
    refine HE.mono ?_
    rintro e w20 ⟨rfl, q20⟩
    have HB20 : Hid _ := HB19.out.trans (q20.mono HB19.out.size)
    clear HE q20 HB19
    go_wp2
    go_ret
    exact ⟨rfl, HB20⟩
end Go.Proofs.Ythldaifnlnbpgaa.gr
