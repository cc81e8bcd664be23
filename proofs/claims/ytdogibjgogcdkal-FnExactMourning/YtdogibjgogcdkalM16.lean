/-
  The walk of the law FnExactCollected, given what the program's and the specification's Collected answer. Chapter 7: what is collected, as lists: weak slots that hold what is not kept are made nil, and what is not kept is left out. Chapter 7: a graph of the call's own whose rows are known: a slot made nil, objects left out. Chapter 7: an object and a ref in boxes of their own. Chapter 7 as the program has it: loosen. Chapter 7 as the program has it: keep, and the change that Collected makes.
-/
import Derived.Test.YtdogibjgogcdkalM3
import Derived.Test.YtdogibjgogcdkalM13
import Derived.Test.YtdogibjgogcdkalM8
import Derived.Test.YtdogibjgogcdkalM14
import Derived.Test.YtdogibjgogcdkalM7
namespace Go.Proofs.Ytdogibjgogcdkal.gr
open Go.RowKit rows heads
set_option maxRecDepth 100000

set_option maxHeartbeats 16000000 in
theorem exactCollected {G R : Gr} 
    (SPEC : ∀ (w : World) (o r m : Value) (ms : List MO), GraphAt w o r m ms G → gSize ms G ≤ 1048576 → Calls Try.prog 22 #[gv o r m G.next G.seed] w fun e w' => ∃ (o' r' m' : Value) (rs : List MO), e = .returned (gv o' r' m' R.next R.seed) ∧ OwnG w' w.heap.size o' r' m' rs R ∧ Below w.heap.size w w')
    (IMPL : ∀ (w : World) (o r m : Value) (ms : List MO), GraphAt w o r m ms G → gSize ms G ≤ 1048576 → Calls Try.prog 23 #[gv o r m G.next G.seed] w fun e w' => ∃ (o' r' m' : Value) (rs : List MO), e = .returned (gv o' r' m' R.next R.seed) ∧ OwnG w' w.heap.size o' r' m' rs R ∧ Below w.heap.size w w')
    (hR : (∃ ms : List MO, ms.map MO.abs = G.objs ∧ gSize ms G ≤ 1048576) → ∀ rs : List MO, rs.map MO.abs = R.objs → gSize rs R ≤ 1048576)
    (w : World) (o r m : Value) (ms : List MO) (h : GraphAt w o r m ms G) :
    Calls Try.prog 6 #[gv o r m G.next G.seed] w fun e w' => e = .returned (.bool true) ∧ Below w.heap.size w w' := by
  obtain ⟨a1, n1, c1, a2, n2, c2, a3, n3, c3, e1, e2, e3⟩ := graphAt_slices h
  subst e1 e2 e3
  have B0 : Below w.heap.size w (w.alloc (.cells #[.slice a1 n1 c1, .slice a2 n2 c2, .slice a3 n3 c3, .int .i64 G.next, .int .i64 G.seed] 25)) := (Below.refl _ w).alloc (Nat.le_refl _) _
  have T0 := five_new w 25 (.slice a1 n1 c1) (.slice a2 n2 c2) (.slice a3 n3 c3) (.int .i64 G.next) (.int .i64 G.seed)
  have SZ := szGraph_any (graphAt_below h B0) 1048576 (Nat.le_refl _)
  have HG : Hid _ := h
  have HB0 : Hid _ := B0
  have HT0 : Hid _ := T0
  clear B0 T0 h
  go_enter Try.func6, Try.ntmps6
  go_wp2_with fail
  generalize (w.alloc (Obj.cells #[.slice a1 n1 c1, .slice a2 n2 c2, .slice a3 n3 c3, .int .i64 G.next, .int .i64 G.seed] 25)) = X0 at *
  refine SZ.mono ?_
  rintro e w1 ⟨rfl, q1⟩
  have B1 := HB0.out.trans (q1.mono HB0.out.size)
  have T1 := five_below HT0.out q1
  clear SZ HB0 HT0 q1
  by_cases hsz : gSize ms G ≤ 1048576
  case neg =>
    rw [if_neg hsz]
    have HB : Hid _ := B1
    clear B1 T1 HG
    go_wp2
    go_ret
    exact ⟨rfl, HB⟩
  rw [if_pos hsz]
  obtain ⟨lf, hlf⟩ : ∃ lf : Nat, ((1048576 : Nat) : Int) - (gSize ms G : Int) = (lf : Int) := ⟨1048576 - gSize ms G, by omega⟩
  rw [hlf]
  have hl0 : ¬ (lf : Int) < 0 := by omega
  have hRR := hR ⟨ms, HG.out.1, hsz⟩
  have HRR : Hid _ := hRR
  clear hlf hRR hR
  obtain ⟨z0, z1, z2, z3, z4, _⟩ := five_cells T1
  -- the specification's answer
  have TG := toGraph_any (graphAt_below HG.out B1) hsz
  have HT1 : Hid _ := T1
  have HB1 : Hid _ := B1
  clear T1 B1
  go_wp2_with fail
  refine TG.mono ?_
  rintro e w2 ⟨o2, r2, m2, rs2, rfl, O2, q2⟩
  have B2 := HB1.out.trans (q2.mono HB1.out.size)
  have T2 := five_below HT1.out q2
  obtain ⟨d1, f1, g1, d2, f2, g2, d3, f3, g3, e1, e2, e3⟩ := graphAt_slices (ownG_at O2)
  subst e1 e2 e3
  have SP := SPEC w2 _ _ _ _ (ownG_at O2) (gSize_of O2.1 HG.out.1 hsz)
  have HT2 : Hid _ := T2
  have HB2 : Hid _ := B2
  clear TG q2 T2 B2 HT1 HB1 O2 SPEC z0 z1 z2 z3 z4
  go_wp2_with fail
  refine SP.mono ?_
  rintro e w3 ⟨o3, r3, m3, rs3, rfl, O3, q3⟩
  have B3 := HB2.out.trans (q3.mono HB2.out.size)
  have T3 := five_below HT2.out q3
  obtain ⟨d1, f1, g1, d2, f2, g2, d3, f3, g3, e1, e2, e3⟩ := graphAt_slices (ownG_at O3)
  subst e1 e2 e3
  have N3 := (Below.refl w3.heap.size w3).alloc (Nat.le_refl _) (gb (.slice d1 f1 g1) (.slice d2 f2 g2) (.slice d3 f3 g3) R.next R.seed)
  have B4 := B3.trans (N3.mono B3.size)
  have T4 := five_below T3 N3
  have W4 := five_new w3 32 (.slice d1 f1 g1) (.slice d2 f2 g2) (.slice d3 f3 g3) (.int .i64 R.next) (.int .i64 R.seed)
  have O4 := ownG_below O3 N3
  have L4 := ownG_lt O3
  have p5 := lt_of_block T4
  obtain ⟨z0, z1, z2, z3, z4, _⟩ := five_cells T4
  have TG := toGraph_any (graphAt_below HG.out B4) hsz
  have p12 : w3.heap.size < (w3.alloc (gb (.slice d1 f1 g1) (.slice d2 f2 g2) (.slice d3 f3 g3) R.next R.seed)).heap.size := by simp
  have HT4 : Hid _ := T4
  have HB4 : Hid _ := B4
  have HW4 : Hid _ := W4
  have HO4 : Hid _ := O4
  have HL4 : Hid _ := L4
  clear SP HT2 HB2 B3 T3 N3 B4 T4 W4 O4 O3 q3 L4
  go_wp2_with fail
  generalize hX4 : (w3.alloc (gb (.slice d1 f1 g1) (.slice d2 f2 g2) (.slice d3 f3 g3) R.next R.seed)) = X4 at *
  generalize hP12 : w3.heap.size = P12 at *
  clear hX4
  refine TG.mono ?_
  rintro e w5 ⟨o5, r5, m5, rs5, rfl, O5, q5⟩
  have s5 := q5.size
  have B5 := HB4.out.trans (q5.mono HB4.out.size)
  have T5 := five_below HT4.out q5
  have W5 := five_below HW4.out q5
  have OW5 := ownG_below HO4.out q5
  obtain ⟨h1, i1, j1, h2, i2, j2, h3, i3, j3, e1, e2, e3⟩ := graphAt_slices (ownG_at O5)
  subst e1 e2 e3
  have N5 := (Below.refl w5.heap.size w5).alloc (Nat.le_refl _) (gb (.slice h1 i1 j1) (.slice h2 i2 j2) (.slice h3 i3 j3) G.next G.seed)
  have B6 := B5.trans (N5.mono B5.size)
  have T6 := five_below T5 N5
  have W6 := five_below W5 N5
  have OW6 := ownG_below OW5 N5
  have X6f := five_new w5 32 (.slice h1 i1 j1) (.slice h2 i2 j2) (.slice h3 i3 j3) (.int .i64 G.next) (.int .i64 G.seed)
  have OX6 := ownG_below O5 N5
  have LX := ownG_lt O5
  obtain ⟨x0, x1, x2, x3, x4, _⟩ := five_cells X6f
  have IM := IMPL _ _ _ _ _ (ownG_at OX6) (gSize_of OX6.1 HG.out.1 hsz)
  have p14 : w5.heap.size < (w5.alloc (gb (.slice h1 i1 j1) (.slice h2 i2 j2) (.slice h3 i3 j3) G.next G.seed)).heap.size := by simp
  have HB6 : Hid _ := B6
  have HT6 : Hid _ := T6
  have HW6 : Hid _ := W6
  have HOW6 : Hid _ := OW6
  have HX6 : Hid _ := X6f
  have HOX6 : Hid _ := OX6
  have HLX : Hid _ := LX
  clear TG HB4 HT4 HW4 HO4 q5 B5 T5 W5 OW5 N5 B6 T6 W6 OW6 X6f OX6 LX O5 z0 z1 z2 z3 z4
  -- the program's answer
  go_wp2_with fail
  generalize hX6 : (w5.alloc (gb (.slice h1 i1 j1) (.slice h2 i2 j2) (.slice h3 i3 j3) G.next G.seed)) = X6 at *
  generalize hP14 : w5.heap.size = P14 at *
  clear hX6
  refine IM.mono ?_
  rintro e w7 ⟨o7, r7, m7, rs7, rfl, O7, q7⟩
  have s7 := q7.size
  have B7 := HB6.out.trans (q7.mono HB6.out.size)
  have T7 := five_below HT6.out q7
  have W7 := five_below HW6.out q7
  have OW7 := ownG_below HOW6.out q7
  have X7 := five_below HX6.out q7
  have OX7 := ownG_below HOX6.out q7
  obtain ⟨k1, l1, m1, k2, l2, m2, k3, l3, m3, e1, e2, e3⟩ := graphAt_slices (ownG_at O7)
  subst e1 e2 e3
  have N7 := (Below.refl w7.heap.size w7).alloc (Nat.le_refl _) (gb (.slice k1 l1 m1) (.slice k2 l2 m2) (.slice k3 l3 m3) R.next R.seed)
  have B8 := B7.trans (N7.mono B7.size)
  have T8 := five_below T7 N7
  have W8 := five_below W7 N7
  have OW8 := ownG_below OW7 N7
  have X8f := five_below X7 N7
  have OX8 := ownG_below OX7 N7
  have Y8 := five_new w7 32 (.slice k1 l1 m1) (.slice k2 l2 m2) (.slice k3 l3 m3) (.int .i64 R.next) (.int .i64 R.seed)
  have OY8 := ownG_below O7 N7
  have LY := ownG_lt O7
  have p15 : w7.heap.size < (w7.alloc (gb (.slice k1 l1 m1) (.slice k2 l2 m2) (.slice k3 l3 m3) R.next R.seed)).heap.size := by simp
  have EQ := eqGraph_same (ownG_at OY8) (ownG_at OW8) (HRR.out _ OY8.1)
  clear x0 x1 x2 x3 x4
  obtain ⟨y0, y1, y2, y3, y4, _⟩ := five_cells Y8
  obtain ⟨v0, v1, v2, v3, v4, _⟩ := five_cells W8
  have HB8 : Hid _ := B8
  have HT8 : Hid _ := T8
  have HW8 : Hid _ := W8
  have HOW8 : Hid _ := OW8
  have HX8 : Hid _ := X8f
  have HOX8 : Hid _ := OX8
  have HY8 : Hid _ := Y8
  have HOY8 : Hid _ := OY8
  have HLY : Hid _ := LY
  clear IM HB6 HT6 HW6 HOW6 HX6 HOX6 q7 B7 T7 W7 OW7 X7 OX7 N7 B8 T8 W8 OW8 X8f OX8 Y8 OY8 LY O7
  go_wp2_with fail
  generalize hX8 : (w7.alloc (gb (.slice k1 l1 m1) (.slice k2 l2 m2) (.slice k3 l3 m3) R.next R.seed)) = X8 at *
  generalize hP15 : w7.heap.size = P15 at *
  clear hX8
  refine EQ.mono ?_
  rintro e w9 ⟨rfl, q9⟩
  have s9 := q9.size
  have B9 := HB8.out.trans (q9.mono HB8.out.size)
  have T9 := five_below HT8.out q9
  have W9 := five_below HW8.out q9
  have OW9 := ownG_below HOW8.out q9
  have X9 := five_below HX8.out q9
  have OX9 := ownG_below HOX8.out q9
  have Y9 := five_below HY8.out q9
  have OY9 := ownG_below HOY8.out q9
  clear EQ HB8 HT8 HW8 HOW8 HX8 HOX8 HY8 HOY8 q9 y0 y1 y2 y3 y4 v0 v1 v2 v3 v4
  -- the argument is as it was
  have D9 : Below w9.heap.size w9 w9.drew := (Below.refl _ w9).drew
  have TG := toGraph_any (w := w9.drew) (graphAt_below HG.out B9.drew) hsz
  obtain ⟨z0, z1, z2, z3, z4, _⟩ := five_cells T9
  obtain ⟨x0, x1, x2, x3, x4, _⟩ := five_cells X9
  have z0d : w9.drew.cell? ⟨w.heap.size, 0, none⟩ = some (.slice a1 n1 c1) := z0
  have HB9 : Hid _ := B9
  have HT9 : Hid _ := T9
  have HW9 : Hid _ := W9
  have HOW9 : Hid _ := OW9
  have HX9 : Hid _ := X9
  have HOX9 : Hid _ := OX9
  have HY9 : Hid _ := Y9
  have HOY9 : Hid _ := OY9
  clear B9 T9 W9 OW9 X9 OX9 Y9 OY9 D9 z0d
  go_wp2_with fail
  go_region_law (first
    | (go_simp; go_at_call 10; refine TG.mono ?_; clear TG; rintro e w10 ⟨o10, r10, m10, rs10, rfl, O10, q10⟩
       obtain ⟨u1, u2, u3, u4, u5, u6, u7, u8, u9, e1, e2, e3⟩ := graphAt_slices (ownG_at O10)
       subst e1 e2 e3
       have D10 : Below w9.heap.size w9 w10 := ⟨q10.os, q10.tape, q10.output, q10.size, q10.block⟩
       have EQ2 := eqGraph_same (ownG_at (ownG_below HOX9.out D10)) (ownG_at O10) (gSize_of HOX9.out.1 HG.out.1 hsz)
       have X10 := five_below HX9.out D10
       obtain ⟨t0, t1, t2, t3, t4, _⟩ := five_cells X10
       have HD10 : Hid _ := D10
       clear q10 D10 O10 X10)
    | (go_simp; go_at_call 13; refine EQ2.mono ?_; clear EQ2; rintro e w11 ⟨rfl, q11⟩; have HD11 : Hid _ := HD10.out.trans (q11.mono HD10.out.size); clear q11 HD10))
  all_goals
    have D11 := HD11.out
    have B11 := HB9.out.trans (D11.mono HB9.out.size)
    have T11 := five_below HT9.out D11
    have W11 := five_below HW9.out D11
    have OW11 := ownG_below HOW9.out D11
    have X11 := five_below HX9.out D11
    have OX11 := ownG_below HOX9.out D11
    have Y11 := five_below HY9.out D11
    have OY11 := ownG_below HOY9.out D11
    have s11 := D11.size
    clear HD11 HB9 HT9 HW9 HOW9 HX9 HOX9 HY9 HOY9 D11 z0 z1 z2 z3 z4 x0 x1 x2 x3 x4
    have MK := markGraph_any OX11 (gSize_of OX11.1 HG.out.1 hsz) 1 (by decide)
    rw [show ((1 : Nat) : Int) = 1 from rfl] at MK
    obtain ⟨x0, x1, x2, x3, x4, _⟩ := five_cells X11
    have HB11 : Hid _ := B11
    have HT11 : Hid _ := T11
    have HW11 : Hid _ := W11
    have HOW11 : Hid _ := OW11
    have HY11 : Hid _ := Y11
    have HOY11 : Hid _ := OY11
    clear B11 T11 W11 OW11 X11 OX11 Y11 OY11
    go_wp2_with fail
    refine MK.mono ?_
    rintro e w12 ⟨kE, rfl, hkE, -, C12⟩
    have kE0 : ¬ (kE : Int) < 0 := by omega
    have fx : ∀ k ∈ gblk (.slice h1 i1 j1) (.slice h2 i2 j2) (.slice h3 i3 j3) rs5, X4.heap.size ≤ k ∧ k < P14 := HLX.out
    have s12 := C12.size
    have B12 := HB11.out.trans (below_ch C12 HB11.out.size (fun k hk => by have := (fx k hk).1; omega))
    have T12 := five_ch HT11.out C12 (fun e => by have := (fx _ e).1; omega)
    have W12 := five_ch HW11.out C12 (fun e => by have := (fx _ e).1; omega)
    have Y12 := five_ch HY11.out C12 (fun e => by have := (fx _ e).2; omega)
    have OW12 := ownG_ch HOW11.out C12 (fun k hk e => by have := (fx _ e).1; have := (HL4.out k hk).2; omega)
    have OY12 := ownG_ch HOY11.out C12 (fun k hk e => by have := (fx _ e).2; have := (HLY.out k hk).1; omega)
    clear MK C12 fx HB11 HT11 HW11 HOW11 HY11 HOY11 x0 x1 x2 x3 x4
    have EQ := eqGraph_same (ownG_at OY12) (ownG_at OW12) (HRR.out _ OY12.1)
    obtain ⟨y0, y1, y2, y3, y4, _⟩ := five_cells Y12
    obtain ⟨v0, v1, v2, v3, v4, _⟩ := five_cells W12
    have HB12 : Hid _ := B12
    have HT12 : Hid _ := T12
    have HW12 : Hid _ := W12
    have HOW12 : Hid _ := OW12
    have HY12 : Hid _ := Y12
    have HOY12 : Hid _ := OY12
    clear B12 T12 W12 OW12 Y12 OY12
    go_wp2_with fail
    refine EQ.mono ?_
    rintro e w13 ⟨rfl, q13⟩
    have s13 := q13.size
    have B13 := HB12.out.trans (q13.mono HB12.out.size)
    have T13 := five_below HT12.out q13
    have W13 := five_below HW12.out q13
    have OW13 := ownG_below HOW12.out q13
    have Y13 := five_below HY12.out q13
    have OY13 := ownG_below HOY12.out q13
    clear EQ q13 HB12 HT12 HW12 HOW12 HY12 HOY12 y0 y1 y2 y3 y4 v0 v1 v2 v3 v4
    have MK := markGraph_any OY13 (HRR.out _ OY13.1) 1 (by decide)
    rw [show ((1 : Nat) : Int) = 1 from rfl] at MK
    obtain ⟨y0, y1, y2, y3, y4, _⟩ := five_cells Y13
    have HB13 : Hid _ := B13
    have HT13 : Hid _ := T13
    have HW13 : Hid _ := W13
    have HOW13 : Hid _ := OW13
    have HY13 : Hid _ := Y13
    clear B13 T13 W13 OW13 Y13 OY13
    go_wp2_with fail
    refine MK.mono ?_
    rintro e w14 ⟨kF, rfl, hkF, MD14, C14⟩
    have kF0 : ¬ (kF : Int) < 0 := by omega
    have kFF : ((kF : Int) != (kF : Int)) = false := by simp
    have fy : ∀ k ∈ gblk (.slice k1 l1 m1) (.slice k2 l2 m2) (.slice k3 l3 m3) rs7, X6.heap.size ≤ k ∧ k < P15 := HLY.out
    have s14 := C14.size
    have B14 := HB13.out.trans (below_ch C14 HB13.out.size (fun k hk => by have := (fy k hk).1; omega))
    have T14 := five_ch HT13.out C14 (fun e => by have := (fy _ e).1; omega)
    have W14 := five_ch HW13.out C14 (fun e => by have := (fy _ e).1; omega)
    have Y14 := five_ch HY13.out C14 (fun e => by have := (fy _ e).2; omega)
    have OW14 := ownG_ch HOW13.out C14 (fun k hk e => by have := (fy _ e).1; have := (HL4.out k hk).2; omega)
    clear MK C14 fy HB13 HT13 HW13 HOW13 HY13 y0 y1 y2 y3 y4
    have HE := heldGraph_any R.next R.seed MD14 (by decide)
    rw [show ((1 : Nat) : Int) = 1 from rfl] at HE
    obtain ⟨y0, y1, y2, y3, y4, _⟩ := five_cells Y14
    have HB14 : Hid _ := B14
    have HT14 : Hid _ := T14
    have HW14 : Hid _ := W14
    have HOW14 : Hid _ := OW14
    have HY14 : Hid _ := Y14
    have HMD14 : Hid _ := MD14
    clear B14 T14 W14 OW14 Y14 MD14
    go_wp2_with fail
    refine HE.mono ?_
    rintro e w15 ⟨rfl, q15⟩
    have B15 := HB14.out.trans (q15.mono HB14.out.size)
    have T15 := five_below HT14.out q15
    have W15 := five_below HW14.out q15
    have OW15 := ownG_below HOW14.out q15
    have Y15 := five_below HY14.out q15
    have MD15 := marked_below HMD14.out q15
    clear HE q15 HB14 HT14 HW14 HOW14 HY14 HMD14 y0 y1 y2 y3 y4
    -- the program's answer once more
    have TG := toGraph_any (graphAt_below HG.out B15) hsz
    obtain ⟨z0, z1, z2, z3, z4, _⟩ := five_cells T15
    have HB15 : Hid _ := B15
    have HW15 : Hid _ := W15
    have HOW15 : Hid _ := OW15
    have HY15 : Hid _ := Y15
    have HMD15 : Hid _ := MD15
    clear B15 T15 W15 OW15 Y15 MD15
    go_wp2_with fail
    refine TG.mono ?_
    rintro e w16 ⟨o16, r16, m16, rs16, rfl, O16, q16⟩
    have B16 := HB15.out.trans (q16.mono HB15.out.size)
    have W16 := five_below HW15.out q16
    have OW16 := ownG_below HOW15.out q16
    have Y16 := five_below HY15.out q16
    have MD16 := marked_below HMD15.out q16
    obtain ⟨t1, t2, t3, t4, t5, t6, t7, t8, t9, e1, e2, e3⟩ := graphAt_slices (ownG_at O16)
    subst e1 e2 e3
    have IM := IMPL w16 _ _ _ _ (ownG_at O16) (gSize_of O16.1 HG.out.1 hsz)
    have HB16 : Hid _ := B16
    have HW16 : Hid _ := W16
    have HOW16 : Hid _ := OW16
    have HY16 : Hid _ := Y16
    have HMD16 : Hid _ := MD16
    clear TG q16 B16 W16 OW16 Y16 MD16 O16 HB15 HW15 HOW15 HY15 HMD15 z0 z1 z2 z3 z4
    go_wp2_with fail
    refine IM.mono ?_
    rintro e w17 ⟨o17, r17, m17, rs17, rfl, O17, q17⟩
    have B17 := HB16.out.trans (q17.mono HB16.out.size)
    have W17 := five_below HW16.out q17
    have OW17 := ownG_below HOW16.out q17
    have Y17 := five_below HY16.out q17
    have MD17 := marked_below HMD16.out q17
    obtain ⟨t1, t2, t3, t4, t5, t6, t7, t8, t9, e1, e2, e3⟩ := graphAt_slices (ownG_at O17)
    subst e1 e2 e3
    have N17 := (Below.refl w17.heap.size w17).alloc (Nat.le_refl _) (gb (.slice t1 t2 t3) (.slice t4 t5 t6) (.slice t7 t8 t9) R.next R.seed)
    have B18 := B17.trans (N17.mono B17.size)
    have W18 := five_below W17 N17
    have OW18 := ownG_below OW17 N17
    have Y18 := five_below Y17 N17
    have MD18 := marked_below MD17 N17
    have V18 := five_new w17 32 (.slice t1 t2 t3) (.slice t4 t5 t6) (.slice t7 t8 t9) (.int .i64 R.next) (.int .i64 R.seed)
    have O18 := ownG_below O17 N17
    have EQ := eqGraph_same (ownG_at O18) (ownG_at OW18) (HRR.out _ O18.1)
    obtain ⟨v0, v1, v2, v3, v4, _⟩ := five_cells W18
    obtain ⟨y0, y1, y2, y3, y4, _⟩ := five_cells V18
    have HB18 : Hid _ := B18
    have HY18 : Hid _ := Y18
    have HMD18 : Hid _ := MD18
    clear IM q17 B17 W17 OW17 Y17 MD17 N17 B18 W18 OW18 Y18 MD18 V18 O18 O17 HB16 HW16 HOW16 HY16 HMD16
    go_wp2_with fail
    generalize hX18 : (w17.alloc (gb (.slice t1 t2 t3) (.slice t4 t5 t6) (.slice t7 t8 t9) R.next R.seed)) = X18 at *
    clear hX18
    refine EQ.mono ?_
    rintro e w19 ⟨rfl, q19⟩
    have B19 := HB18.out.trans (q19.mono HB18.out.size)
    have Y19 := five_below HY18.out q19
    have HE := heldGraph_any R.next R.seed (marked_below HMD18.out q19) (by decide)
    rw [show ((1 : Nat) : Int) = 1 from rfl] at HE
    clear EQ q19 HB18 HY18 HMD18 y0 y1 y2 y3 y4 v0 v1 v2 v3 v4
    obtain ⟨y0, y1, y2, y3, y4, _⟩ := five_cells Y19
    have HB19 : Hid _ := B19
    clear B19 Y19
    go_wp2_with fail
    refine HE.mono ?_
    rintro e w20 ⟨rfl, q20⟩
    have HB20 : Hid _ := HB19.out.trans (q20.mono HB19.out.size)
    clear HE q20 HB19
    go_wp2
    go_ret
    exact ⟨rfl, HB20⟩
end Go.Proofs.Ytdogibjgogcdkal.gr
namespace Go.Proofs.Ytdogibjgogcdkal.gr
open Go.RowKit rows heads

/-- Does this ref lead to what is not kept? -/
def looseB (os : List Ob) (f : Nat → Bool) (e : Rf) : Bool := e.1 == 2 && !(f (atI os e.2).toNat)
def looseE (os : List Ob) (f : Nat → Bool) (e : Rf) : Rf := if looseB os f e = true then refD else e
def looseO (os : List Ob) (f : Nat → Bool) (o : Ob) : Ob := if o.fmt = 1 then { o with slots := o.slots.map (looseE os f) } else o
/-- The object at a place, loosened if it is kept. -/
def looseP (os : List Ob) (f : Nat → Bool) (p : Nat) : Ob := if f p = true then looseO os f (os.getD p obD) else os.getD p obD
/-- The objects, the first k of them loosened. -/
def looseK (os : List Ob) (f : Nat → Bool) (k : Nat) : List Ob := (List.range os.length).map fun p => if p < k then looseP os f p else os.getD p obD
/-- .. and the first i slots of the next one, too. -/
def looseI (os : List Ob) (f : Nat → Bool) (k i : Nat) : List Ob := (looseK os f k).set k { os.getD k obD with slots := ((os.getD k obD).slots.take i).map (looseE os f) ++ (os.getD k obD).slots.drop i }
/-- What is kept. -/
def collO (os : List Ob) (f : Nat → Bool) (k : Nat) : List Ob := ((List.range k).filter f).map fun p => looseO os f (os.getD p obD)
def collG (G : Gr) (f : Nat → Bool) : Gr := { G with objs := collO G.objs f G.objs.length }
/-- R is what is collected of G. -/
def Collects (G R : Gr) : Prop := ∃ X f, Mourns G X ∧ (∀ p, f p = true ↔ Rch X p) ∧ R = collG X f

theorem looseK_len (os : List Ob) (f : Nat → Bool) (k : Nat) : (looseK os f k).length = os.length := by simp [looseK]
theorem looseI_len (os : List Ob) (f : Nat → Bool) (k i : Nat) : (looseI os f k i).length = os.length := by simp [looseI, looseK_len]
theorem range_map_getD {n p : Nat} {g : Nat → Ob} (hp : p < n) : ((List.range n).map g).getD p obD = g p := by
  rw [List.getD_eq_getElem?_getD, List.getElem?_map, List.getElem?_range hp]
  rfl
theorem looseK_getD {os : List Ob} {f : Nat → Bool} {k p : Nat} (hp : p < os.length) : (looseK os f k).getD p obD = if p < k then looseP os f p else os.getD p obD := range_map_getD hp
theorem obs_ext {l l' : List Ob} (h : l.length = l'.length) (he : ∀ p, p < l.length → l.getD p obD = l'.getD p obD) : l = l' := by
  apply List.ext_getElem h
  intro i h1 h2
  have := he i h1
  rw [List.getD_eq_getElem?_getD, List.getD_eq_getElem?_getD, List.getElem?_eq_getElem h1, List.getElem?_eq_getElem h2] at this
  exact this
theorem looseK_zero (os : List Ob) (f : Nat → Bool) : looseK os f 0 = os := by
  refine obs_ext (looseK_len _ _ _) fun p hp => ?_
  rw [looseK_len] at hp
  rw [looseK_getD hp, if_neg (Nat.not_lt_zero _)]
theorem set_getD_ob {l : List Ob} {k p : Nat} {o : Ob} (hk : k < l.length) : (l.set k o).getD p obD = if p = k then o else l.getD p obD := by
  rw [List.getD_eq_getElem?_getD, List.getElem?_set, List.getD_eq_getElem?_getD]
  by_cases e : p = k
  · subst e; simp [hk]
  · rw [if_neg (fun h => e h.symm), if_neg e]
theorem looseI_getD {os : List Ob} {f : Nat → Bool} {k i p : Nat} (hk : k < os.length) (hp : p < os.length) : (looseI os f k i).getD p obD = if p = k then { os.getD k obD with slots := ((os.getD k obD).slots.take i).map (looseE os f) ++ (os.getD k obD).slots.drop i } else if p < k then looseP os f p else os.getD p obD := by
  unfold looseI
  rw [set_getD_ob (by rw [looseK_len]; exact hk), looseK_getD hp]
/-- Nothing is to be loosened there. -/
theorem looseK_skip {os : List Ob} {f : Nat → Bool} {k : Nat} (hk : k < os.length) (h : f k = false ∨ ¬ (os.getD k obD).fmt = 1) : looseK os f (k + 1) = looseK os f k := by
  refine obs_ext (by rw [looseK_len, looseK_len]) fun p hp => ?_
  rw [looseK_len] at hp
  rw [looseK_getD hp, looseK_getD hp]
  by_cases e : p = k
  · subst e
    rw [if_pos (Nat.lt_succ_self _), if_neg (Nat.lt_irrefl _)]
    unfold looseP looseO
    rcases h with h | h
    · rw [if_neg (by rw [h]; simp)]
    · rw [if_neg h]; simp
  · by_cases h' : p < k
    · rw [if_pos (by omega), if_pos h']
    · rw [if_neg (by omega), if_neg h']
theorem looseI_zero {os : List Ob} {f : Nat → Bool} {k : Nat} (hk : k < os.length) : looseI os f k 0 = looseK os f k := by
  refine obs_ext (by rw [looseI_len, looseK_len]) fun p hp => ?_
  rw [looseI_len] at hp
  rw [looseI_getD hk hp, looseK_getD hp]
  by_cases e : p = k
  · subst e; simp
  · rw [if_neg e]
theorem looseI_all {os : List Ob} {f : Nat → Bool} {k : Nat} (hk : k < os.length) (h1 : f k = true) (h2 : (os.getD k obD).fmt = 1) : looseI os f k (os.getD k obD).slots.length = looseK os f (k + 1) := by
  refine obs_ext (by rw [looseI_len, looseK_len]) fun p hp => ?_
  rw [looseI_len] at hp
  rw [looseI_getD hk hp, looseK_getD hp]
  by_cases e : p = k
  · subst e
    rw [if_pos rfl, if_pos (Nat.lt_succ_self _)]
    unfold looseP looseO
    rw [if_pos h1, if_pos h2]
    simp
  · rw [if_neg e]
    by_cases h' : p < k
    · rw [if_pos h', if_pos (by omega)]
    · rw [if_neg h', if_neg (by omega)]
theorem take_map_set {l : List Rf} {g : Rf → Rf} {i : Nat} (hi : i < l.length) : ((l.take i).map g ++ l.drop i).set i (g (l.getD i refD)) = (l.take (i + 1)).map g ++ l.drop (i + 1) := by
  apply List.ext_getElem?
  intro j
  simp only [List.getElem?_set, List.getElem?_append, List.length_map, List.length_take, List.getElem?_map, List.getElem?_take, List.getElem?_drop, List.length_append, List.length_drop, List.getD_eq_getElem?_getD]
  grind
theorem take_map_get {l : List Rf} {g : Rf → Rf} {i : Nat} : ((l.take i).map g ++ l.drop i).getD i refD = l.getD i refD := by
  rw [List.getD_eq_getElem?_getD, List.getD_eq_getElem?_getD, List.getElem?_append]
  simp only [List.length_map, List.length_take, List.getElem?_drop]
  grind
/-- The slot is made nil, or stays. -/
theorem looseI_next {os : List Ob} {f : Nat → Bool} {k i : Nat} (hk : k < os.length) (hi : i < (os.getD k obD).slots.length) :
    looseI os f k (i + 1) = if looseB os f ((os.getD k obD).slots.getD i refD) = true then setSlot (looseI os f k i) k i refD else looseI os f k i := by
  have hl := looseI_len os f k i
  have hg := looseI_getD (f := f) (i := i) hk hk
  rw [if_pos rfl] at hg
  have key : setSlot (looseI os f k i) k i (looseE os f ((os.getD k obD).slots.getD i refD)) = looseI os f k (i + 1) := by
    refine obs_ext (by simp [setSlot, looseI_len]) fun p hp => ?_
    have hp' : p < os.length := by simpa [setSlot, looseI_len] using hp
    rw [setSlot_getD (by rw [hl]; exact hk), looseI_getD hk hp', looseI_getD hk hp', hg]
    by_cases e : p = k
    · subst e
      rw [if_pos rfl, if_pos rfl]
      simp only
      rw [take_map_set hi]
    · rw [if_neg e, if_neg e, if_neg e]
  rw [← key]
  unfold looseE
  split
  · rfl
  · refine obs_ext (by simp [setSlot]) fun p hp => ?_
    rw [setSlot_getD (by rw [hl]; exact hk)]
    by_cases e : p = k
    · subst e
      rw [if_pos rfl, hg]
      simp only
      congr 1
      apply List.ext_getElem?
      intro j
      rw [List.getElem?_set]
      by_cases ej : i = j
      · subst ej
        have := take_map_get (l := (os.getD p obD).slots) (g := looseE os f) (i := i)
        rw [List.getD_eq_getElem?_getD] at this
        have hlt : i < (List.map (looseE os f) (List.take i (os.getD p obD).slots) ++ List.drop i (os.getD p obD).slots).length := by rw [List.length_append, List.length_map, List.length_take, List.length_drop]; omega
        rw [if_pos rfl, if_pos hlt, List.getElem?_eq_getElem hlt]
        rw [List.getElem?_eq_getElem hlt] at this
        simp only [Option.getD_some] at this
        rw [this]
      · rw [if_neg ej]
    · rw [if_neg e]
theorem looseI_ids {os : List Ob} {f : Nat → Bool} {k i p : Nat} (hk : k < os.length) (hp : p < os.length) : ((looseI os f k i).getD p obD).id = (os.getD p obD).id := by
  rw [looseI_getD hk hp]
  split
  · rename_i e; subst e; rfl
  · split
    · unfold looseP looseO
      split
      · split <;> rfl
      · rfl
    · rfl
theorem looseI_map {os : List Ob} {f : Nat → Bool} {k i : Nat} (hk : k < os.length) : (looseI os f k i).map Ob.id = os.map Ob.id := by
  apply List.ext_getElem
  · simp [looseI_len]
  · intro p h1 h2
    have hp : p < os.length := by simpa using h2
    have := looseI_ids (f := f) (i := i) hk hp
    rw [List.getD_eq_getElem?_getD, List.getD_eq_getElem?_getD, List.getElem?_eq_getElem hp, List.getElem?_eq_getElem (by rw [looseI_len]; exact hp)] at this
    simpa using this
theorem looseK_fmt {os : List Ob} {f : Nat → Bool} {k p : Nat} (hp : p < os.length) (hk : ¬ p < k) : (looseK os f k).getD p obD = os.getD p obD := by rw [looseK_getD hp, if_neg hk]
theorem collO_next (os : List Ob) (f : Nat → Bool) (k : Nat) : collO os f (k + 1) = collO os f k ++ if f k = true then [looseO os f (os.getD k obD)] else [] := by
  unfold collO
  rw [List.range_succ, List.filter_append, List.map_append]
  cases h : f k <;> simp [h]
/-- What is kept of all that is loosened. -/
theorem collO_of {os : List Ob} {f : Nat → Bool} : ∀ k, k ≤ os.length → collO os f k = ((List.range k).filter f).map fun p => (looseK os f os.length).getD p obD := by
  intro k hk
  unfold collO
  apply List.map_congr_left
  intro p hp
  obtain ⟨h1, h2⟩ := List.mem_filter.1 hp
  have h1 := List.mem_range.1 h1
  rw [looseK_getD (by omega), if_pos (by omega)]
  unfold looseP
  rw [if_pos h2]
theorem looseO_slots (os : List Ob) (f : Nat → Bool) (o : Ob) : (looseO os f o).slots.length = o.slots.length := by
  unfold looseO
  split <;> simp
end Go.Proofs.Ytdogibjgogcdkal.gr
namespace Go.Proofs.Ytdogibjgogcdkal.gr
open Go.RowKit rows heads

/-- A graph of the call's own in the block P, its rows named, and none of its blocks is in S. -/
def HO (w : World) (base P : Nat) (o r m : Value) (ms : List MO) (G : Gr) (S : List Nat) : Prop := Five w P 32 o r m (.int .i64 G.next) (.int .i64 G.seed) ∧ OwnG w base o r m ms G ∧ P ∉ gblk o r m ms ∧ base ≤ P ∧ ∀ k ∈ S, k ≠ P ∧ k ∉ gblk o r m ms
theorem ho_held {w : World} {base P : Nat} {o r m : Value} {ms : List MO} {G : Gr} {S : List Nat} (h : HO w base P o r m ms G S) : Held w base P G := ⟨o, r, m, ms, h.1, h.2.1, h.2.2.1, h.2.2.2.1⟩
theorem ho_below {w w' : World} {base P : Nat} {o r m : Value} {ms : List MO} {G : Gr} {S : List Nat} (h : HO w base P o r m ms G S) (hb : Below w.heap.size w w') : HO w' base P o r m ms G S := ⟨five_below h.1 hb, ownG_below h.2.1 hb, h.2.2.1, h.2.2.2.1, h.2.2.2.2⟩
theorem ho_more {w : World} {base P : Nat} {o r m : Value} {ms : List MO} {G : Gr} {S : List Nat} (h : HO w base P o r m ms G S) {b : Nat} (hb : w.heap.size ≤ b) : HO w base P o r m ms G (b :: S) := by
  refine ⟨h.1, h.2.1, h.2.2.1, h.2.2.2.1, fun k hk => ?_⟩
  rcases List.mem_cons.1 hk with rfl | hk
  · have := lt_of_block h.1
    exact ⟨by omega, fun e => by have := (ownG_lt h.2.1 k e).2; omega⟩
  · exact h.2.2.2.2 k hk
theorem ho_less {w : World} {base P : Nat} {o r m : Value} {ms : List MO} {G : Gr} {S S' : List Nat} (h : HO w base P o r m ms G S) (hs : ∀ k ∈ S', k ∈ S) : HO w base P o r m ms G S' := ⟨h.1, h.2.1, h.2.2.1, h.2.2.2.1, fun k hk => h.2.2.2.2 k (hs k hk)⟩
theorem ho_objs {w : World} {base P : Nat} {o r m : Value} {ms : List MO} {G : Gr} {S : List Nat} {os : List Ob} (h : HO w base P o r m ms G S) (e : G.objs = os) : HO w base P o r m ms { G with objs := os } S := by
  subst e
  exact h
/-- One ref of one object is written. -/
theorem ho_setSlot {w : World} {base P : Nat} {o r m : Value} {ms : List MO} {G : Gr} {S : List Nat} (h : HO w base P o r m ms G S) {k : Nat} (hk : k < ms.length) {q n c : Nat} (hv : (ms.getD k moD).sv = .slice (some ⟨q, 0, none⟩) n c) (j : Nat) (e : Rf) :
    HO (put2 w q j e) base P o r m (ms.set k { ms.getD k moD with slots := (ms.getD k moD).slots.set j e }) { G with objs := setSlot G.objs k j e } S ∧ Below base w (put2 w q j e) ∧ (∀ x ∈ S, (put2 w q j e).heap[x]? = w.heap[x]?) ∧ base ≤ q := by
  obtain ⟨T, O, N, hb, HS⟩ := h
  have hq : q ∈ gblk o r m ms := by
    simp only [gblk, blks, List.mem_append, List.mem_flatMap]
    exact .inl (.inl (.inr ⟨_, mem_getD hk, by rw [hv]; simp [blk_some]⟩))
  have hqb : base ≤ q := (ownG_lt O q hq).1
  have C := put2_ch w q j e
  refine ⟨⟨five_ch T C (fun h => N ((List.mem_singleton.1 h) ▸ hq)), ownG_setSlot O hk hv j e, by unfold gblk; rw [blks_same]; exact N, hb, fun x hx => ?_⟩, ((Below.refl _ w).setCell (p := ⟨q, j * 2, none⟩) hqb _).setCell (p := ⟨q, j * 2 + 1, none⟩) hqb _, fun x hx => ?_, hqb⟩
  · refine ⟨(HS x hx).1, ?_⟩
    unfold gblk
    rw [blks_same]
    exact (HS x hx).2
  · have hne : x ≠ q := fun e => (HS x hx).2 (e ▸ hq)
    unfold put2
    rw [Below.heap_setCell _ _ _ x hne, Below.heap_setCell _ _ _ x hne]
theorem set_sv (ms : List MO) (k j : Nat) (s : List Rf) : ((ms.set k { ms.getD k moD with slots := s }).getD j moD).sv = (ms.getD j moD).sv := by
  rw [List.getD_eq_getElem?_getD, List.getElem?_set, List.getD_eq_getElem?_getD]
  by_cases e : k = j
  · subst e
    by_cases h : k < ms.length
    · simp [h, List.getD_eq_getElem?_getD]
    · simp [h]
  · rw [if_neg e, List.getD_eq_getElem?_getD]
theorem set_cells (ms : List MO) (k j : Nat) (s : List Rf) : ((ms.set k { ms.getD k moD with slots := s }).getD j moD).id = (ms.getD j moD).id ∧ ((ms.set k { ms.getD k moD with slots := s }).getD j moD).cls = (ms.getD j moD).cls ∧ ((ms.set k { ms.getD k moD with slots := s }).getD j moD).fmt = (ms.getD j moD).fmt ∧ ((ms.set k { ms.getD k moD with slots := s }).getD j moD).hash = (ms.getD j moD).hash := by
  rw [List.getD_eq_getElem?_getD, List.getElem?_set, List.getD_eq_getElem?_getD]
  by_cases e : k = j
  · subst e
    by_cases h : k < ms.length
    · simp [h, List.getD_eq_getElem?_getD]
    · simp [h]
  · rw [if_neg e, List.getD_eq_getElem?_getD]; exact ⟨rfl, rfl, rfl, rfl⟩
/-- The objects at the first k places that are kept. -/
def keptM (ms : List MO) (f : Nat → Bool) (k : Nat) : List MO := ((List.range k).filter f).map fun p => ms.getD p moD
theorem keptM_next (ms : List MO) (f : Nat → Bool) (k : Nat) : keptM ms f (k + 1) = keptM ms f k ++ if f k = true then [ms.getD k moD] else [] := by
  unfold keptM
  rw [List.range_succ, List.filter_append, List.map_append]
  cases h : f k <;> simp [h]
theorem keptM_len (ms : List MO) (f : Nat → Bool) (k : Nat) : (keptM ms f k).length ≤ k := by
  unfold keptM
  rw [List.length_map]
  exact Nat.le_trans (List.length_filter_le _ _) (by simp)
theorem keptM_abs (ms : List MO) (f : Nat → Bool) (k : Nat) : (keptM ms f k).map MO.abs = ((List.range k).filter f).map fun p => (ms.map MO.abs).getD p obD := by
  unfold keptM
  rw [List.map_map]
  apply List.map_congr_left
  intro p _
  exact (abs_getD ms p).symm
theorem keptM_sub (ms : List MO) (f : Nat → Bool) : List.Sublist (keptM ms f ms.length) ms := by
  unfold keptM
  have h : (List.range ms.length).map (fun p => ms.getD p moD) = ms := by
    apply List.ext_getElem
    · simp
    · intro i h1 h2
      simp [List.getD_eq_getElem?_getD, List.getElem?_eq_getElem h2]
  exact (List.filter_sublist.map _).trans (by rw [h]; exact List.Sublist.refl _)
theorem blks_sub {ms ms' : List MO} (h : List.Sublist ms' ms) : List.Sublist (blks ms') (blks ms) := by
  induction h with
  | slnil => exact List.Sublist.refl _
  | cons a h ih => exact ih.trans (by simp only [blks, List.flatMap_cons]; exact List.sublist_append_right _ _)
  | cons_cons a h ih => simp only [blks, List.flatMap_cons]; exact List.Sublist.append (List.Sublist.refl _) ih
/-- Objects left out, the others in a row of their own. -/
theorem ownG_sub {w : World} {base : Nat} {o r m v : Value} {ms ms' : List MO} {G : Gr} (h : OwnG w base o r m ms G) (hs : List.Sublist ms' ms) (hv : OwnRow w base v ms') (hn : ∀ x ∈ blk v, x ∉ blks ms ∧ x ∉ blk r ∧ x ∉ blk m) : OwnG w base v r m ms' { G with objs := ms'.map MO.abs } := by
  obtain ⟨h1, ⟨h2, h2b, h2c⟩, h3, h4, h5⟩ := h
  have hbs := blks_sub hs
  have hx : ((blks ms ++ blk r) ++ blk m).Nodup := by
    unfold gblk at h5
    rw [List.append_assoc, List.append_assoc] at h5
    have := (List.nodup_append.1 h5).2.1
    rw [← List.append_assoc] at this
    exact this
  have hy : ((blks ms' ++ blk r) ++ blk m).Nodup := hx.sublist (List.Sublist.append (List.Sublist.append hbs (List.Sublist.refl _)) (List.Sublist.refl _))
  refine ⟨rfl, ⟨hv, fun m' hm' => h2b m' (hs.subset hm'), ?_⟩, h3, h4, ?_⟩
  · refine List.nodup_append.2 ⟨blk_nodup v, ?_, fun a ha b hb e => ?_⟩
    · rw [List.append_assoc] at hy
      exact (List.nodup_append.1 hy).1
    · subst e
      exact (hn a ha).1 (hbs.subset hb)
  · unfold gblk
    rw [List.append_assoc, List.append_assoc]
    rw [List.append_assoc] at hy
    refine List.nodup_append.2 ⟨blk_nodup v, hy, fun a ha b hb e => ?_⟩
    subst e
    rcases List.mem_append.1 hb with hb | hb
    · exact (hn a ha).1 (hbs.subset hb)
    · rcases List.mem_append.1 hb with hb | hb
      · exact (hn a ha).2.1 hb
      · exact (hn a ha).2.2 hb
end Go.Proofs.Ytdogibjgogcdkal.gr
namespace Go.Proofs.Ytdogibjgogcdkal.gr
open Go.RowKit rows heads

theorem ob_cells {w : World} {b : Nat} {M : MO} (h : w.heap[b]? = some (ob M)) : w.cell? ⟨b, 0, none⟩ = some (.int .i64 M.id) ∧ w.cell? ⟨b, 1, none⟩ = some (.int .i64 M.cls) ∧ w.cell? ⟨b, 2, none⟩ = some (.int .i64 M.fmt) ∧ w.cell? ⟨b, 3, none⟩ = some (.int .i64 M.hash) ∧ w.cell? ⟨b, 4, none⟩ = some M.sv := ⟨by simp [World.cell?, h, ob], by simp [World.cell?, h, ob], by simp [World.cell?, h, ob], by simp [World.cell?, h, ob], by simp [World.cell?, h, ob]⟩
theorem slots_small {G : Gr} (h : Right G) {k : Nat} (hk : k < G.objs.length) : (G.objs.getD k obD).slots.length ≤ 1048576 := by
  have := (hok_true (obOk_lt (h.ob k hk)).2.2.2).2.1
  omega
end Go.Proofs.Ytdogibjgogcdkal.gr
namespace Go.Proofs.Ytdogibjgogcdkal.gr
open Go.RowKit rows heads
set_option maxRecDepth 100000
set_option linter.unusedVariables false

/-- What is told of the places, as it lies. -/
def KeptAt (w : World) (Bi : Nat) (is : List Bool) : Prop := w.heap[Bi]? = some (.cells (is.map Value.bool).toArray 4 (0, 0))
theorem kept_cell {w : World} {Bi : Nat} {is : List Bool} (h : KeptAt w Bi is) {p : Nat} (hp : p < is.length) : w.cell? ⟨Bi, p, none⟩ = some (.bool (is.getD p false)) := by
  unfold KeptAt at h
  simp [World.cell?, h, List.getD_eq_getElem?_getD, List.getElem?_eq_getElem hp]
theorem kept_below {w w' : World} {Bi : Nat} {is : List Bool} (h : KeptAt w Bi is) (hb : Below w.heap.size w w') : KeptAt w' Bi is := (hb.block Bi (lt_of_block h)).trans h
theorem rb_cells {w : World} {b : Nat} {e : Rf} (h : w.heap[b]? = some (rb e)) : w.cell? ⟨b, 0, none⟩ = some (.int .i64 e.1) ∧ w.cell? ⟨b, 1, none⟩ = some (.int .i64 e.2) := ⟨by simp [World.cell?, h, rb], by simp [World.cell?, h, rb]⟩
theorem led_loose {G : Gr} {f : Nat → Bool} {k i : Nat} (hk : k < G.objs.length) (e : Rf) (he : refOk G.objs e = true) :
    (ledB (looseI G.objs f k i) e && !(f (ledP (looseI G.objs f k i) e))) = looseB G.objs f e := by
  have hat : atI (looseI G.objs f k i) e.2 = atI G.objs e.2 := atI_ids (looseI_map hk) _
  unfold ledB ledP looseB
  rw [hat]
  by_cases h2 : e.1 = 2
  · rw [decide_eq_true (refOk_two he h2).1, Bool.and_true]
  · have : (e.1 == 2) = false := by simpa using h2
    rw [this]
    rfl

theorem rise_loose {G : Gr} (h : Right G) {f : Nat → Bool} {k i : Nat} (hk : k < G.objs.length) : Rise (looseI G.objs f k i) := fun a b hab hb => by
  rw [looseI_len] at hb
  rw [looseI_ids hk (by omega), looseI_ids hk hb]
  exact gOk_rise h.gOk a b hab hb

set_option maxHeartbeats 8000000 in
theorem loosen_any {W : World} {base P Bi : Nat} {o r m : Value} {ms : List MO} {X : Gr} {f : Nat → Bool} {is : List Bool} (H : HO W base P o r m ms X [Bi]) (hr : Right X) (K : KeptAt W Bi is) (hl : is.length = ms.length) (hf : ∀ p, is.getD p false = f p) :
    Calls Try.prog 50 #[.pointer (some ⟨P, 0, none⟩), .slice (some ⟨Bi, 0, none⟩) ms.length ms.length] W fun e w' => e = .returned (.tuple #[]) ∧ (∃ ms', HO w' base P o r m ms' { X with objs := looseK X.objs f X.objs.length } [Bi]) ∧ KeptAt w' Bi is ∧ Below base W w' := by
  have hbase := held_base (ho_held H)
  have hlen := own_len H.2.1
  have h200 : ms.length ≤ 200 := by rw [hlen]; exact (gOk_len hr.gOk).1
  obtain ⟨a1, n1, c1, a2, n2, c2, a3, n3, c3, e1, e2, e3⟩ := graphAt_slices (ownG_at H.2.1)
  subst e1 e2 e3
  have en : n1 = ms.length := by
    obtain ⟨a', c', e', _⟩ := (ownO_at H.2.1.2.1).1
    injection e'
  subst en
  have HH : Hid (∃ ms', ms'.length = ms.length ∧ HO W base P (.slice a1 ms.length c1) (.slice a2 n2 c2) (.slice a3 n3 c3) ms' { X with objs := looseK X.objs f 0 } [Bi]) := ⟨ms, rfl, ho_objs H (looseK_zero X.objs f).symm⟩
  obtain ⟨z0, _⟩ := five_cells H.1
  have HK : Hid _ := K
  have HF : Hid _ := hf
  have HR : Hid _ := hr
  have hx : ms.length = X.objs.length := hlen
  have HX : Hid _ := hx
  have HL : Hid _ := hl
  clear H K hf hr hlen hx hl
  go_enter Try.func50, Try.ntmps50
  go_wp2_with fail
  go_loopw [15] (fun i wz => ∃ (k : Nat) (ms' : List MO), k ≤ ms.length ∧ i = .int .i64 (k : Int) ∧ ms'.length = ms.length ∧ HO wz base P (.slice a1 ms.length c1) (.slice a2 n2 c2) (.slice a3 n3 c3) ms' { X with objs := looseK X.objs f k } [Bi] ∧ KeptAt wz Bi is ∧ Below base W wz) (fun i _ => ms.length - (intOf i).toNat)
  case atStart =>
    obtain ⟨ms', h1, h2⟩ := HH.out
    exact ⟨0, ms', Nat.zero_le _, rfl, h1, h2, HK.out, (Below.refl _ W).mono hbase⟩
  case round =>
    obtain ⟨k, ms', hk, rfl, hml, hH, hK, hB⟩ := hrel
    clear HH HK z0
    by_cases hlt : k < ms.length
    · have hlt' : (k : Int) < (ms.length : Int) := by omega
      have hkx : k < X.objs.length := by have := HX.out; omega
      obtain ⟨a', c', e', _, _, _, hco⟩ := (ownO_at hH.2.1.2.1).1
      injection e' with e1 e2 e3
      subst e1 e3
      obtain ⟨b, off, rfl, hb, hcc⟩ := hco (by omega)
      obtain ⟨x0, x1, x2, x3, x4⟩ := hcc k (by omega)
      have ck := kept_cell hK (p := k) (by have := HL.out; omega)
      rw [HF.out k] at ck
      have eM : (ms'.getD k moD).abs = X.objs.getD k obD := by
        rw [← abs_getD, hH.2.1.1]
        exact looseK_fmt hkx (Nat.lt_irrefl _)
      obtain ⟨sa, sn, sc, hsv⟩ := objs_slices (ownO_at hH.2.1.2.1) _ (mem_getD (ms := ms') (i := k) (by omega))
      have hfm : (ms'.getD k moD).fmt = (X.objs.getD k obD).fmt := congrArg Ob.fmt eM
      have hsl : (ms'.getD k moD).slots = (X.objs.getD k obD).slots := congrArg Ob.slots eM
      obtain ⟨X1, hX1⟩ : ∃ X1, X1 = wr.alloc (ob (ms'.getD k moD)) := ⟨_, rfl⟩
      have b1 : Below wr.heap.size wr X1 := by rw [hX1]; exact (Below.refl _ _).alloc (Nat.le_refl _) _
      have T1 : X1.heap[wr.heap.size]? = some (ob (ms'.getD k moD)) := by rw [hX1]; exact heap_alloc_new _ _
      have H1 := ho_below (ho_more hH (Nat.le_refl _)) b1
      have K1 := kept_below hK b1
      have B1 := hB.trans (b1.mono (Nat.le_trans hbase hB.size))
      have ck1 := (b1.cell (p := ⟨Bi, k, none⟩) (cell_lt ck)).trans ck
      have HSK : Hid (f k = false ∨ ¬ (X.objs.getD k obD).fmt = 1 → HO X1 base P (.slice (some ⟨b, off, none⟩) ms.length c1) (.slice a2 n2 c2) (.slice a3 n3 c3) ms' { X with objs := looseK X.objs f (k + 1) } [Bi] ∧ KeptAt X1 Bi is ∧ Below base W X1) := fun h => ⟨by rw [looseK_skip hkx h]; exact ho_less H1 (fun x hx => List.mem_cons_of_mem _ hx), K1, B1⟩
      have HH1 : Hid _ := H1
      have HK1 : Hid _ := K1
      have HB1 : Hid _ := B1
      have hsv2 := hsv
      rw [hfm] at x2
      rw [hsv] at x4
      obtain ⟨y0, y1, y2, y3, y4⟩ := ob_cells T1
      rw [hfm] at y2
      rw [hsv] at y4
      unfold ob at hX1
      rw [hfm, hsv] at hX1
      unfold ob at T1
      rw [hfm, hsv] at T1
      have HT1 : Hid _ := T1
      have HMS : Hid (_ ∧ _) := And.intro hsv hsl
      clear hH hK hB b1 H1 K1 B1 T1 hco hcc eM hsv2 e2 hsl hsv
      generalize (ms'.getD k moD).id = mi at *
      generalize (ms'.getD k moD).cls = mc at *
      generalize (ms'.getD k moD).hash = mh at *
      generalize hfmt : (X.objs.getD k obD).fmt = mf at *
      cases hfk : f k
      · have ST : Hid _ := HSK.out (.inl hfk)
        rw [hfk] at ck ck1
        clear HSK
        subst hX1
        go_wp2
        exact ⟨⟨k + 1, ms', by omega, by go_num, hml, ST.out⟩, by simp [intOf]; omega⟩
      · rw [hfk] at ck ck1
        by_cases h1 : mf = 1
        · subst h1
          obtain ⟨hsv, hsl⟩ := HMS.out
          have hORk := HH1.out.2.1.2.1.2.1 _ (mem_getD (ms := ms') (i := k) (by omega))
          have eL : sn = (X.objs.getD k obD).slots.length := by
            rw [← hsl]
            rw [hsv] at hORk
            obtain ⟨_, ⟨h1, h2⟩ | ⟨g', cap', cur, h1, _⟩⟩ := hORk
            · injection h1 with _ h3 _; omega
            · injection h1
          have hL20 : sn ≤ 1048576 := by
            rw [eL]
            exact slots_small HR.out hkx
          have HI0 : Hid (HO X1 base P (.slice (some ⟨b, off, none⟩) ms.length c1) (.slice a2 n2 c2) (.slice a3 n3 c3) ms' { X with objs := looseI X.objs f k 0 } [wr.heap.size, Bi]) := by
            show HO _ _ _ _ _ _ _ _ _
            rw [looseI_zero hkx]; exact HH1.out
          have HEL : Hid _ := eL
          have HSV : Hid _ := hsv
          have HSL : Hid _ := hsl
          have HFM : Hid _ := hfmt
          clear HSK hORk HMS ck eL hsv hsl hfmt hfm
          subst hX1
          go_wp2_with fail
          generalize hbx : wr.heap.size = bx at *
          clear hbx x0 x1 x2 x3 x4 y0 y1 y2 y3 y4 ck1
          go_loopw [33] (fun i wy => ∃ (j : Nat) (ms2 : List MO), j ≤ sn ∧ i = .int .i64 (j : Int) ∧ ms2.length = ms.length ∧ HO wy base P (.slice (some ⟨b, off, none⟩) ms.length c1) (.slice a2 n2 c2) (.slice a3 n3 c3) ms2 { X with objs := looseI X.objs f k j } [bx, Bi] ∧ (ms2.getD k moD).sv = .slice sa sn sc ∧ wy.heap[bx]? = some (.cells #[.int .i64 mi, .int .i64 mc, .int .i64 1, .int .i64 mh, .slice sa sn sc] 51) ∧ KeptAt wy Bi is ∧ Below base W wy) (fun i _ => sn - (intOf i).toNat)
          case atStart => exact ⟨0, ms', Nat.zero_le _, rfl, hml, HI0.out, HSV.out, HT1.out, HK1.out, HB1.out⟩
          case round =>
            obtain ⟨j, ms2, hj, rfl, hml2, h2, hsv2, ht2, hk2, hb2⟩ := hrel
            clear HI0 HT1 HK1 HB1 HH1
            by_cases hjl : j < sn
            · have hjl' : (j : Int) < (sn : Int) := by omega
              have es2 : (ms2.getD k moD).slots = ((X.objs.getD k obD).slots.take j).map (looseE X.objs f) ++ (X.objs.getD k obD).slots.drop j := by
                rw [own_abs h2.2.1 k]
                show ((looseI X.objs f k j).getD k obD).slots = _
                rw [looseI_getD hkx hkx, if_pos rfl]
              have el2 : (ms2.getD k moD).slots.length = sn := by
                rw [es2, HEL.out, List.length_append, List.length_map, List.length_take, List.length_drop]
                have := HEL.out
                omega
              have hOR := h2.2.1.2.1.2.1 _ (mem_getD (ms := ms2) (i := k) (by omega))
              rw [hsv2] at hOR
              obtain ⟨q, c', e'⟩ := ownR_form hOR (by omega)
              have e1 : sa = some ⟨q, 0, none⟩ := by injection e'
              clear e'
              subst e1
              have cr := ownR_cell hOR (i := j) (by omega)
              have ee : (ms2.getD k moD).slots.getD j refD = (X.objs.getD k obD).slots.getD j refD := by rw [es2]; exact take_map_get
              rw [ee] at cr
              have fr0 := row_frozen hOR (j * 2)
              have fr1 := row_frozen hOR (j * 2 + 1)
              have hok := HR.out.sl k hkx j (by have := HEL.out; omega)
              have HLO : Hid _ := led_loose (f := f) (k := k) (i := j) hkx _ hok
              have HNX : Hid _ := looseI_next (f := f) hkx (show j < (X.objs.getD k obD).slots.length by have := HEL.out; omega)
              generalize hee : (X.objs.getD k obD).slots.getD j refD = ee0 at *
              obtain ⟨e1, e2⟩ := ee0
              obtain ⟨cr0, cr1⟩ := cr
              have by1 : Below wr.heap.size wr (wr.alloc (rb (e1, e2))) := (Below.refl _ _).alloc (Nat.le_refl _) _
              have hY := ho_below h2 by1
              obtain ⟨p0, _⟩ := five_cells hY.1
              obtain ⟨rb0, rb1⟩ := rb_cells (heap_alloc_new wr (rb (e1, e2)))
              simp only at rb0 rb1
              have LED := ledTo_any (w := (wr.alloc (rb (e1, e2))).drew) (show OrowAt (wr.alloc (rb (e1, e2))).drew _ _ from (ownO_at hY.2.1.2.1).1) (objs_slices (ownO_at hY.2.1.2.1)) hY.2.1.1 (rise_loose HR.out hkx) (show ms2.length ≤ 1048576 by omega) (e1, e2)
              have hlp : ledB (looseI X.objs f k j) (e1, e2) = true → ledP (looseI X.objs f k j) (e1, e2) < ms.length := fun h => by
                have := ledP_lt h
                rw [looseI_len] at this
                have := HX.out
                omega
              have HALL : Hid (∀ w4, Below (wr.alloc (rb (e1, e2))).drew.heap.size (wr.alloc (rb (e1, e2))).drew w4 →
                  (w4.cell? ⟨bx, 4, none⟩ = some (.slice (some ⟨q, 0, none⟩) sn sc) ∧ w4.cell? ⟨q, j * 2, none⟩ = some (.int .i64 e1) ∧ w4.cell? ⟨q, j * 2 + 1, none⟩ = some (.int .i64 e2) ∧ w4.frozen? ⟨q, j * 2, none⟩ = false ∧ w4.frozen? ⟨q, j * 2 + 1, none⟩ = false ∧ (∀ p, p < ms.length → w4.cell? ⟨Bi, p, none⟩ = some (.bool (f p)))) ∧
                  (looseB X.objs f (e1, e2) = false → HO w4 base P (.slice (some ⟨b, off, none⟩) ms.length c1) (.slice a2 n2 c2) (.slice a3 n3 c3) ms2 { X with objs := looseI X.objs f k (j + 1) } [bx, Bi] ∧ (ms2.getD k moD).sv = .slice (some ⟨q, 0, none⟩) sn sc ∧ w4.heap[bx]? = some (.cells #[.int .i64 mi, .int .i64 mc, .int .i64 1, .int .i64 mh, .slice (some ⟨q, 0, none⟩) sn sc] 51) ∧ KeptAt w4 Bi is ∧ Below base W w4) ∧
                  (looseB X.objs f (e1, e2) = true → ∃ ms3, ms3.length = ms.length ∧ HO (put2 w4 q j (0, 0)) base P (.slice (some ⟨b, off, none⟩) ms.length c1) (.slice a2 n2 c2) (.slice a3 n3 c3) ms3 { X with objs := looseI X.objs f k (j + 1) } [bx, Bi] ∧ (ms3.getD k moD).sv = .slice (some ⟨q, 0, none⟩) sn sc ∧ (put2 w4 q j (0, 0)).heap[bx]? = some (.cells #[.int .i64 mi, .int .i64 mc, .int .i64 1, .int .i64 mh, .slice (some ⟨q, 0, none⟩) sn sc] 51) ∧ KeptAt (put2 w4 q j (0, 0)) Bi is ∧ Below base W (put2 w4 q j (0, 0)))) := fun w4 b4' => by
                have b4 : Below wr.heap.size wr w4 := by1.trans (Below.mono ⟨b4'.os, b4'.tape, b4'.output, b4'.size, b4'.block⟩ (by simp))
                have H4 := ho_below h2 b4
                have K4 := kept_below hk2 b4
                have T4 := (b4.block bx (lt_of_block ht2)).trans ht2
                have B4 := hb2.trans (b4.mono (Nat.le_trans hbase hb2.size))
                have O4 := H4.2.1.2.1.2.1 _ (mem_getD (ms := ms2) (i := k) (by omega))
                rw [hsv2] at O4
                refine ⟨⟨by simp [World.cell?, T4], (b4.cell (p := ⟨q, j * 2, none⟩) (cell_lt cr0)).trans cr0, (b4.cell (p := ⟨q, j * 2 + 1, none⟩) (cell_lt cr1)).trans cr1, row_frozen O4 _, row_frozen O4 _, fun p hp => ?_⟩, fun hl => ?_, fun hl => ?_⟩
                · have := kept_cell K4 (p := p) (by have := HL.out; omega)
                  rw [HF.out p] at this
                  exact this
                · rw [hl] at HNX
                  rw [HNX.out, if_neg (by simp)]
                  exact ⟨H4, hsv2, T4, K4, B4⟩
                · rw [hl] at HNX
                  rw [HNX.out, if_pos rfl]
                  obtain ⟨s1, s2, s3, s4⟩ := ho_setSlot H4 (k := k) (by omega) hsv2 j (0, 0)
                  exact ⟨_, by rw [List.length_set]; exact hml2, s1, by rw [set_sv]; exact hsv2, (s3 bx (by simp)).trans T4, (s3 Bi (by simp)).trans K4, B4.trans s2⟩
              generalize ledB (looseI X.objs f k j) (e1, e2) = lb at *
              generalize ledP (looseI X.objs f k j) (e1, e2) = lp at *
              have hLO := HLO.out
              clear h2 hsv2 ht2 hk2 hb2 es2 el2 hOR ee fr0 fr1 hok HNX hY HLO hee by1
              cases hlb : lb
              · have hn : looseB X.objs f (e1, e2) = false := by rw [← hLO, hlb]; rfl
                rw [hlb] at LED
                clear hlb hLO hlp
                go_wp2_with fail
                go_region_law (go_simp; go_at_call 70; refine LED.mono ?_; clear LED; rintro e w4 ⟨t4, rfl, hto, b4⟩; obtain ⟨⟨d0, d1, d2, d3, d4, d5⟩, dn, dy⟩ := HALL.out w4 b4; have HN : Hid _ := dn hn; clear dn dy b4 HALL hto d5)
                all_goals go_wp2
                all_goals exact ⟨⟨j + 1, ms2, by omega, by go_num, hml2, HN.out⟩, by simp [intOf]; omega⟩
              · have hlpl := hlp hlb
                rw [hlb] at LED hLO
                clear hlp hlb
                have hlpi : (lp : Int) < (ms.length : Int) := by omega
                cases hfl : f lp
                · have hn : looseB X.objs f (e1, e2) = true := by rw [← hLO, hfl]; rfl
                  clear hLO
                  go_wp2_with fail
                  go_region_law (go_simp; go_at_call 70; refine LED.mono ?_; clear LED; rintro e w4 ⟨t4, rfl, hto, b4⟩; have ht := hto trivial; subst ht; obtain ⟨⟨d0, d1, d2, d3, d4, d5⟩, dn, dy⟩ := HALL.out w4 b4; have d6 := d5 _ hlpl; rw [hfl] at d6; have HN : Hid _ := dy hn; clear dn dy b4 HALL hto d5)
                  all_goals go_wp2
                  all_goals
                    obtain ⟨ms3, q1, q2⟩ := HN.out
                    exact ⟨⟨j + 1, ms3, by omega, by go_num, q1, q2⟩, by simp [intOf]; omega⟩
                · have hn : looseB X.objs f (e1, e2) = false := by rw [← hLO, hfl]; rfl
                  clear hLO
                  go_wp2_with fail
                  go_region_law (go_simp; go_at_call 70; refine LED.mono ?_; clear LED; rintro e w4 ⟨t4, rfl, hto, b4⟩; have ht := hto trivial; subst ht; obtain ⟨⟨d0, d1, d2, d3, d4, d5⟩, dn, dy⟩ := HALL.out w4 b4; have d6 := d5 _ hlpl; rw [hfl] at d6; have HN : Hid _ := dn hn; clear dn dy b4 HALL hto d5)
                  all_goals go_wp2
                  all_goals exact ⟨⟨j + 1, ms2, by omega, by go_num, hml2, HN.out⟩, by simp [intOf]; omega⟩
            · have e : j = sn := by omega
              subst e
              have HST : Hid (HO wr base P (.slice (some ⟨b, off, none⟩) ms.length c1) (.slice a2 n2 c2) (.slice a3 n3 c3) ms2 { X with objs := looseK X.objs f (k + 1) } [Bi] ∧ KeptAt wr Bi is ∧ Below base W wr) := ⟨by
                rw [← looseI_all hkx hfk HFM.out, ← HEL.out]
                exact ho_less h2 (fun x hx => List.mem_cons_of_mem _ hx), hk2, hb2⟩
              have hjl' : ¬ (j : Int) < (j : Int) := by omega
              clear h2 hsv2 ht2 hk2 hb2
              go_wp2
              exact ⟨⟨k + 1, ms2, by omega, by go_num, hml2, HST.out⟩, by simp [intOf]; omega⟩
        · have h1' : (mf != 1) = true := by simp [h1]
          have ST : Hid _ := HSK.out (.inr h1)
          clear HSK
          subst hX1
          go_wp2
          exact ⟨⟨k + 1, ms', by omega, by go_num, hml, ST.out⟩, by simp [intOf]; omega⟩
    · have e : k = ms.length := by omega
      subst e
      have HF2 : Hid (∃ ms', HO wr base P (.slice a1 ms.length c1) (.slice a2 n2 c2) (.slice a3 n3 c3) ms' { X with objs := looseK X.objs f X.objs.length } [Bi]) := ⟨ms', by rw [← HX.out]; exact hH⟩
      have HK2 : Hid _ := hK
      have HB2 : Hid _ := hB
      have hlt' : ¬ (ms.length : Int) < (ms.length : Int) := by omega
      clear hH hK hB
      go_wp2
      go_end0
      exact ⟨rfl, HF2.out, HK2.out, HB2.out⟩
end Go.Proofs.Ytdogibjgogcdkal.gr
namespace Go.Proofs.Ytdogibjgogcdkal.gr
open Go.RowKit rows heads
set_option maxRecDepth 100000
set_option linter.unusedVariables false

theorem ownRow_slice {w : World} {base : Nat} {v : Value} {ms : List MO} (h : OwnRow w base v ms) : ∃ a c, v = .slice a ms.length c := by
  obtain ⟨h0, ⟨h1, h2⟩ | ⟨g, cap, cur, h1, _⟩⟩ := h
  · exact ⟨none, 0, by rw [h1, h2]⟩
  · exact ⟨_, _, h1⟩
theorem ownRow_nothing (w : World) : OwnRow (w.alloc (.cells #[] 51)) w.heap.size (.slice (some ⟨w.heap.size, 0, none⟩) 0 0) [] :=
  ⟨rfl, .inr ⟨w.heap.size, 0, #[], rfl, Nat.le_refl _, heap_alloc_new _ _, Nat.le_refl _, by decide, rfl, rfl⟩⟩
theorem cellsO_more : ∀ (ms : List MO) (x : MO), cellsO (ms ++ [x]) = cellsO ms ++ cellsO [x]
  | [], _ => rfl
  | m :: ms, x => by simp [cellsO, cellsO_more ms x]
/-- The kept ones in their own row, and the graph with these alone. -/
theorem keep_end {w : World} {base P : Nat} {o r m v : Value} {ms ms' : List MO} {G : Gr} {S : List Nat} (H : HO w base P o r m ms G S) (hs : List.Sublist ms' ms) (hv : OwnRow w base v ms') (hn : ∀ x ∈ blk v, x ≠ P ∧ x ∉ gblk o r m ms) :
    Held (w.setCell ⟨P, 0, none⟩ v) base P { G with objs := ms'.map MO.abs } ∧ Below base w (w.setCell ⟨P, 0, none⟩ v) := by
  obtain ⟨T, O, N, hb, _⟩ := H
  have O2 := ownG_sub O hs hv (fun x hx => by
    have := (hn x hx).2
    simp only [gblk, List.mem_append] at this
    exact ⟨fun e => this (.inl (.inl (.inr e))), fun e => this (.inl (.inr e)), fun e => this (.inr e)⟩)
  have N2 : P ∉ gblk v r m ms' := fun e => by
    simp only [gblk, List.mem_append] at e N
    rcases e with ((e | e) | e) | e
    · exact (hn P e).1 rfl
    · exact N (.inl (.inl (.inr ((blks_sub hs).subset e))))
    · exact N (.inl (.inr e))
    · exact N (.inr e)
  exact ⟨⟨v, r, m, ms', five_set0 T v, ownG_ch O2 (one_ch w P 0 v) (fun x hx e => N2 ((List.mem_singleton.1 e) ▸ hx)), N2, hb⟩, (Below.refl _ w).setCell (p := ⟨P, 0, none⟩) hb v⟩

set_option maxHeartbeats 8000000 in
theorem keep_any {W : World} {base P Bi : Nat} {o r m : Value} {ms : List MO} {G : Gr} {f : Nat → Bool} {is : List Bool} (H : HO W base P o r m ms G [Bi]) (h200 : ms.length ≤ 1048576) (K : KeptAt W Bi is) (hl : is.length = ms.length) (hf : ∀ p, is.getD p false = f p) :
    Calls Try.prog 51 #[.pointer (some ⟨P, 0, none⟩), .slice (some ⟨Bi, 0, none⟩) ms.length ms.length] W fun e w' => e = .returned (.tuple #[]) ∧ Held w' base P { G with objs := (keptM ms f ms.length).map MO.abs } ∧ Below base W w' := by
  have hbase := held_base (ho_held H)
  obtain ⟨a1, n1, c1, a2, n2, c2, a3, n3, c3, e1, e2, e3⟩ := graphAt_slices (ownG_at H.2.1)
  subst e1 e2 e3
  have en : n1 = ms.length := by
    obtain ⟨a', c', e', _⟩ := (ownO_at H.2.1.2.1).1
    injection e'
  subst en
  have HH : Hid _ := H
  have HK : Hid _ := K
  have HF : Hid _ := hf
  have HL : Hid _ := hl
  have lP := lt_of_block H.1
  have HLG : Hid _ := ownG_lt H.2.1
  have B0 : Below W.heap.size W (W.alloc (.cells #[] 51)) := (Below.refl _ _).alloc (Nat.le_refl _) _
  have HO0 : Hid (OwnRow (W.alloc (.cells #[] 51)) W.heap.size (.slice (some ⟨W.heap.size, 0, none⟩) 0 0) (keptM ms f 0)) := ownRow_nothing W
  have HB0 : Hid _ := B0
  obtain ⟨z0, _⟩ := five_cells (five_below H.1 B0)
  obtain ⟨i0, hi, hz0, hz1, hz2⟩ := info_parts infoO
  have HI : Hid _ := And.intro hi (And.intro hz0 (And.intro hz1 hz2))
  clear hi hz0 hz1 hz2 H K hf hl B0
  go_enter Try.func51, Try.ntmps51
  go_wp2_with fail
  go_loopw [4, 13] (fun u i wz => ∃ (k : Nat) (u0 : Value), u0 = u ∧ k ≤ ms.length ∧ i = .int .i64 (k : Int) ∧ OwnRow wz W.heap.size u0 (keptM ms f k) ∧ Below W.heap.size W wz) (fun _ i _ => ms.length - (intOf i).toNat)
  case atStart => exact ⟨0, _, rfl, Nat.zero_le _, rfl, HO0.out, HB0.out⟩
  case round =>
    obtain ⟨k, u0, rfl, hk, rfl, hO, hB⟩ := hrel
    clear z0 HO0 HB0
    by_cases hlt : k < ms.length
    · have hlt' : (k : Int) < (ms.length : Int) := by omega
      have hH := ho_below HH.out hB
      have hK := kept_below HK.out hB
      obtain ⟨a', c', e', _, _, _, hco⟩ := (ownO_at hH.2.1.2.1).1
      have e1 : a1 = a' := by injection e'
      have e3 : c1 = c' := by injection e'
      subst e1 e3
      obtain ⟨b, off, rfl, hb, hcc⟩ := hco (by omega)
      obtain ⟨x0, x1, x2, x3, x4⟩ := hcc k hlt
      have ck := kept_cell hK (p := k) (by have := HL.out; omega)
      rw [HF.out k] at ck
      obtain ⟨sa, sn, sc, hsv⟩ := objs_slices (ownO_at hH.2.1.2.1) _ (mem_getD (ms := ms) (i := k) hlt)
      have HNX : Hid _ := keptM_next ms f k
      have hkl := keptM_len ms f k
      generalize hM : ms.getD k moD = M at *
      obtain ⟨mi, mc, mf, mh, msv, msl⟩ := M
      simp only at x0 x1 x2 x3 x4 hsv
      subst hsv
      have b1 : Below wr.heap.size wr (wr.alloc (ob ⟨mi, mc, mf, mh, .slice sa sn sc, msl⟩)) := (Below.refl _ _).alloc (Nat.le_refl _) _
      have ck1 := (b1.cell (p := ⟨Bi, k, none⟩) (cell_lt ck)).trans ck
      obtain ⟨y0, y1, y2, y3, y4⟩ := ob_cells (heap_alloc_new wr (ob ⟨mi, mc, mf, mh, .slice sa sn sc, msl⟩))
      simp only at y0 y1 y2 y3 y4
      have O1 : OwnRow _ _ _ _ := row_below hO b1
      have sr := hB.size
      have B1 := hB.trans (b1.mono sr)
      clear hH hK hco hcc e' hM hO hB
      cases hfk : f k
      · rw [hfk] at ck ck1 HNX
        rw [if_neg (by simp), List.append_nil] at HNX
        have HST : Hid (OwnRow (wr.alloc (ob ⟨mi, mc, mf, mh, .slice sa sn sc, msl⟩)) W.heap.size u0 (keptM ms f (k + 1)) ∧ Below W.heap.size W (wr.alloc (ob ⟨mi, mc, mf, mh, .slice sa sn sc, msl⟩))) := ⟨by rw [HNX.out]; exact O1, B1⟩
        clear O1 B1 b1
        go_wp2
        exact ⟨⟨k + 1, _, rfl, by omega, by go_num, HST.out⟩, by simp [intOf]; omega⟩
      · rw [hfk] at ck ck1 HNX
        rw [if_pos rfl] at HNX
        generalize hqs : keptM ms f k = qs at *
        clear hqs
        obtain ⟨ua, uc, hus⟩ := ownRow_slice O1
        subst hus
        obtain ⟨X1, hX1⟩ : ∃ X1, X1 = wr.alloc (ob ⟨mi, mc, mf, mh, .slice sa sn sc, msl⟩) := ⟨_, rfl⟩
        have bA : Below X1.heap.size X1 (X1.alloc (ob ⟨mi, mc, mf, mh, .slice sa sn sc, msl⟩)) := (Below.refl _ _).alloc (Nat.le_refl _) _
        rw [← hX1] at O1 B1
        have HOA : Hid (OwnRow (X1.alloc (ob ⟨mi, mc, mf, mh, .slice sa sn sc, msl⟩)) W.heap.size (.slice ua qs.length uc) qs) := row_below O1 bA
        have hba : W.heap.size ≤ (X1.alloc (ob ⟨mi, mc, mf, mh, .slice sa sn sc, msl⟩)).heap.size := Nat.le_trans B1.size bA.size
        have HNW : Hid (∀ i u, (cellsO [⟨mi, mc, mf, mh, .slice sa sn sc, msl⟩])[i]? = some u → (X1.alloc (ob ⟨mi, mc, mf, mh, .slice sa sn sc, msl⟩)).cell? ((⟨X1.heap.size, 0, none⟩ : Addr).add i) = some u) := World.news_of_block (heap_alloc_new X1 (ob ⟨mi, mc, mf, mh, .slice sa sn sc, msl⟩))
        have HON : Hid (∀ u ∈ cellsO [⟨mi, mc, mf, mh, .slice sa sn sc, msl⟩], u.oneCell' = true) := cellsO_one (fun x hx => by rw [List.mem_singleton] at hx; subst hx; exact ⟨_, _, _, rfl⟩)
        have HSTEP : Hid (∀ (v' : Value) (w5 : World), w5.ownsRow W.heap.size 51 5 v' (qs.length + 1) (cellsO qs ++ cellsO [⟨mi, mc, mf, mh, .slice sa sn sc, msl⟩]) → (X1.alloc (ob ⟨mi, mc, mf, mh, .slice sa sn sc, msl⟩)).grownBy w5 (Value.slice ua qs.length uc).ownBlock → (∃ a n c, v' = .slice a n c) ∧ OwnRow w5 W.heap.size v' (keptM ms f (k + 1)) ∧ Below W.heap.size W w5) := fun v' w5 h1 h2 => by
          have on : OwnRow w5 W.heap.size v' (qs ++ [⟨mi, mc, mf, mh, .slice sa sn sc, msl⟩]) := by
            unfold OwnRow
            rw [cellsO_more, List.length_append]
            exact h1
          obtain ⟨a', c', e'⟩ := ownRow_slice on
          have BB := B1.trans (bA.mono B1.size)
          exact ⟨⟨_, _, _, e'⟩, by rw [HNX.out]; exact on, BB.grown h2 BB.size (fun j e => (World.ownsRow.lt HOA.out j e).1)⟩
        have sX1 : X1.heap.size = wr.heap.size + 1 := by rw [hX1]; simp
        rw [sX1] at HNW
        clear O1 B1 b1 bA HNX sX1
        subst hX1
        go_wp2_with (refine wpList_append_own_at _ rfl (.tmp 22) (.tmp 24) 29 rfl W.heap.size 51 i0 (.agg #[.int .i64 0, .int .i64 0, .int .i64 0, .int .i64 0, .slice none 0 0]) 5 56 Try.underlying29 HI.out.1 HI.out.2.1 HI.out.2.2.1 HI.out.2.2.2 rfl (by decide) (.slice ua qs.length uc) qs.length (cellsO qs) rfl HOA.out ⟨wr.heap.size + 1, 0, none⟩ 1 1 (cellsO [⟨mi, mc, mf, mh, .slice sa sn sc, msl⟩]) rfl rfl HNW.out HON.out (by unfold maxLen; omega) (by omega) hba ?_; intro v' w5 hown hgrow _ hat; obtain ⟨⟨va', vn', vc', rfl⟩, st⟩ := HSTEP.out v' w5 hown hgrow; have HST : Hid _ := st; clear st hown hgrow hat)
        exact ⟨⟨k + 1, _, rfl, by omega, by go_num, HST.out⟩, by simp [intOf]; omega⟩
    · have e : k = ms.length := by omega
      subst e
      have hH := ho_below HH.out hB
      obtain ⟨p0, _, _, _, _, pf⟩ := five_cells hH.1
      have pf0 := pf 0
      obtain ⟨k1, k2⟩ := keep_end hH (keptM_sub ms f) (ownRow_base hO hbase) (fun x hx => by
        have h1 := (World.ownsRow.lt hO x (by unfold blk at hx; exact Option.mem_toList.1 hx)).1
        exact ⟨by omega, fun e => by have := (HLG.out x e).2; omega⟩)
      have HE1 : Hid _ := k1
      have HE2 : Hid (Below base W _) := (hB.mono hbase).trans k2
      have hlt' : ¬ (ms.length : Int) < (ms.length : Int) := by omega
      obtain ⟨ua, uc, hus⟩ := ownRow_slice hO
      subst hus
      clear hH hO hB k1 k2 pf
      go_wp2
      go_end0
      exact ⟨rfl, HE1.out, HE2.out⟩
end Go.Proofs.Ytdogibjgogcdkal.gr
