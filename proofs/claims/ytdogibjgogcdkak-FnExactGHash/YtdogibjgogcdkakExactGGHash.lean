/-
  The walk of the law FnExactGHash, given what the program's and the specification's GHash answer.
  Made from the template ExactGGHash.
-/
import Derived.Test.YtdogibjgogcdkakGraphsT
import Derived.Test.YtdogibjgogcdkakGraphsL
import Derived.Deep.RegionLaw
namespace Go.Proofs.Ytdogibjgogcdkak.gr
open Go.RowKit rows heads
set_option maxRecDepth 100000

set_option maxHeartbeats 16000000 in
theorem exactGHash {G : Gr} {b : Int} (x0 : Int)
    (SPEC : ∀ (w : World) (o r m : Value) (ms : List MO), GraphAt w o r m ms G → gSize ms G ≤ 1048576 → Calls Try.prog 25 #[gv o r m G.next G.seed, .int .i64 x0] w fun e w' => e = .returned (.int .i64 b) ∧ Below w.heap.size w w')
    (IMPL : ∀ (w : World) (o r m : Value) (ms : List MO), GraphAt w o r m ms G → gSize ms G ≤ 1048576 → Calls Try.prog 26 #[gv o r m G.next G.seed, .int .i64 x0] w fun e w' => e = .returned (.int .i64 b) ∧ Below w.heap.size w w')
    (w : World) (o r m : Value) (ms : List MO) (h : GraphAt w o r m ms G) :
    Calls Try.prog 8 #[gv o r m G.next G.seed, .int .i64 x0] w fun e w' => e = .returned (.bool true) ∧ Below w.heap.size w w' := by
  obtain ⟨a1, n1, c1, a2, n2, c2, a3, n3, c3, e1, e2, e3⟩ := graphAt_slices h
  subst e1 e2 e3
  have B0 : Below w.heap.size w (w.alloc (.cells #[.slice a1 n1 c1, .slice a2 n2 c2, .slice a3 n3 c3, .int .i64 G.next, .int .i64 G.seed] 25)) := (Below.refl _ w).alloc (Nat.le_refl _) _
  have T0 := five_new w 25 (.slice a1 n1 c1) (.slice a2 n2 c2) (.slice a3 n3 c3) (.int .i64 G.next) (.int .i64 G.seed)
  have SZ := szGraph_any (graphAt_below h B0) 1048576 (Nat.le_refl _)
  have HG : Hid _ := h
  have HB0 : Hid _ := B0
  have HT0 : Hid _ := T0
  clear B0 T0 h
  go_enter Try.func8, Try.ntmps8
  go_wp2_with fail
  generalize (w.alloc (Obj.cells #[.slice a1 n1 c1, .slice a2 n2 c2, .slice a3 n3 c3, .int .i64 G.next, .int .i64 G.seed] 25)) = X0 at *
  refine SZ.mono ?_
  rintro e w1 ⟨rfl, q1⟩
  have B1 := HB0.out.trans (q1.mono HB0.out.size)
  have T1 := five_below HT0.out q1
  clear SZ HB0 HT0 q1
  by_cases hsz : gSize ms G ≤ 1048576
  case neg =>
    rw [if_neg hsz]
    have HB : Hid _ := B1
    clear B1 T1 HG
    go_wp2
    go_ret
    exact ⟨rfl, HB⟩
  rw [if_pos hsz]
  obtain ⟨lf, hlf⟩ : ∃ lf : Nat, ((1048576 : Nat) : Int) - (gSize ms G : Int) = (lf : Int) := ⟨1048576 - gSize ms G, by omega⟩
  rw [hlf]
  have hl0 : ¬ (lf : Int) < 0 := by omega
  clear hlf
  obtain ⟨z0, z1, z2, z3, z4, _⟩ := five_cells T1
  have TG := toGraph_any (graphAt_below HG.out B1) hsz
  have HT1 : Hid _ := T1
  have HB1 : Hid _ := B1
  clear T1 B1
  go_wp2_with fail
  refine TG.mono ?_
  rintro e w2 ⟨o2, r2, m2, rs2, rfl, O2, q2⟩
  have B2 := HB1.out.trans (q2.mono HB1.out.size)
  have T2 := five_below HT1.out q2
  obtain ⟨d1, f1, g1, d2, f2, g2, d3, f3, g3, e1, e2, e3⟩ := graphAt_slices (ownG_at O2)
  subst e1 e2 e3
  have SP := SPEC w2 _ _ _ _ (ownG_at O2) (gSize_of O2.1 HG.out.1 hsz)
  have HT2 : Hid _ := T2
  have HB2 : Hid _ := B2
  clear TG q2 T2 B2 HT1 HB1 O2 SPEC z0 z1 z2 z3 z4
  go_wp2_with fail
  refine SP.mono ?_
  rintro e w4 ⟨rfl, q4⟩
  have B4 := HB2.out.trans (q4.mono HB2.out.size)
  have T4 := five_below HT2.out q4
  obtain ⟨z0, z1, z2, z3, z4, _⟩ := five_cells T4
  have TG := toGraph_any (graphAt_below HG.out B4) hsz
  have HT4 : Hid _ := T4
  have HB4 : Hid _ := B4
  clear SP HT2 HB2 T4 B4 q4
  go_wp2_with fail
  refine TG.mono ?_
  rintro e w5 ⟨o5, r5, m5, rs5, rfl, O5, q5⟩
  have B5 := HB4.out.trans (q5.mono HB4.out.size)
  have T5 := five_below HT4.out q5
  obtain ⟨h1, i1, j1, h2, i2, j2, h3, i3, j3, e1, e2, e3⟩ := graphAt_slices (ownG_at O5)
  subst e1 e2 e3
  have N5 := (Below.refl w5.heap.size w5).alloc (Nat.le_refl _) (gb (.slice h1 i1 j1) (.slice h2 i2 j2) (.slice h3 i3 j3) G.next G.seed)
  have B6 := B5.trans (N5.mono B5.size)
  have T6 := five_below T5 N5
  have X6f := five_new w5 30 (.slice h1 i1 j1) (.slice h2 i2 j2) (.slice h3 i3 j3) (.int .i64 G.next) (.int .i64 G.seed)
  have OX6 := ownG_below O5 N5
  obtain ⟨x0, x1, x2, x3, x4, _⟩ := five_cells X6f
  have IM := IMPL _ _ _ _ _ (ownG_at OX6) (gSize_of OX6.1 HG.out.1 hsz)
  have HB6 : Hid _ := B6
  have HT6 : Hid _ := T6
  have HX6 : Hid _ := X6f
  have HOX6 : Hid _ := OX6
  clear TG HB4 HT4 q5 B5 T5 N5 B6 T6 X6f OX6 O5 z0 z1 z2 z3 z4
  go_wp2_with fail
  generalize hX6 : (w5.alloc (gb (.slice h1 i1 j1) (.slice h2 i2 j2) (.slice h3 i3 j3) G.next G.seed)) = X6 at *
  generalize hP14 : w5.heap.size = P14 at *
  clear hX6
  refine IM.mono ?_
  rintro e w9 ⟨rfl, q9⟩
  have B9 := HB6.out.trans (q9.mono HB6.out.size)
  have T9 := five_below HT6.out q9
  have X9 := five_below HX6.out q9
  have OX9 := ownG_below HOX6.out q9
  clear IM HB6 HT6 HX6 HOX6 q9 x0 x1 x2 x3 x4
  have bb : (b != b) = false := by simp
  have TG := toGraph_any (w := w9.drew) (graphAt_below HG.out B9.drew) hsz
  obtain ⟨z0, z1, z2, z3, z4, _⟩ := five_cells T9
  obtain ⟨x0, x1, x2, x3, x4, _⟩ := five_cells X9
  have HB9 : Hid _ := B9
  have HX9 : Hid _ := X9
  have HOX9 : Hid _ := OX9
  clear B9 T9 X9 OX9
  go_wp2_with fail
  go_region_law (first
    | (go_simp; go_at_call 11; refine TG.mono ?_; clear TG; rintro e w10 ⟨o10, r10, m10, rs10, rfl, O10, q10⟩
       obtain ⟨u1, u2, u3, u4, u5, u6, u7, u8, u9, e1, e2, e3⟩ := graphAt_slices (ownG_at O10)
       subst e1 e2 e3
       have D10 : Below w9.heap.size w9 w10 := ⟨q10.os, q10.tape, q10.output, q10.size, q10.block⟩
       have EQ2 := eqGraph_same (ownG_at (ownG_below HOX9.out D10)) (ownG_at O10) (gSize_of HOX9.out.1 HG.out.1 hsz)
       have X10 := five_below HX9.out D10
       obtain ⟨t0, t1, t2, t3, t4, _⟩ := five_cells X10
       have HD10 : Hid _ := D10
       clear q10 D10 O10 X10)
    | (go_simp; go_at_call 13; refine EQ2.mono ?_; clear EQ2; rintro e w11 ⟨rfl, q11⟩; have HD11 : Hid _ := HD10.out.trans (q11.mono HD10.out.size); clear q11 HD10))
  all_goals
    have HB11 : Hid _ := HB9.out.trans (HD11.out.mono HB9.out.size)
    clear HD11 HB9 HX9 HOX9
    go_wp2
    go_ret
    exact ⟨rfl, HB11⟩
end Go.Proofs.Ytdogibjgogcdkak.gr
