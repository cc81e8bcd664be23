/-
  The walk of the law FnExactClassOf, given what the program's and the specification's ClassOf answer.
  Made from the template ExactHClassOf.
-/
import Derived.Test.YtemlagfaaibenaaGreatHeapE
import Derived.Deep.RegionLaw
namespace Go.Proofs.YtemlagfaaibenaaGreat.hp
open Go.RowKit rows heads words walks
set_option maxRecDepth 100000
set_option linter.unusedVariables false

set_option maxHeartbeats 16000000 in
theorem exactClassOf {H : Hp} {b : Int} (x0 : Int)
    (SPEC : ∀ (w : World) (vr vo vm vs : Value), HpAt w vr vo vm vs H → hpSize H ≤ 1048576 → Calls Tryz.prog 12 #[hpv H vr vo vm vs, .int .i64 x0] w fun e w' => e = .returned (.int .i64 b) ∧ Below w.heap.size w w')
    (IMPL : ∀ (w : World) (vr vo vm vs : Value), HpAt w vr vo vm vs H → hpSize H ≤ 1048576 → Calls Tryz.prog 13 #[hpv H vr vo vm vs, .int .i64 x0] w fun e w' => e = .returned (.int .i64 b) ∧ Below w.heap.size w w')
    (w : World) (vr vo vm vs : Value) (h : HpAt w vr vo vm vs H) :
    Calls Tryz.prog 4 #[hpv H vr vo vm vs, .int .i64 x0] w fun e w' => e = .returned (.bool true) ∧ Below w.heap.size w w' := by
  obtain ⟨a1, c1, a2, c2, a3, c3, a1z, c1z, e1, e2, e3, e4⟩ := hpAt_slices h
  subst e1 e2 e3 e4
  have B0 : Below w.heap.size w (w.alloc (.cells #[.int .i64 H.half, .int .i64 H.old, .slice a1 H.row.length c1, .int .i64 H.side, .int .i64 H.top, .slice a2 H.roots.length c2, .slice a3 H.mourned.length c3, .slice a1z H.seen.length c1z, .int .i64 H.seed] 24)) := (Below.refl _ w).alloc (Nat.le_refl _) _
  have T0 := nine_mk w 24 (.int .i64 H.half) (.int .i64 H.old) (.slice a1 H.row.length c1) (.int .i64 H.side) (.int .i64 H.top) (.slice a2 H.roots.length c2) (.slice a3 H.mourned.length c3) (.slice a1z H.seen.length c1z) (.int .i64 H.seed)
  have SZ := szHeap_any (hpAt_below h B0) 1048576 (Nat.le_refl _)
  have HG : Hid _ := h
  have HB0 : Hid _ := B0
  have HT0 : Hid _ := T0
  clear B0 T0 h
  go_enter Tryz.func4, Tryz.ntmps4
  go_wp2_with fail
  generalize (w.alloc (Obj.cells #[.int .i64 H.half, .int .i64 H.old, .slice a1 H.row.length c1, .int .i64 H.side, .int .i64 H.top, .slice a2 H.roots.length c2, .slice a3 H.mourned.length c3, .slice a1z H.seen.length c1z, .int .i64 H.seed] 24)) = X0 at *
  refine SZ.mono ?_
  rintro e w1 ⟨rfl, q1⟩
  have B1 := HB0.out.trans (q1.mono HB0.out.size)
  have T1 := nine_below HT0.out q1
  clear SZ HB0 HT0 q1
  by_cases hsz : hpSize H ≤ 1048576
  case neg =>
    rw [if_neg hsz]
    have HB : Hid _ := B1
    clear B1 T1 HG
    go_wp2
    go_ret
    exact ⟨rfl, HB⟩
  rw [if_pos hsz]
  obtain ⟨lf, hlf⟩ : ∃ lf : Nat, ((1048576 : Nat) : Int) - (hpSize H : Int) = (lf : Int) := ⟨1048576 - hpSize H, by omega⟩
  rw [hlf]
  have hl0 : ¬ (lf : Int) < 0 := by omega
  clear hlf
  obtain ⟨⟨z0, z1, z2, z3, z4⟩, ⟨z5, z6, z7, z8⟩, _⟩ := nine_cells T1
  have TG := toHeap_any (hpAt_below HG.out B1) hsz
  have HT1 : Hid _ := T1
  have HB1 : Hid _ := B1
  clear T1 B1
  go_wp2_with fail
  refine TG.mono ?_
  rintro e w2 ⟨o2, r2, m2, rs2, rfl, O2, q2⟩
  have B2 := HB1.out.trans (q2.mono HB1.out.size)
  have T2 := nine_below HT1.out q2
  obtain ⟨d1, g1, d2, g2, d3, g3, d1z, g1z, e1, e2, e3, e4⟩ := hpAt_slices (ownH_at O2)
  subst e1 e2 e3 e4
  have SP := SPEC w2 _ _ _ _ (ownH_at O2) hsz
  have HT2 : Hid _ := T2
  have HB2 : Hid _ := B2
  clear TG q2 T2 B2 HT1 HB1 O2 SPEC z0 z1 z2 z3 z4 z5 z6 z7 z8
  go_wp2_with fail
  refine SP.mono ?_
  rintro e w4 ⟨rfl, q4⟩
  have B4 := HB2.out.trans (q4.mono HB2.out.size)
  have T4 := nine_below HT2.out q4
  obtain ⟨⟨z0, z1, z2, z3, z4⟩, ⟨z5, z6, z7, z8⟩, _⟩ := nine_cells T4
  have TG := toHeap_any (hpAt_below HG.out B4) hsz
  have HT4 : Hid _ := T4
  have HB4 : Hid _ := B4
  clear SP HT2 HB2 T4 B4 q4
  go_wp2_with fail
  refine TG.mono ?_
  rintro e w5 ⟨o5, r5, m5, rs5, rfl, O5, q5⟩
  have B5 := HB4.out.trans (q5.mono HB4.out.size)
  have T5 := nine_below HT4.out q5
  obtain ⟨h1, j1, h2, j2, h3, j3, h1z, j1z, e1, e2, e3, e4⟩ := hpAt_slices (ownH_at O5)
  subst e1 e2 e3 e4
  have N5 := (Below.refl w5.heap.size w5).alloc (Nat.le_refl _) (hpb H (.slice h1 H.row.length j1) (.slice h2 H.roots.length j2) (.slice h3 H.mourned.length j3) (.slice h1z H.seen.length j1z))
  have B6 := B5.trans (N5.mono B5.size)
  have T6 := nine_below T5 N5
  have X6f := nine_mk w5 27 (.int .i64 H.half) (.int .i64 H.old) (.slice h1 H.row.length j1) (.int .i64 H.side) (.int .i64 H.top) (.slice h2 H.roots.length j2) (.slice h3 H.mourned.length j3) (.slice h1z H.seen.length j1z) (.int .i64 H.seed)
  have OX6 := ownH_below O5 N5
  obtain ⟨⟨x0, x1, x2, x3, x4⟩, ⟨x5, x6, x7, x8⟩, _⟩ := nine_cells X6f
  have IM := IMPL _ _ _ _ _ (ownH_at OX6) hsz
  have HB6 : Hid _ := B6
  have HT6 : Hid _ := T6
  have HX6 : Hid _ := X6f
  have HOX6 : Hid _ := OX6
  clear TG HB4 HT4 q5 B5 T5 N5 B6 T6 X6f OX6 O5 z0 z1 z2 z3 z4 z5 z6 z7 z8
  go_wp2_with fail
  generalize hX6 : (w5.alloc (hpb H (.slice h1 H.row.length j1) (.slice h2 H.roots.length j2) (.slice h3 H.mourned.length j3) (.slice h1z H.seen.length j1z))) = X6 at *
  generalize hP14 : w5.heap.size = P14 at *
  clear hX6
  refine IM.mono ?_
  rintro e w9 ⟨rfl, q9⟩
  have B9 := HB6.out.trans (q9.mono HB6.out.size)
  have T9 := nine_below HT6.out q9
  have X9 := nine_below HX6.out q9
  have OX9 := ownH_below HOX6.out q9
  clear IM HB6 HT6 HX6 HOX6 q9 x0 x1 x2 x3 x4 x5 x6 x7 x8
  have bb : (b != b) = false := by simp
  have TG := toHeap_any (w := w9.drew) (hpAt_below HG.out B9.drew) hsz
  obtain ⟨⟨z0, z1, z2, z3, z4⟩, ⟨z5, z6, z7, z8⟩, _⟩ := nine_cells T9
  obtain ⟨⟨x0, x1, x2, x3, x4⟩, ⟨x5, x6, x7, x8⟩, _⟩ := nine_cells X9
  have HB9 : Hid _ := B9
  have HX9 : Hid _ := X9
  have HOX9 : Hid _ := OX9
  clear B9 T9 X9 OX9
  go_wp2_with fail
  go_region_law (first
    | (go_simp; go_at_call 9; refine TG.mono ?_; clear TG; rintro e w10 ⟨o10, r10, m10, rs10, rfl, O10, q10⟩
       obtain ⟨u1, u3, u4, u6, u7, u9, u1z, u3z, e1, e2, e3, e4⟩ := hpAt_slices (ownH_at O10)
       subst e1 e2 e3 e4
       have D10 : Below w9.heap.size w9 w10 := ⟨q10.os, q10.tape, q10.output, q10.size, q10.block⟩
       have EQ2 := eqHeap_same (ownH_at (ownH_below HOX9.out D10)) (ownH_at O10) hsz
       have X10 := nine_below HX9.out D10
       obtain ⟨⟨t0, t1, t2, t3, t4⟩, ⟨t5, t6, t7, t8⟩, _⟩ := nine_cells X10
       have HD10 : Hid _ := D10
       clear q10 D10 O10 X10)
    | (go_simp; go_at_call 11; refine EQ2.mono ?_; clear EQ2; rintro e w11 ⟨rfl, q11⟩; have HD11 : Hid _ := HD10.out.trans (q11.mono HD10.out.size); clear q11 HD10))
  all_goals
    have HB11 : Hid _ := HB9.out.trans (HD11.out.mono HB9.out.size)
    clear HD11 HB9 HX9 HOX9
    go_wp2
    go_ret
    exact ⟨rfl, HB11⟩
end Go.Proofs.YtemlagfaaibenaaGreat.hp
