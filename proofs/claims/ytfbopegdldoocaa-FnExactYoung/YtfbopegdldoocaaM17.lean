/-
  The walk of the law FnExactYoung, given what the program's and the specification's Young answer. The walk of the law FnExactFollow, given what the program's and the specification's Follow answer. Chapter 10 as lists: what a word leads to, notes followed. Chapter 10 as the specification has it: Follow. Chapter 10 as the program has it: Follow.
-/
import Derived.Test.YtfbopegdldoocaaM5
import Derived.Deep.RegionLaw
import Derived.Test.YtfbopegdldoocaaM15
import Derived.Test.YtfbopegdldoocaaM9
import Derived.Test.YtfbopegdldoocaaM16
import Derived.WalkMore
namespace Go.Proofs.Ytfbopegdldoocaa.hp
open Go.RowKit rows heads words walks
set_option maxRecDepth 100000
set_option linter.unusedVariables false

set_option maxHeartbeats 16000000 in
theorem exactYoung {H : Hp} {b : Bool} (x0 : Int)
    (SPEC : ∀ (w : World) (vr vo vm vs : Value), HpAt w vr vo vm vs H → hpSize H ≤ 1048576 → Calls Try.prog 11 #[hpv H vr vo vm vs, .int .i64 x0] w fun e w' => e = .returned (.bool b) ∧ Below w.heap.size w w')
    (IMPL : ∀ (w : World) (vr vo vm vs : Value), HpAt w vr vo vm vs H → hpSize H ≤ 1048576 → Calls Try.prog 12 #[hpv H vr vo vm vs, .int .i64 x0] w fun e w' => e = .returned (.bool b) ∧ Below w.heap.size w w')
    (w : World) (vr vo vm vs : Value) (h : HpAt w vr vo vm vs H) :
    Calls Try.prog 4 #[hpv H vr vo vm vs, .int .i64 x0] w fun e w' => e = .returned (.bool true) ∧ Below w.heap.size w w' := by
  obtain ⟨a1, c1, a2, c2, a3, c3, a1z, c1z, e1, e2, e3, e4⟩ := hpAt_slices h
  subst e1 e2 e3 e4
  have B0 : Below w.heap.size w (w.alloc (.cells #[.int .i64 H.half, .int .i64 H.old, .slice a1 H.row.length c1, .int .i64 H.side, .int .i64 H.top, .slice a2 H.roots.length c2, .slice a3 H.mourned.length c3, .slice a1z H.seen.length c1z, .int .i64 H.seed] 24)) := (Below.refl _ w).alloc (Nat.le_refl _) _
  have T0 := nine_mk w 24 (.int .i64 H.half) (.int .i64 H.old) (.slice a1 H.row.length c1) (.int .i64 H.side) (.int .i64 H.top) (.slice a2 H.roots.length c2) (.slice a3 H.mourned.length c3) (.slice a1z H.seen.length c1z) (.int .i64 H.seed)
  have SZ := szHeap_any (hpAt_below h B0) 1048576 (Nat.le_refl _)
  have HG : Hid _ := h
  have HB0 : Hid _ := B0
  have HT0 : Hid _ := T0
  clear B0 T0 h
  go_enter Try.func4, Try.ntmps4
  go_wp2_with fail
  generalize (w.alloc (Obj.cells #[.int .i64 H.half, .int .i64 H.old, .slice a1 H.row.length c1, .int .i64 H.side, .int .i64 H.top, .slice a2 H.roots.length c2, .slice a3 H.mourned.length c3, .slice a1z H.seen.length c1z, .int .i64 H.seed] 24)) = X0 at *
  refine SZ.mono ?_
  rintro e w1 ⟨rfl, q1⟩
  have B1 := HB0.out.trans (q1.mono HB0.out.size)
  have T1 := nine_below HT0.out q1
  clear SZ HB0 HT0 q1
  by_cases hsz : hpSize H ≤ 1048576
  case neg =>
    rw [if_neg hsz]
    have HB : Hid _ := B1
    clear B1 T1 HG
    go_wp2
    go_ret
    exact ⟨rfl, HB⟩
  rw [if_pos hsz]
  obtain ⟨lf, hlf⟩ : ∃ lf : Nat, ((1048576 : Nat) : Int) - (hpSize H : Int) = (lf : Int) := ⟨1048576 - hpSize H, by omega⟩
  rw [hlf]
  have hl0 : ¬ (lf : Int) < 0 := by omega
  clear hlf
  obtain ⟨⟨z0, z1, z2, z3, z4⟩, ⟨z5, z6, z7, z8⟩, _⟩ := nine_cells T1
  have TG := toHeap_any (hpAt_below HG.out B1) hsz
  have HT1 : Hid _ := T1
  have HB1 : Hid _ := B1
  clear T1 B1
  go_wp2_with fail
  refine TG.mono ?_
  rintro e w2 ⟨o2, r2, m2, rs2, rfl, O2, q2⟩
  have B2 := HB1.out.trans (q2.mono HB1.out.size)
  have T2 := nine_below HT1.out q2
  obtain ⟨d1, g1, d2, g2, d3, g3, d1z, g1z, e1, e2, e3, e4⟩ := hpAt_slices (ownH_at O2)
  subst e1 e2 e3 e4
  have SP := SPEC w2 _ _ _ _ (ownH_at O2) hsz
  have HT2 : Hid _ := T2
  have HB2 : Hid _ := B2
  clear TG q2 T2 B2 HT1 HB1 O2 SPEC z0 z1 z2 z3 z4 z5 z6 z7 z8
  go_wp2_with fail
  refine SP.mono ?_
  rintro e w4 ⟨rfl, q4⟩
  have B4 := HB2.out.trans (q4.mono HB2.out.size)
  have T4 := nine_below HT2.out q4
  obtain ⟨⟨z0, z1, z2, z3, z4⟩, ⟨z5, z6, z7, z8⟩, _⟩ := nine_cells T4
  have TG := toHeap_any (hpAt_below HG.out B4) hsz
  have HT4 : Hid _ := T4
  have HB4 : Hid _ := B4
  clear SP HT2 HB2 T4 B4 q4
  go_wp2_with fail
  refine TG.mono ?_
  rintro e w5 ⟨o5, r5, m5, rs5, rfl, O5, q5⟩
  have B5 := HB4.out.trans (q5.mono HB4.out.size)
  have T5 := nine_below HT4.out q5
  obtain ⟨h1, j1, h2, j2, h3, j3, h1z, j1z, e1, e2, e3, e4⟩ := hpAt_slices (ownH_at O5)
  subst e1 e2 e3 e4
  have N5 := (Below.refl w5.heap.size w5).alloc (Nat.le_refl _) (hpb H (.slice h1 H.row.length j1) (.slice h2 H.roots.length j2) (.slice h3 H.mourned.length j3) (.slice h1z H.seen.length j1z))
  have B6 := B5.trans (N5.mono B5.size)
  have T6 := nine_below T5 N5
  have X6f := nine_mk w5 27 (.int .i64 H.half) (.int .i64 H.old) (.slice h1 H.row.length j1) (.int .i64 H.side) (.int .i64 H.top) (.slice h2 H.roots.length j2) (.slice h3 H.mourned.length j3) (.slice h1z H.seen.length j1z) (.int .i64 H.seed)
  have OX6 := ownH_below O5 N5
  obtain ⟨⟨x0, x1, x2, x3, x4⟩, ⟨x5, x6, x7, x8⟩, _⟩ := nine_cells X6f
  have IM := IMPL _ _ _ _ _ (ownH_at OX6) hsz
  have HB6 : Hid _ := B6
  have HT6 : Hid _ := T6
  have HX6 : Hid _ := X6f
  have HOX6 : Hid _ := OX6
  clear TG HB4 HT4 q5 B5 T5 N5 B6 T6 X6f OX6 O5 z0 z1 z2 z3 z4 z5 z6 z7 z8
  go_wp2_with fail
  generalize hX6 : (w5.alloc (hpb H (.slice h1 H.row.length j1) (.slice h2 H.roots.length j2) (.slice h3 H.mourned.length j3) (.slice h1z H.seen.length j1z))) = X6 at *
  generalize hP14 : w5.heap.size = P14 at *
  clear hX6
  refine IM.mono ?_
  rintro e w9 ⟨rfl, q9⟩
  have B9 := HB6.out.trans (q9.mono HB6.out.size)
  have T9 := nine_below HT6.out q9
  have X9 := nine_below HX6.out q9
  have OX9 := ownH_below HOX6.out q9
  clear IM HB6 HT6 HX6 HOX6 q9 x0 x1 x2 x3 x4 x5 x6 x7 x8
  have bb : (b != b) = false := by simp
  have TG := toHeap_any (w := w9.drew) (hpAt_below HG.out B9.drew) hsz
  obtain ⟨⟨z0, z1, z2, z3, z4⟩, ⟨z5, z6, z7, z8⟩, _⟩ := nine_cells T9
  obtain ⟨⟨x0, x1, x2, x3, x4⟩, ⟨x5, x6, x7, x8⟩, _⟩ := nine_cells X9
  have HB9 : Hid _ := B9
  have HX9 : Hid _ := X9
  have HOX9 : Hid _ := OX9
  clear B9 T9 X9 OX9
  go_wp2_with fail
  go_region_law (first
    | (go_simp; go_at_call 8; refine TG.mono ?_; clear TG; rintro e w10 ⟨o10, r10, m10, rs10, rfl, O10, q10⟩
       obtain ⟨u1, u3, u4, u6, u7, u9, u1z, u3z, e1, e2, e3, e4⟩ := hpAt_slices (ownH_at O10)
       subst e1 e2 e3 e4
       have D10 : Below w9.heap.size w9 w10 := ⟨q10.os, q10.tape, q10.output, q10.size, q10.block⟩
       have EQ2 := eqHeap_same (ownH_at (ownH_below HOX9.out D10)) (ownH_at O10) hsz
       have X10 := nine_below HX9.out D10
       obtain ⟨⟨t0, t1, t2, t3, t4⟩, ⟨t5, t6, t7, t8⟩, _⟩ := nine_cells X10
       have HD10 : Hid _ := D10
       clear q10 D10 O10 X10)
    | (go_simp; go_at_call 10; refine EQ2.mono ?_; clear EQ2; rintro e w11 ⟨rfl, q11⟩; have HD11 : Hid _ := HD10.out.trans (q11.mono HD10.out.size); clear q11 HD10))
  all_goals
    have HB11 : Hid _ := HB9.out.trans (HD11.out.mono HB9.out.size)
    clear HD11 HB9 HX9 HOX9
    go_wp2
    go_ret
    exact ⟨rfl, HB11⟩
end Go.Proofs.Ytfbopegdldoocaa.hp
namespace Go.Proofs.Ytfbopegdldoocaa.hp
open Go.RowKit rows heads words walks
set_option maxRecDepth 100000
set_option linter.unusedVariables false

set_option maxHeartbeats 16000000 in
theorem exactFollow {H : Hp} {b : Int} (x0 : Int)
    (SPEC : ∀ (w : World) (vr vo vm vs : Value), HpAt w vr vo vm vs H → hpSize H ≤ 1048576 → Calls Try.prog 13 #[hpv H vr vo vm vs, .int .i64 x0] w fun e w' => e = .returned (.int .i64 b) ∧ Below w.heap.size w w')
    (IMPL : ∀ (w : World) (vr vo vm vs : Value), HpAt w vr vo vm vs H → hpSize H ≤ 1048576 → Calls Try.prog 14 #[hpv H vr vo vm vs, .int .i64 x0] w fun e w' => e = .returned (.int .i64 b) ∧ Below w.heap.size w w')
    (w : World) (vr vo vm vs : Value) (h : HpAt w vr vo vm vs H) :
    Calls Try.prog 5 #[hpv H vr vo vm vs, .int .i64 x0] w fun e w' => e = .returned (.bool true) ∧ Below w.heap.size w w' := by
  obtain ⟨a1, c1, a2, c2, a3, c3, a1z, c1z, e1, e2, e3, e4⟩ := hpAt_slices h
  subst e1 e2 e3 e4
  have B0 : Below w.heap.size w (w.alloc (.cells #[.int .i64 H.half, .int .i64 H.old, .slice a1 H.row.length c1, .int .i64 H.side, .int .i64 H.top, .slice a2 H.roots.length c2, .slice a3 H.mourned.length c3, .slice a1z H.seen.length c1z, .int .i64 H.seed] 24)) := (Below.refl _ w).alloc (Nat.le_refl _) _
  have T0 := nine_mk w 24 (.int .i64 H.half) (.int .i64 H.old) (.slice a1 H.row.length c1) (.int .i64 H.side) (.int .i64 H.top) (.slice a2 H.roots.length c2) (.slice a3 H.mourned.length c3) (.slice a1z H.seen.length c1z) (.int .i64 H.seed)
  have SZ := szHeap_any (hpAt_below h B0) 1048576 (Nat.le_refl _)
  have HG : Hid _ := h
  have HB0 : Hid _ := B0
  have HT0 : Hid _ := T0
  clear B0 T0 h
  go_enter Try.func5, Try.ntmps5
  go_wp2_with fail
  generalize (w.alloc (Obj.cells #[.int .i64 H.half, .int .i64 H.old, .slice a1 H.row.length c1, .int .i64 H.side, .int .i64 H.top, .slice a2 H.roots.length c2, .slice a3 H.mourned.length c3, .slice a1z H.seen.length c1z, .int .i64 H.seed] 24)) = X0 at *
  refine SZ.mono ?_
  rintro e w1 ⟨rfl, q1⟩
  have B1 := HB0.out.trans (q1.mono HB0.out.size)
  have T1 := nine_below HT0.out q1
  clear SZ HB0 HT0 q1
  by_cases hsz : hpSize H ≤ 1048576
  case neg =>
    rw [if_neg hsz]
    have HB : Hid _ := B1
    clear B1 T1 HG
    go_wp2
    go_ret
    exact ⟨rfl, HB⟩
  rw [if_pos hsz]
  obtain ⟨lf, hlf⟩ : ∃ lf : Nat, ((1048576 : Nat) : Int) - (hpSize H : Int) = (lf : Int) := ⟨1048576 - hpSize H, by omega⟩
  rw [hlf]
  have hl0 : ¬ (lf : Int) < 0 := by omega
  clear hlf
  obtain ⟨⟨z0, z1, z2, z3, z4⟩, ⟨z5, z6, z7, z8⟩, _⟩ := nine_cells T1
  have TG := toHeap_any (hpAt_below HG.out B1) hsz
  have HT1 : Hid _ := T1
  have HB1 : Hid _ := B1
  clear T1 B1
  go_wp2_with fail
  refine TG.mono ?_
  rintro e w2 ⟨o2, r2, m2, rs2, rfl, O2, q2⟩
  have B2 := HB1.out.trans (q2.mono HB1.out.size)
  have T2 := nine_below HT1.out q2
  obtain ⟨d1, g1, d2, g2, d3, g3, d1z, g1z, e1, e2, e3, e4⟩ := hpAt_slices (ownH_at O2)
  subst e1 e2 e3 e4
  have SP := SPEC w2 _ _ _ _ (ownH_at O2) hsz
  have HT2 : Hid _ := T2
  have HB2 : Hid _ := B2
  clear TG q2 T2 B2 HT1 HB1 O2 SPEC z0 z1 z2 z3 z4 z5 z6 z7 z8
  go_wp2_with fail
  refine SP.mono ?_
  rintro e w4 ⟨rfl, q4⟩
  have B4 := HB2.out.trans (q4.mono HB2.out.size)
  have T4 := nine_below HT2.out q4
  obtain ⟨⟨z0, z1, z2, z3, z4⟩, ⟨z5, z6, z7, z8⟩, _⟩ := nine_cells T4
  have TG := toHeap_any (hpAt_below HG.out B4) hsz
  have HT4 : Hid _ := T4
  have HB4 : Hid _ := B4
  clear SP HT2 HB2 T4 B4 q4
  go_wp2_with fail
  refine TG.mono ?_
  rintro e w5 ⟨o5, r5, m5, rs5, rfl, O5, q5⟩
  have B5 := HB4.out.trans (q5.mono HB4.out.size)
  have T5 := nine_below HT4.out q5
  obtain ⟨h1, j1, h2, j2, h3, j3, h1z, j1z, e1, e2, e3, e4⟩ := hpAt_slices (ownH_at O5)
  subst e1 e2 e3 e4
  have N5 := (Below.refl w5.heap.size w5).alloc (Nat.le_refl _) (hpb H (.slice h1 H.row.length j1) (.slice h2 H.roots.length j2) (.slice h3 H.mourned.length j3) (.slice h1z H.seen.length j1z))
  have B6 := B5.trans (N5.mono B5.size)
  have T6 := nine_below T5 N5
  have X6f := nine_mk w5 27 (.int .i64 H.half) (.int .i64 H.old) (.slice h1 H.row.length j1) (.int .i64 H.side) (.int .i64 H.top) (.slice h2 H.roots.length j2) (.slice h3 H.mourned.length j3) (.slice h1z H.seen.length j1z) (.int .i64 H.seed)
  have OX6 := ownH_below O5 N5
  obtain ⟨⟨x0, x1, x2, x3, x4⟩, ⟨x5, x6, x7, x8⟩, _⟩ := nine_cells X6f
  have IM := IMPL _ _ _ _ _ (ownH_at OX6) hsz
  have HB6 : Hid _ := B6
  have HT6 : Hid _ := T6
  have HX6 : Hid _ := X6f
  have HOX6 : Hid _ := OX6
  clear TG HB4 HT4 q5 B5 T5 N5 B6 T6 X6f OX6 O5 z0 z1 z2 z3 z4 z5 z6 z7 z8
  go_wp2_with fail
  generalize hX6 : (w5.alloc (hpb H (.slice h1 H.row.length j1) (.slice h2 H.roots.length j2) (.slice h3 H.mourned.length j3) (.slice h1z H.seen.length j1z))) = X6 at *
  generalize hP14 : w5.heap.size = P14 at *
  clear hX6
  refine IM.mono ?_
  rintro e w9 ⟨rfl, q9⟩
  have B9 := HB6.out.trans (q9.mono HB6.out.size)
  have T9 := nine_below HT6.out q9
  have X9 := nine_below HX6.out q9
  have OX9 := ownH_below HOX6.out q9
  clear IM HB6 HT6 HX6 HOX6 q9 x0 x1 x2 x3 x4 x5 x6 x7 x8
  have bb : (b != b) = false := by simp
  have TG := toHeap_any (w := w9.drew) (hpAt_below HG.out B9.drew) hsz
  obtain ⟨⟨z0, z1, z2, z3, z4⟩, ⟨z5, z6, z7, z8⟩, _⟩ := nine_cells T9
  obtain ⟨⟨x0, x1, x2, x3, x4⟩, ⟨x5, x6, x7, x8⟩, _⟩ := nine_cells X9
  have HB9 : Hid _ := B9
  have HX9 : Hid _ := X9
  have HOX9 : Hid _ := OX9
  clear B9 T9 X9 OX9
  go_wp2_with fail
  go_region_law (first
    | (go_simp; go_at_call 8; refine TG.mono ?_; clear TG; rintro e w10 ⟨o10, r10, m10, rs10, rfl, O10, q10⟩
       obtain ⟨u1, u3, u4, u6, u7, u9, u1z, u3z, e1, e2, e3, e4⟩ := hpAt_slices (ownH_at O10)
       subst e1 e2 e3 e4
       have D10 : Below w9.heap.size w9 w10 := ⟨q10.os, q10.tape, q10.output, q10.size, q10.block⟩
       have EQ2 := eqHeap_same (ownH_at (ownH_below HOX9.out D10)) (ownH_at O10) hsz
       have X10 := nine_below HX9.out D10
       obtain ⟨⟨t0, t1, t2, t3, t4⟩, ⟨t5, t6, t7, t8⟩, _⟩ := nine_cells X10
       have HD10 : Hid _ := D10
       clear q10 D10 O10 X10)
    | (go_simp; go_at_call 10; refine EQ2.mono ?_; clear EQ2; rintro e w11 ⟨rfl, q11⟩; have HD11 : Hid _ := HD10.out.trans (q11.mono HD10.out.size); clear q11 HD10))
  all_goals
    have HB11 : Hid _ := HB9.out.trans (HD11.out.mono HB9.out.size)
    clear HD11 HB9 HX9 HOX9
    go_wp2
    go_ret
    exact ⟨rfl, HB11⟩
end Go.Proofs.Ytfbopegdldoocaa.hp
namespace Go.Proofs.Ytfbopegdldoocaa.hp
open Go.RowKit rows heads words walks
set_option maxRecDepth 100000
set_option linter.unusedVariables false

/-- Does a word lead to a note? -/
def toNote (H : Hp) (x : Int) : Bool := isA x && ntH H (av x)
/-- What stands there. -/
def noteW (H : Hp) (x : Int) : Int := H.row.getD ((av x).toNat + 1) 0
def folL (H : Hp) : Nat → Int → Int
  | 0, x => x
  | n + 1, x => if toNote H x = true then folL H n (noteW H x) else x
def rkL (H : Hp) : Nat → Int → Nat
  | 0, _ => 0
  | n + 1, x => if toNote H x = true then rkL H n (noteW H x) + 1 else 0
/-- The word, followed. -/
def fol (H : Hp) (x : Int) : Int := folL H 1000 x
/-- How many notes are met. -/
def rk (H : Hp) (x : Int) : Nat := rkL H 1000 x
theorem fol_stop {H : Hp} {x : Int} (h : toNote H x = false) : fol H x = x := by
  unfold fol folL
  rw [if_neg (by rw [h]; decide)]
theorem nx_note (H : Hp) (x : Int) : nxH H (av x) = av (noteW H x) := rfl
theorem folL_more (H : Hp) : ∀ (n : Nat) (x : Int), (isA x = true → ends (ntH H) (nxH H) n (av x) = true) → folL H n x = folL H (n + 1) x ∧ rkL H n x = rkL H (n + 1) x
  | 0, x, h => by
    have : toNote H x = false := by
      unfold toNote
      cases e : isA x
      · rfl
      · cases h e
    unfold folL rkL
    rw [if_neg (by rw [this]; decide), if_neg (by rw [this]; decide)]
    exact ⟨rfl, rfl⟩
  | n + 1, x, h => by
    cases e : toNote H x
    · have e0 : ¬ toNote H x = true := by rw [e]; decide
      constructor
      · rw [folL, if_neg e0, folL, if_neg e0]
      · rw [rkL, if_neg e0, rkL, if_neg e0]
    · have e' := e
      unfold toNote at e'
      rw [Bool.and_eq_true] at e'
      have h1 := h e'.1
      unfold ends at h1
      rw [if_pos e'.2, nx_note] at h1
      obtain ⟨i1, i2⟩ := folL_more H n (noteW H x) (fun _ => h1)
      constructor
      · rw [folL, if_pos e, folL, if_pos e, i1]
      · rw [rkL, if_pos e, rkL, if_pos e, i2]
/-- What is so of a heap that is right but for what is seen. -/
structure Rt (H : Hp) (ps : List Int) : Prop where
  some' : placesR H = some ps
  plc : ∀ p ∈ ps, ∃ j : Nat, p = j ∧ j < H.row.length ∧ chunk H.row j ≠ 0
  notes : Notes H ps
  fin : ∀ p ∈ ps, ends (ntH H) (nxH H) 1000 p = true
  slots : slotsOk H ps = true
  roots : H.roots.all (wordIn H ps) = true
  mourned : mournOk H ps = true
theorem rt_of {H : Hp} (h : rightB H = true) : ∃ ps, Rt H ps := by
  obtain ⟨ps, hps⟩ := right_some h
  unfold rightB at h
  rw [hps] at h
  simp only [Bool.and_eq_true] at h
  obtain ⟨⟨⟨h1, h2⟩, h3⟩, h4⟩ := h
  obtain ⟨hp, hl⟩ := places_plc hps
  have hN := notes_of hp h1
  refine ⟨ps, hps, hp, hN, fun p hpp => ?_, h1, h3, h4⟩
  exact (fins_iff (notes_next hN) hpp (by omega)).2 ((endsOk_is hN).1 h2 p hpp)
theorem Rt.len {H : Hp} {ps : List Int} (R : Rt H ps) : H.row.length ≤ 1000 := by
  have N := (places_facts R.some').1
  have := N.len
  have := N.half1
  have := N.old1
  omega
theorem ok_right {H : Hp} (h : heapOk H = true) : rightB H = true ∧ H.seen = seenL H := by
  unfold heapOk at h
  rw [Bool.and_eq_true, decide_eq_true_eq] at h
  exact h
theorem word_place {H : Hp} {ps : List Int} {x : Int} (h : wordIn H ps x = true) (hA : isA x = true) : av x ∈ ps ∧ uF (H.row.getD (av x).toNat 0) ≠ 6 := by
  unfold wordIn at h
  rw [hA] at h
  simpa using (by simpa using h : isW x = true ∧ _).2
theorem Rt.note {H : Hp} {ps : List Int} (R : Rt H ps) {x : Int} (hx : wordIn H ps x = true) (hn : toNote H x = true) : (av x).toNat + 1 < H.row.length ∧ wordIn H ps (noteW H x) = true ∧ isA (noteW H x) = true ∧ fol H x = fol H (noteW H x) ∧ rk H (noteW H x) < rk H x := by
  have hn' := hn
  unfold toNote at hn'
  rw [Bool.and_eq_true] at hn'
  obtain ⟨hA, hnt⟩ := hn'
  obtain ⟨hm, _⟩ := word_place hx hA
  have h7 : uF (H.row.getD (av x).toNat 0) = 7 := by simpa [ntH] using hnt
  obtain ⟨n1, n2, n3⟩ := R.notes _ hm h7
  have hf := R.fin _ hm
  have hf' : ends (ntH H) (nxH H) 999 (av (noteW H x)) = true := by
    unfold ends at hf
    rw [if_pos hnt, nx_note] at hf
    exact hf
  obtain ⟨i1, i2⟩ := folL_more H 999 (noteW H x) (fun _ => hf')
  refine ⟨n1, ?_, n2, ?_, ?_⟩
  · have hs := R.slots
    unfold slotsOk at hs
    rw [List.all_eq_true] at hs
    have h1 := hs _ hm
    rw [List.all_eq_true] at h1
    refine h1 _ ?_
    unfold slotsOf cnS noteW
    rw [if_pos h7, List.mem_iff_getElem?]
    refine ⟨0, ?_⟩
    rw [List.getElem?_take, if_pos (by decide), List.getElem?_drop, Nat.add_zero, List.getElem?_eq_getElem n1, List.getD_eq_getElem?_getD, List.getElem?_eq_getElem n1]; rfl
  · show folL H 1000 x = folL H 1000 (noteW H x)
    rw [show (1000 : Nat) = 999 + 1 from rfl, folL, if_pos hn, i1]
  · show rkL H 1000 (noteW H x) < rkL H 1000 x
    rw [show rkL H 1000 x = rkL H 999 (noteW H x) + 1 by rw [show (1000 : Nat) = 999 + 1 from rfl, rkL, if_pos hn], i2]
    exact Nat.lt_succ_self _
/-- What is followed may stand there, too, and leads to no note. -/
theorem Rt.fol {H : Hp} {ps : List Int} (R : Rt H ps) : ∀ (n : Nat) (x : Int), rk H x ≤ n → wordIn H ps x = true → wordIn H ps (fol H x) = true ∧ toNote H (hp.fol H x) = false
  | n, x, hr, hx => by
    cases e : toNote H x
    · rw [fol_stop e]; exact ⟨hx, e⟩
    · obtain ⟨_, h2, _, h4, h5⟩ := R.note hx e
      rw [h4]
      match n, hr with
      | 0, hr => omega
      | n + 1, hr => exact R.fol n _ (by omega) h2
theorem Rt.followed {H : Hp} {ps : List Int} (R : Rt H ps) {x : Int} (hx : wordIn H ps x = true) : wordIn H ps (hp.fol H x) = true ∧ toNote H (hp.fol H x) = false := R.fol _ x (Nat.le_refl _) hx
/-- The answer of Follow. -/
def folOk (H : Hp) (x : Int) : Int := if (heapOk H && wordIn H ((placesR H).getD []) x) = true then fol H x else 2
end Go.Proofs.Ytfbopegdldoocaa.hp
namespace Go.Proofs.Ytfbopegdldoocaa.hp
open Go.RowKit rows heads words walks region
set_option maxRecDepth 100000
set_option linter.unusedVariables false
set_option linter.unusedSimpArgs false

set_option maxHeartbeats 8000000 in
theorem l10Follow_any {w : World} {vr vo vm vs : Value} {H : Hp} (h : HpAt w vr vo vm vs H) {ps : List Int} (R : Rt H ps) (x : Int) (hx : wordIn H ps x = true) :
    Calls Try.prog 26 #[hpv H vr vo vm vs, .int .i64 x] w fun e w' => e = .returned (.int .i64 (fol H x)) ∧ Below w.heap.size w w' := by
  obtain ⟨a1, c1, a2, c2, a3, c3, a4, c4, e1, e2, e3, e4⟩ := hpAt_slices h
  subst e1 e2 e3 e4
  have B0 : Below w.heap.size w (w.alloc (hpb H (.slice a1 H.row.length c1) (.slice a2 H.roots.length c2) (.slice a3 H.mourned.length c3) (.slice a4 H.seen.length c4))) := (Below.refl _ _).alloc (Nat.le_refl _) _
  have HB0 : Hid _ := B0
  have HT0 : Hid _ := nine_new w H (.slice a1 H.row.length c1) (.slice a2 H.roots.length c2) (.slice a3 H.mourned.length c3) (.slice a4 H.seen.length c4)
  have HH : Hid _ := h
  obtain ⟨A, hA⟩ : ∃ A, fol H x = A := ⟨_, rfl⟩
  rw [hA]
  have HA : Hid _ := hA
  have HR : Hid _ := R
  have HX : Hid _ := hx
  clear h B0 hA R hx
  go_enter Try.func26, Try.ntmps26
  go_wp2_with fail
  go_loopw [1, 5, 6] (fun u _ _ wz => ∃ y : Int, u = .int .i64 y ∧ wordIn H ps y = true ∧ fol H y = A ∧ Nine wz w.heap.size 27 (.int .i64 H.half) (.int .i64 H.old) (.slice a1 H.row.length c1) (.int .i64 H.side) (.int .i64 H.top) (.slice a2 H.roots.length c2) (.slice a3 H.mourned.length c3) (.slice a4 H.seen.length c4) (.int .i64 H.seed) ∧ Below w.heap.size w wz) (fun u _ _ _ => rk H (intOf u))
  case atStart => exact ⟨x, rfl, HX.out, HA.out, HT0.out, HB0.out⟩
  case round =>
    obtain ⟨y, rfl, hy, hF, hT, hB⟩ := hrel
    clear HT0 HB0 HA HX
    obtain ⟨⟨z0, z1, z2, z3, z4⟩, ⟨z5, z6, z7, z8⟩, _⟩ := nine_cells hT
    have sr := hB.size
    have SA := sAddrOf_any y
    have HT : Hid _ := hT
    have HB : Hid _ := hB
    have HF : Hid _ := hF
    cases dA : isA y
    · have HE : Hid (A = y) := by show _ = _; rw [← hF]; exact fol_stop (by unfold toNote; rw [dA]; rfl)
      rw [dA] at SA
      clear hT hB hF hy dA
      go_wp2_with (go_at_call 32; refine (SA _).mono ?_; clear SA; rintro e w3 ⟨rfl, hw3⟩; rw [hw3]; clear hw3 w3)
      go_ret
      exact ⟨by rw [HE.out]; rfl, HB.out⟩
    · rw [dA] at SA
      obtain ⟨hm, _⟩ := word_place hy dA
      obtain ⟨j, hj, hjl, _⟩ := HR.out.plc _ hm
      have hI := (hpAt_below HH.out hB).1
      have L4 := l4Head_any hI j hjl
      unfold hw at L4
      have HST : Hid (toNote H y = false → A = y) := fun e => by rw [← hF]; exact fol_stop e
      have HNT : Hid (toNote H y = true → _) := fun e => HR.out.note hy e
      have htn : toNote H y = (uF (H.row.getD j 0) == 7) := by unfold toNote ntH; rw [dA, hj, Int.toNat_natCast]; rfl
      have hnw : noteW H y = H.row.getD (j + 1) 0 := by unfold noteW; rw [hj, Int.toNat_natCast]
      simp only [hnw, hj, Int.toNat_natCast] at HNT
      rw [hj] at SA
      generalize uF (H.row.getD j 0) = f at *
      generalize uS (H.row.getD j 0) = s at *
      generalize uC (H.row.getD j 0) = c at *
      generalize uH (H.row.getD j 0) = g at *
      generalize uP (H.row.getD j 0) = p0 at *
      generalize uM (H.row.getD j 0) = m at *
      have FF := field_format s f c g p0 m
      by_cases h7 : f = 7
      · obtain ⟨hj1, n2, n3, n4, n5⟩ := HNT.out (by rw [htn, h7]; rfl)
        subst h7
        obtain ⟨a', c', e', _, _, _, hcc⟩ := hI
        have e1 : a1 = a' := by injection e'
        subst e1
        obtain ⟨b, off, rfl, hb, hcc⟩ := hcc (by omega)
        have x1 := hcc (j + 1) hj1
        have HN : Hid (wordIn H ps (H.row.getD (j + 1) 0) = true ∧ fol H (H.row.getD (j + 1) 0) = A ∧ rk H (H.row.getD (j + 1) 0) < rk H y) := ⟨n2, by rw [← n4]; exact hF, n5⟩
        generalize H.row.getD (j + 1) 0 = z at *
        have hlen := HR.out.len
        have hj0 : j ≤ 1000 := by omega
        have hj1' : ((j : Int) + 1).toNat = j + 1 := by omega
        have hj2 : (0 : Int) ≤ (j : Int) + 1 := by omega
        have hj3 : (j : Int) + 1 < (H.row.length : Int) := by omega
        clear hT hB hF hy hcc e' htn hnw HST HNT n2 n3 n4 n5 dA hm hj hjl
        go_wp2_with (first
          | (go_at_call 32; refine (SA _).mono ?_; clear SA; rintro e w3 ⟨rfl, hw3⟩; rw [hw3]; clear hw3 w3)
          | (go_at_call 29; refine L4.mono ?_; clear L4; rintro e w2 ⟨rfl, b2⟩; have T2 := nine_below HT.out b2; have x2 := (b2.cell (p := ⟨b, off + (j + 1), none⟩) hb).trans x1; clear z0 z1 z2 z3 z4 z5 z6 z7 z8 x1; obtain ⟨⟨z0, z1, z2, z3, z4⟩, ⟨z5, z6, z7, z8⟩, _⟩ := nine_cells T2; have HT2 : Hid _ := T2; have HB2 : Hid _ := HB.out.trans (b2.mono sr); clear b2 T2))
        exact ⟨⟨z, rfl, HN.out.1, HN.out.2.1, HT2.out, HB2.out⟩, HN.out.2.2⟩
      · have h7' : (f != 7) = true := by simp [h7]
        have HE : Hid (A = y) := HST.out (by rw [htn]; simpa using h7)
        clear hT hB hF hy htn hnw HST HNT dA hm hj hjl hI
        go_wp2_with (first
          | (go_at_call 32; refine (SA _).mono ?_; clear SA; rintro e w3 ⟨rfl, hw3⟩; rw [hw3]; clear hw3 w3)
          | (go_at_call 29; refine L4.mono ?_; clear L4; rintro e w2 ⟨rfl, b2⟩; have HB2 : Hid _ := HB.out.trans (b2.mono sr); clear b2))
        go_ret
        exact ⟨by rw [HE.out]; rfl, HB2.out⟩
set_option maxHeartbeats 8000000 in
theorem sFollow_any {w : World} {vr vo vm vs : Value} {H : Hp} (h : HpAt w vr vo vm vs H) (hs : hpSize H ≤ 1048576) (y : Int) :
    Calls Try.prog 13 #[hpv H vr vo vm vs, .int .i64 y] w fun e w' => e = .returned (.int .i64 (folOk H y)) ∧ Below w.heap.size w w' := by
  obtain ⟨a1, c1, a2, c2, a3, c3, a4, c4, e1, e2, e3, e4⟩ := hpAt_slices h
  subst e1 e2 e3 e4
  have B0 : Below w.heap.size w (w.alloc (hpb H (.slice a1 H.row.length c1) (.slice a2 H.roots.length c2) (.slice a3 H.mourned.length c3) (.slice a4 H.seen.length c4))) := (Below.refl _ _).alloc (Nat.le_refl _) _
  have T0 := nine_new w H (.slice a1 H.row.length c1) (.slice a2 H.roots.length c2) (.slice a3 H.mourned.length c3) (.slice a4 H.seen.length c4)
  have HT0 : Hid _ := T0
  have HB0 : Hid _ := B0
  have HH0 : Hid (HpAt _ (.slice a1 H.row.length c1) (.slice a2 H.roots.length c2) (.slice a3 H.mourned.length c3) (.slice a4 H.seen.length c4) H) := hpAt_below h B0
  obtain ⟨⟨z0, z1, z2, z3, z4⟩, ⟨z5, z6, z7, z8⟩, _⟩ := nine_cells T0
  have HK := sHeapOk_any HH0.out hs
  unfold folOk
  cases dr : heapOk H
  · rw [dr] at HK
    rw [Bool.false_and, if_neg (by decide)]
    clear B0 T0 h dr
    go_enter Try.func13, Try.ntmps13
    go_wp2_with (go_at_call 7; refine HK.mono ?_; clear HK; rintro e w2 ⟨rfl, b2⟩; have HBE : Hid _ := HB0.out.trans (b2.mono HB0.out.size); clear b2)
    go_ret
    exact ⟨rfl, HBE.out⟩
  rw [dr] at HK
  rw [Bool.true_and]
  obtain ⟨ps, RR⟩ := rt_of (ok_right dr).1
  rw [RR.some', Option.getD_some]
  have HPL : Hid (∀ V, Below (w.alloc (hpb H (.slice a1 H.row.length c1) (.slice a2 H.roots.length c2) (.slice a3 H.mourned.length c3) (.slice a4 H.seen.length c4))).heap.size (w.alloc (hpb H (.slice a1 H.row.length c1) (.slice a2 H.roots.length c2) (.slice a3 H.mourned.length c3) (.slice a4 H.seen.length c4))) V → Calls Try.prog 24 #[hpv H (.slice a1 H.row.length c1) (.slice a2 H.roots.length c2) (.slice a3 H.mourned.length c3) (.slice a4 H.seen.length c4)] V fun e w' => ∃ v', e = .returned (.tuple #[v', .bool true]) ∧ rows.Own w' V.heap.size v' ps ∧ Below V.heap.size V w') := fun V hV => by
    have := l9Places_any (hpAt_below HH0.out hV)
    rw [RR.some', Option.getD_some, Option.isSome_some] at this
    exact this
  have hplc : Plc H ps := fun p hp => by obtain ⟨j, a, b, _⟩ := RR.plc p hp; exact ⟨j, a, b⟩
  have hpl := (places_plc RR.some').2
  have HWD : Hid (∀ V, Below (w.alloc (hpb H (.slice a1 H.row.length c1) (.slice a2 H.roots.length c2) (.slice a3 H.mourned.length c3) (.slice a4 H.seen.length c4))).heap.size (w.alloc (hpb H (.slice a1 H.row.length c1) (.slice a2 H.roots.length c2) (.slice a3 H.mourned.length c3) (.slice a4 H.seen.length c4))) V → ∀ u, IntsAt V u ps → Calls Try.prog 25 #[hpv H (.slice a1 H.row.length c1) (.slice a2 H.roots.length c2) (.slice a3 H.mourned.length c3) (.slice a4 H.seen.length c4), u, .int .i64 y] V fun e w' => e = .returned (.bool (wordIn H ps y)) ∧ Below V.heap.size V w') := fun V hV u hu => l9Word_any (hpAt_below HH0.out hV) hu (by omega) hplc y
  have HFO : Hid (wordIn H ps y = true → ∀ V, Below (w.alloc (hpb H (.slice a1 H.row.length c1) (.slice a2 H.roots.length c2) (.slice a3 H.mourned.length c3) (.slice a4 H.seen.length c4))).heap.size (w.alloc (hpb H (.slice a1 H.row.length c1) (.slice a2 H.roots.length c2) (.slice a3 H.mourned.length c3) (.slice a4 H.seen.length c4))) V → Calls Try.prog 26 #[hpv H (.slice a1 H.row.length c1) (.slice a2 H.roots.length c2) (.slice a3 H.mourned.length c3) (.slice a4 H.seen.length c4), .int .i64 y] V fun e w' => e = .returned (.int .i64 (fol H y)) ∧ Below V.heap.size V w') := fun hx V hV => l10Follow_any (hpAt_below HH0.out hV) RR y hx
  have HG : Hid (∀ V, Below (w.alloc (hpb H (.slice a1 H.row.length c1) (.slice a2 H.roots.length c2) (.slice a3 H.mourned.length c3) (.slice a4 H.seen.length c4))).heap.size (w.alloc (hpb H (.slice a1 H.row.length c1) (.slice a2 H.roots.length c2) (.slice a3 H.mourned.length c3) (.slice a4 H.seen.length c4))) V → Nine V w.heap.size 27 (.int .i64 H.half) (.int .i64 H.old) (.slice a1 H.row.length c1) (.int .i64 H.side) (.int .i64 H.top) (.slice a2 H.roots.length c2) (.slice a3 H.mourned.length c3) (.slice a4 H.seen.length c4) (.int .i64 H.seed) ∧ Below w.heap.size w V) := fun V hV => ⟨nine_below HT0.out hV, HB0.out.trans (hV.mono HB0.out.size)⟩
  obtain ⟨P, hP⟩ : ∃ P, wordIn H ps y = P := ⟨_, rfl⟩
  simp only [hP] at HWD HFO
  rw [hP]
  generalize fol H y = F at *
  clear B0 T0 h dr RR hplc hpl hP
  go_enter Try.func13, Try.ntmps13
  go_wp2_with fail
  generalize (w.alloc (hpb H (.slice a1 H.row.length c1) (.slice a2 H.roots.length c2) (.slice a3 H.mourned.length c3) (.slice a4 H.seen.length c4))) = X at *
  clear HT0 HH0 HB0
  refine HK.mono ?_
  clear HK
  rintro e w2 ⟨rfl, b2⟩
  clear z0 z1 z2 z3 z4 z5 z6 z7 z8
  obtain ⟨⟨z0, z1, z2, z3, z4⟩, ⟨z5, z6, z7, z8⟩, _⟩ := nine_cells (HG.out w2 b2).1
  have PL := HPL.out w2 b2
  have HB2 : Hid _ := b2
  clear HPL b2
  cases P
  · go_wp2_with (first
      | (go_at_call 24; refine PL.mono ?_; clear PL z0 z1 z2 z3 z4 z5 z6 z7 z8; rintro e w3 ⟨v3, rfl, O3, b3⟩; have HB3 : Hid _ := HB2.out.trans (b3.mono HB2.out.size); have WD := HWD.out w3 HB3.out _ (own_ints O3); obtain ⟨sa, sn, sc, rfl⟩ := ints_slice (own_ints O3); obtain ⟨⟨z0, z1, z2, z3, z4⟩, ⟨z5, z6, z7, z8⟩, _⟩ := nine_cells (HG.out w3 HB3.out).1; clear O3 b3 HWD)
      | (go_at_call 25; refine WD.mono ?_; clear WD; rintro e w4 ⟨rfl, b4⟩; have HB4 : Hid _ := (HG.out w4 (HB3.out.trans (b4.mono HB3.out.size))).2; clear b4))
    go_ret
    exact ⟨rfl, HB4.out⟩
  · go_wp2_with (first
      | (go_at_call 24; refine PL.mono ?_; clear PL z0 z1 z2 z3 z4 z5 z6 z7 z8; rintro e w3 ⟨v3, rfl, O3, b3⟩; have HB3 : Hid _ := HB2.out.trans (b3.mono HB2.out.size); have WD := HWD.out w3 HB3.out _ (own_ints O3); obtain ⟨sa, sn, sc, rfl⟩ := ints_slice (own_ints O3); obtain ⟨⟨z0, z1, z2, z3, z4⟩, ⟨z5, z6, z7, z8⟩, _⟩ := nine_cells (HG.out w3 HB3.out).1; clear O3 b3 HWD)
      | (go_at_call 25; refine WD.mono ?_; clear WD z0 z1 z2 z3 z4 z5 z6 z7 z8; rintro e w4 ⟨rfl, b4⟩; have HB4 : Hid _ := HB3.out.trans (b4.mono HB3.out.size); obtain ⟨⟨z0, z1, z2, z3, z4⟩, ⟨z5, z6, z7, z8⟩, _⟩ := nine_cells (HG.out w4 HB4.out).1; have FO := HFO.out (by trivial) w4 HB4.out; clear b4 HFO)
      | (go_at_call 26; refine FO.mono ?_; clear FO; rintro e w5 ⟨rfl, b5⟩; have HB5 : Hid _ := (HG.out w5 (HB4.out.trans (b5.mono HB4.out.size))).2; clear b5))
    go_ret
    exact ⟨rfl, HB5.out⟩
end Go.Proofs.Ytfbopegdldoocaa.hp
namespace Go.Proofs.Ytfbopegdldoocaa.hp
open Go.RowKit rows heads words walks
set_option maxRecDepth 100000
set_option linter.unusedVariables false
set_option linter.unusedSimpArgs false

/-- What the program knows of notes, as the heap has it. -/
structure FolP (H : Hp) (ps : List Int) (ds : List Pd) (sl : Pd → List Int) : Prop where
  rt : Rt H ps
  note : NoteP ds sl (ntH H) (nxH H)
  word : ∀ x, holdW ds x = wordIn H ps x
  first : ∀ i, i < ds.length → (ds.getD i pdD).f = 7 → (sl (ds.getD i pdD)).getD 0 0 = H.row.getD ((ds.getD i pdD).pl.toNat + 1) 0
theorem folP_of {a : Option Addr} {H : Hp} (h : heapOk H = true) : ∃ ps, FolP H ps (objsP a H) (slP H.row) := by
  have hr := (ok_right h).1
  obtain ⟨ps, R⟩ := rt_of hr
  rw [← openB_is a H] at hr
  obtain ⟨hn, hro, hS, _, _⟩ := openB_parts hr
  have hb : placesB H = some ps := by
    have := R.some'
    unfold placesR at this
    split at this
    · cases this
    · exact this
  have RM := rooms_of (a := a) hn hro hb R.some'
  refine ⟨ps, R, noteP_of hn hro hS, RM.word, fun i hi h7 => ?_⟩
  obtain ⟨j, e, hc, h6⟩ := objs_in hro _ (mem_getDP hi)
  rw [e] at h7 ⊢
  rw [(slP_note (a := a) hc h7).2, pdOf_pl, Int.toNat_natCast]; rfl
set_option maxHeartbeats 16000000 in
theorem follow_any {w : World} {up : Int} {a : Option Addr} {cap : Nat} {H : Hp} {ps : List Int} {ds : List Pd} {sl : Pd → List Int} (hv : RoomsAt w (.slice a ds.length cap) ds sl) (hF : FolP H ps ds sl) (x : Int) (hx : wordIn H ps x = true) (hb : I64 x) :
    Calls Try.prog 28 #[rmv up (.slice a ds.length cap), .int .i64 x] w fun e w' => e = .returned (.int .i64 (fol H x)) ∧ Below w.heap.size w w' := by
  have B0 : Below w.heap.size w (w.alloc (rmb up (.slice a ds.length cap))) := (Below.refl _ _).alloc (Nat.le_refl _) _
  have HALL : Hid (∀ V, Below (w.alloc (rmb up (.slice a ds.length cap))).heap.size (w.alloc (rmb up (.slice a ds.length cap))) V → (V.cell? ⟨w.heap.size, 0, none⟩ = some (.int .i64 up) ∧ V.cell? ⟨w.heap.size, 1, none⟩ = some (.slice a ds.length cap)) ∧ Below w.heap.size w V) := by
    intro V hV
    have q0 : V.heap[w.heap.size]? = some (rmb up (.slice a ds.length cap)) := (hV.block _ (by simp)).trans (heap_alloc_new w _)
    exact ⟨(rmb_cells q0).1, B0.trans (hV.mono B0.size)⟩
  have HLB : Hid (∀ V, Below w.heap.size w V → ∀ x, I64 x → Calls Try.prog 44 #[rmv up (.slice a ds.length cap), .int .i64 x] V fun e w' => (ledB ds x = false → e = .returned (.tuple #[pdv pdD, .bool false])) ∧ (ledB ds x = true → ∃ i, i < ds.length ∧ (ds.getD i pdD).pl = av x ∧ e = .returned (.tuple #[pdv (ds.getD i pdD), .bool true])) ∧ Below V.heap.size V w') := fun V hV x hx => ledBy_any (pdsAt_below hv.pds hV) hv.slices hv.rise (Nat.le_trans hv.len (by decide)) x hx.1 hx.2
  have HSL : Hid _ := hv.slices
  have HSP : Hid _ := hv.slots
  have HFP : Hid _ := hF
  obtain ⟨A, hA⟩ : ∃ A, fol H x = A := ⟨_, rfl⟩
  rw [hA]
  have HA : Hid _ := hA
  have HX : Hid _ := hx
  have HXB : Hid _ := hb
  clear hv hF B0 hA hx hb
  go_enter Try.func28, Try.ntmps28
  go_wp2_with fail
  generalize w.alloc (rmb up (.slice a ds.length cap)) = X at *
  go_step3
  go_wp2_with fail
  go_step3
  go_wp2_with fail
  go_loopw [1, 5, 6] (fun u _ _ wz => ∃ y : Int, u = .int .i64 y ∧ wordIn H ps y = true ∧ I64 y ∧ fol H y = A ∧ Below X.heap.size X wz) (fun u _ _ _ => rk H (intOf u))
  case atStart => exact ⟨x, rfl, HX.out, HXB.out, HA.out, Below.refl _ _⟩
  case round =>
    obtain ⟨y, rfl, hy, hyb, hF, hB⟩ := hrel
    clear HA HX HXB
    have HB : Hid _ := hB
    obtain ⟨⟨z0, z1⟩, bw⟩ := HALL.out wr hB
    have LB := HLB.out wr bw y hyb
    have hw := HFP.out.word y
    rw [hy] at hw
    cases hl : ledB ds y
    · have HE : Hid (A = y) := by
        show _ = _
        rw [← hF]
        refine fol_stop ?_
        unfold toNote
        unfold ledB at hl
        unfold holdW at hw
        cases e : isA y
        · rfl
        · rw [e] at hl hw
          rw [Bool.true_and] at hl
          rw [if_pos rfl, hl] at hw
          cases hw
      have L0 := LB.mono (fun e w' (hh : _ ∧ _ ∧ _) => (⟨hh.1 hl, hh.2.2⟩ : e = .returned (.tuple #[pdv pdD, .bool false]) ∧ Below wr.heap.size wr w'))
      have HBW : Hid _ := bw
      clear LB hl hw hF hy bw hB
      go_upto_region 2 with (go_at_call 44; refine L0.mono ?_; clear L0 z0 z1; rintro e w3 ⟨rfl, b3⟩; have HB3 : Hid _ := HBW.out.trans (b3.mono HBW.out.size); clear b3)
      obtain ⟨⟨p0, p1, p2, p3, p4, p5, p6, p7⟩, _⟩ := pdb_cells (heap_alloc_new w3 (pdb pdD))
      have HB4 : Hid _ := HB3.out.alloc HB3.out.size (pdb pdD)
      generalize w3.alloc (pdb pdD) = Y at *
      go_wp2
      try rw [Exit.noGoto_ret]
      go_ret
      exact ⟨by rw [HE.out]; rfl, HB4.out⟩
    · have L0 := LB.mono (fun e w' (hh : _ ∧ _ ∧ _) => (⟨hh.2.1 hl, hh.2.2⟩ : (∃ i, i < ds.length ∧ (ds.getD i pdD).pl = av y ∧ e = .returned (.tuple #[pdv (ds.getD i pdD), .bool true])) ∧ Below wr.heap.size wr w'))
      have hAy : isA y = true := by
        unfold ledB at hl
        rw [Bool.and_eq_true] at hl
        exact hl.1
      have HST : Hid (toNote H y = false → A = y) := fun e => by rw [← hF]; exact fol_stop e
      have HNT : Hid (toNote H y = true → _) := fun e => HFP.out.rt.note hy e
      have HFY : Hid _ := hF
      have HBW : Hid _ := bw
      have HAY : Hid _ := hAy
      clear LB hl hw hF hy bw hB hAy
      go_upto_region 2 with (go_at_call 44; refine L0.mono ?_; clear L0 z0 z1; rintro e w3 ⟨⟨i, hi, hpl, rfl⟩, b3⟩; have HB3 : Hid (Below X.heap.size X w3) := HB.out.trans (b3.mono HB.out.size); obtain ⟨sa, sn, sc, hsv⟩ := HSL.out _ (mem_getDP hi); have HN1 : Hid _ := HFP.out.note.isNote i hi; have HSO : Hid _ := HFP.out.note.some' i hi; have HFI : Hid _ := HFP.out.first i hi; have HSC : Hid _ := (fun V hV => HSP.out.call V hV i hi); have HSN : Hid _ := HSP.out.num i hi; obtain ⟨d, hd⟩ : ∃ d, ds.getD i pdD = d := ⟨_, rfl⟩; simp only [hd] at hsv hpl HN1 HSO HFI HSC HSN; rw [hd]; obtain ⟨ds', df, dc, dh, dp, dm, du, dl⟩ := d; simp only at hsv hpl HN1 HSO HFI HSC; subst hsv; have HPL : Hid _ := hpl; clear b3 hd hpl)
      obtain ⟨⟨p0, p1, p2, p3, p4, p5, p6, p7⟩, _⟩ := pdb_cells (heap_alloc_new w3 (pdb ⟨ds', df, dc, dh, dp, dm, .slice sa sn sc, dl⟩))
      simp only at p0 p1 p2 p3 p4 p5 p6 p7
      have HB4 : Hid (Below X.heap.size X (w3.alloc (pdb ⟨ds', df, dc, dh, dp, dm, .slice sa sn sc, dl⟩))) := HB3.out.alloc HB3.out.size _
      generalize w3.alloc (pdb ⟨ds', df, dc, dh, dp, dm, .slice sa sn sc, dl⟩) = Y at *
      have htn : toNote H y = (df == 7) := by unfold toNote; rw [HAY.out, Bool.true_and, ← HPL.out]; exact HN1.out.symm
      cases h7 : (df == 7)
      · have h7' : ¬ df = 7 := by simpa using h7
        have HE : Hid (A = y) := HST.out (by rw [htn]; exact h7)
        have HBE : Hid _ := (HALL.out Y HB4.out).2
        clear htn HST HNT
        go_wp2
        try rw [Exit.noGoto_ret]
        go_ret
        exact ⟨by rw [HE.out]; rfl, HBE.out⟩
      · obtain rfl : df = 7 := by simpa using h7
        obtain ⟨_, n2, n3, n4, n5⟩ := HNT.out (by rw [htn]; rfl)
        have hxp := HSO.out (by trivial)
        have hfi := HFI.out (by trivial)
        have hz : noteW H y = (sl ⟨ds', 7, dc, dh, dp, dm, .slice sa sn sc, dl⟩).getD 0 0 := by unfold noteW; rw [← HPL.out]; exact hfi.symm
        have hzb := getD_num HSN.out hxp
        have BY := (HALL.out Y HB4.out).2
        have NA := note_any (w := Y) hxp (fun V' hV' => HSC.out V' (BY.trans (hV'.mono BY.size)))
        rw [← hz] at NA hzb
        have HN : Hid (wordIn H ps (noteW H y) = true ∧ I64 (noteW H y) ∧ fol H (noteW H y) = A ∧ rk H (noteW H y) < rk H y) := ⟨n2, hzb, by rw [← n4]; exact HFY.out, n5⟩
        clear htn HST HNT h7 hz hfi hxp hzb n2 n3 n4 n5 BY
        generalize noteW H y = z at *
        go_wp2_with (go_at_call 45; refine NA.mono ?_; clear NA p0 p1 p2 p3 p4 p5 p6 p7; rintro e w5 ⟨rfl, b5⟩; have HB5 : Hid _ := HB4.out.trans (b5.mono HB4.out.size); clear b5)
        exact ⟨⟨z, rfl, HN.out.1, HN.out.2.1, HN.out.2.2.1, HB5.out⟩, HN.out.2.2.2⟩
set_option maxHeartbeats 8000000 in
theorem implFollow {H : Hp} (hI : HpI H) (y : Int) (hy : I64 y) (w : World) (vr vo vm vs : Value) (h : HpAt w vr vo vm vs H) (hs : hpSize H ≤ 1048576) :
    Calls Try.prog 14 #[hpv H vr vo vm vs, .int .i64 y] w fun e w' => e = .returned (.int .i64 (folOk H y)) ∧ Below w.heap.size w w' := by
  obtain ⟨a1, c1, a2, c2, a3, c3, a4, c4, e1, e2, e3, e4⟩ := hpAt_slices h
  subst e1 e2 e3 e4
  obtain ⟨B0, q0, hX⟩ := hp_all h
  obtain ⟨z0, z1, z2, z3, z4, z5, z6, z7, z8⟩ := hpb_cells q0
  have OX := opened_any hX hs hI
  unfold OpenR at OX
  have HB0 : Hid _ := B0
  have HXP : Hid _ := hX
  have HII : Hid _ := hI
  clear h hs hI B0 q0 hX
  unfold folOk
  cases hh : heapOk H
  · have R0 := OX.mono (fun e w' (g : _ ∧ _ ∧ _) => (⟨g.1 hh, g.2.2⟩ : e = .returned (.tuple #[hov0, .bool false]) ∧ Below _ _ w'))
    rw [Bool.false_and, if_neg (by decide)]
    clear OX hh
    go_enter Try.func14, Try.ntmps14
    go_wp2_with (go_at_call 20; refine R0.mono ?_; clear R0 z0 z1 z2 z3 z4 z5 z6 z7 z8; rintro e w1 ⟨rfl, b1⟩; have HB1 : Hid _ := HB0.out.trans (b1.mono HB0.out.size); clear b1)
    go_ret
    exact ⟨rfl, HB1.out.alloc HB1.out.size _⟩
  have R0 := OX.mono (fun e w' (g : _ ∧ _ ∧ _) => (⟨g.2.1 hh, g.2.2⟩ : (∃ a5 c5, e = .returned (.tuple #[hov H (.slice a1 H.row.length c1) (.slice a2 H.roots.length c2) (.slice a3 H.mourned.length c3) (.slice a4 H.seen.length c4) (2 * H.half) (.slice a5 (objsP a1 H).length c5), .bool true]) ∧ OwnP w' _ (.slice a5 (objsP a1 H).length c5) (objsP a1 H)) ∧ Below _ _ w'))
  obtain ⟨ps, FP⟩ := folP_of (a := a1) hh
  have hrt := (ok_right hh).1
  rw [← openB_is a1 H] at hrt
  obtain ⟨hn, hro, _⟩ := openB_parts hrt
  have HRA : Hid (∀ V v, HpAt V (.slice a1 H.row.length c1) (.slice a2 H.roots.length c2) (.slice a3 H.mourned.length c3) (.slice a4 H.seen.length c4) H → PdsAt V v (objsP a1 H) → RoomsAt V v (objsP a1 H) (slP H.row)) := fun V v h1 h2 => roomsAt_of h1.1 hn hro HII.out.2.1 h2
  rw [Bool.true_and, FP.rt.some', Option.getD_some]
  have HHO : Hid (∀ V a5 c5, RoomsAt V (.slice a5 (objsP a1 H).length c5) (objsP a1 H) (slP H.row) → Calls Try.prog 27 #[rmv (2 * H.half) (.slice a5 (objsP a1 H).length c5), .int .i64 y] V fun e w' => e = .returned (.bool (wordIn H ps y)) ∧ Below V.heap.size V w') := fun V a5 c5 r => by
    have := holds_any (up := 2 * H.half) r.pds r.slices r.rise (Nat.le_trans r.len (by decide)) y hy.1 hy.2
    rwa [FP.word] at this
  have HFO : Hid (wordIn H ps y = true → ∀ V a5 c5, RoomsAt V (.slice a5 (objsP a1 H).length c5) (objsP a1 H) (slP H.row) → Calls Try.prog 28 #[rmv (2 * H.half) (.slice a5 (objsP a1 H).length c5), .int .i64 y] V fun e w' => e = .returned (.int .i64 (fol H y)) ∧ Below V.heap.size V w') := fun hx V a5 c5 r => follow_any r FP y hx hy
  obtain ⟨P, hP⟩ : ∃ P, wordIn H ps y = P := ⟨_, rfl⟩
  simp only [hP] at HHO HFO
  rw [hP]
  generalize fol H y = F at *
  clear OX hh FP hrt hn hro hy hP
  go_enter Try.func14, Try.ntmps14
  go_upto_region 2 with (go_at_call 20; refine R0.mono ?_; clear R0 z0 z1 z2 z3 z4 z5 z6 z7 z8; rintro e w1 ⟨⟨a5, c5, rfl, O1⟩, b1⟩; have HB1 : Hid _ := HB0.out.trans (b1.mono HB0.out.size); have HX1 : Hid _ := hpAt_below HXP.out b1; have HO1 : Hid _ := O1; clear b1 O1)
  have B2 : Below w1.heap.size w1 (w1.alloc (hob H (.slice a1 H.row.length c1) (.slice a2 H.roots.length c2) (.slice a3 H.mourned.length c3) (.slice a4 H.seen.length c4) (2 * H.half) (.slice a5 (objsP a1 H).length c5))) := (Below.refl _ _).alloc (Nat.le_refl _) _
  have HB2 : Hid _ := HB1.out.trans (B2.mono HB1.out.size)
  have HQ2 : Hid _ := heap_alloc_new w1 (hob H (.slice a1 H.row.length c1) (.slice a2 H.roots.length c2) (.slice a3 H.mourned.length c3) (.slice a4 H.seen.length c4) (2 * H.half) (.slice a5 (objsP a1 H).length c5))
  have HR2 : Hid _ := HRA.out _ _ (hpAt_below HX1.out B2) (pdsAt_below (ownP_at HO1.out) B2)
  obtain ⟨⟨m0, m1, m2, m3, m4, m5, m6, m7, m8, m9, m10⟩, _⟩ := hob_cells HQ2.out
  clear B2 HO1 HX1 HRA HXP HII
  generalize w1.alloc (hob H (.slice a1 H.row.length c1) (.slice a2 H.roots.length c2) (.slice a3 H.mourned.length c3) (.slice a4 H.seen.length c4) (2 * H.half) (.slice a5 (objsP a1 H).length c5)) = Y at *
  generalize w1.heap.size = n1 at *
  have HO := HHO.out Y a5 c5 HR2.out
  clear HHO
  cases P
  · go_wp2_with (go_at_call 27; refine HO.mono ?_; clear HO m0 m1 m2 m3 m4 m5 m6 m7 m8 m9 m10; rintro e w2 ⟨rfl, b2⟩; have HB3 : Hid _ := HB2.out.trans (b2.mono HB2.out.size); clear b2)
    go_ret
    exact ⟨rfl, HB3.out⟩
  · go_wp2_with (first
      | (go_at_call 27; refine HO.mono ?_; clear HO m0 m1 m2 m3 m4 m5 m6 m7 m8 m9 m10; rintro e w2 ⟨rfl, b2⟩; have HB3 : Hid _ := HB2.out.trans (b2.mono HB2.out.size); obtain ⟨⟨m0, m1, m2, m3, m4, m5, m6, m7, m8, m9, m10⟩, _⟩ := hob_cells ((b2.block _ (lt_of_block HQ2.out)).trans HQ2.out); have FO := HFO.out (by trivial) w2 a5 c5 (HR2.out.below b2); clear b2 HFO)
      | (go_at_call 28; refine FO.mono ?_; clear FO; rintro e w3 ⟨rfl, b3⟩; have HB4 : Hid _ := HB3.out.trans (b3.mono HB3.out.size); clear b3))
    go_ret
    exact ⟨rfl, HB4.out⟩
end Go.Proofs.Ytfbopegdldoocaa.hp
