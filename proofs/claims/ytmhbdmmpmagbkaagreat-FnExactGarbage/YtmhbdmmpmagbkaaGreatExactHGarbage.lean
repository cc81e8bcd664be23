/-
  The walk of the law FnExactGarbage, given what the program's and the specification's Garbage answer (a list of numbers).
  Made from the template ExactHGarbage.
-/
import Derived.Test.YtmhbdmmpmagbkaaGreatHeapK
import Derived.Test.YtmhbdmmpmagbkaaGreatM6
import Derived.Test.YtmhbdmmpmagbkaaGreatM1
namespace Go.Proofs.YtmhbdmmpmagbkaaGreat.hp
open Go.RowKit rows heads words walks
set_option maxRecDepth 100000
set_option linter.unusedVariables false
set_option linter.unusedVariables false

set_option maxHeartbeats 16000000 in
theorem exactGarbage {H : Hp} {xs : List Int}
    (SPEC : ∀ (w : World) (vr vo vm vs : Value), HpAt w vr vo vm vs H → hpSize H ≤ 1048576 → Calls Tryz.prog 28 #[hpv H vr vo vm vs] w fun e w' => ∃ v, e = .returned v ∧ rows.Own w' w.heap.size v xs ∧ Below w.heap.size w w')
    (IMPL : ∀ (w : World) (vr vo vm vs : Value), HpAt w vr vo vm vs H → hpSize H ≤ 1048576 → Calls Tryz.prog 29 #[hpv H vr vo vm vs] w fun e w' => ∃ v, e = .returned v ∧ rows.Own w' w.heap.size v xs ∧ Below w.heap.size w w')
    (hR : xs.length ≤ 1048576)
    (w : World) (vr vo vm vs : Value) (h : HpAt w vr vo vm vs H) :
    Calls Tryz.prog 7 #[hpv H vr vo vm vs] w fun e w' => e = .returned (.bool true) ∧ Below w.heap.size w w' := by
  obtain ⟨a1, c1, a2, c2, a3, c3, a1z, c1z, e1, e2, e3, e4⟩ := hpAt_slices h
  subst e1 e2 e3 e4
  have B0 : Below w.heap.size w (w.alloc (.cells #[.int .i64 H.half, .int .i64 H.old, .slice a1 H.row.length c1, .int .i64 H.side, .int .i64 H.top, .slice a2 H.roots.length c2, .slice a3 H.mourned.length c3, .slice a1z H.seen.length c1z, .int .i64 H.seed] 24)) := (Below.refl _ w).alloc (Nat.le_refl _) _
  have T0 := nine_mk w 24 (.int .i64 H.half) (.int .i64 H.old) (.slice a1 H.row.length c1) (.int .i64 H.side) (.int .i64 H.top) (.slice a2 H.roots.length c2) (.slice a3 H.mourned.length c3) (.slice a1z H.seen.length c1z) (.int .i64 H.seed)
  have SZ := szHeap_any (hpAt_below h B0) 1048576 (Nat.le_refl _)
  have HG : Hid _ := h
  have HB0 : Hid _ := B0
  have HT0 : Hid _ := T0
  clear B0 T0 h
  go_enter Tryz.func7, Tryz.ntmps7
  go_wp2_with fail
  generalize (w.alloc (Obj.cells #[.int .i64 H.half, .int .i64 H.old, .slice a1 H.row.length c1, .int .i64 H.side, .int .i64 H.top, .slice a2 H.roots.length c2, .slice a3 H.mourned.length c3, .slice a1z H.seen.length c1z, .int .i64 H.seed] 24)) = X0 at *
  refine SZ.mono ?_
  rintro e w1 ⟨rfl, q1⟩
  have B1 := HB0.out.trans (q1.mono HB0.out.size)
  have T1 := nine_below HT0.out q1
  clear SZ HB0 HT0 q1
  by_cases hsz : hpSize H ≤ 1048576
  case neg =>
    rw [if_neg hsz]
    have HB : Hid _ := B1
    clear B1 T1 HG
    go_wp2
    go_ret
    exact ⟨rfl, HB⟩
  rw [if_pos hsz]
  obtain ⟨lf, hlf⟩ : ∃ lf : Nat, ((1048576 : Nat) : Int) - (hpSize H : Int) = (lf : Int) := ⟨1048576 - hpSize H, by omega⟩
  rw [hlf]
  have hl0 : ¬ (lf : Int) < 0 := by omega
  clear hlf
  obtain ⟨⟨z0, z1, z2, z3, z4⟩, ⟨z5, z6, z7, z8⟩, _⟩ := nine_cells T1
  -- the specification's answer
  have TG := toHeap_any (hpAt_below HG.out B1) hsz
  have HT1 : Hid _ := T1
  have HB1 : Hid _ := B1
  clear T1 B1
  go_wp2_with fail
  refine TG.mono ?_
  rintro e w2 ⟨o2, r2, m2, rs2, rfl, O2, q2⟩
  have B2 := HB1.out.trans (q2.mono HB1.out.size)
  have T2 := nine_below HT1.out q2
  obtain ⟨d1, g1, d2, g2, d3, g3, d1z, g1z, e1, e2, e3, e4⟩ := hpAt_slices (ownH_at O2)
  subst e1 e2 e3 e4
  have SP := SPEC w2 _ _ _ _ (ownH_at O2) hsz
  have HT2 : Hid _ := T2
  have HB2 : Hid _ := B2
  clear TG q2 T2 B2 HT1 HB1 O2 SPEC z0 z1 z2 z3 z4 z5 z6 z7 z8
  go_wp2_with fail
  refine SP.mono ?_
  rintro e w4 ⟨vW, rfl, O4, q4⟩
  obtain ⟨wa, wn, wc, rfl⟩ := ints_slice (own_ints O4)
  have B4 := HB2.out.trans (q4.mono HB2.out.size)
  have T4 := nine_below HT2.out q4
  have L4 := blk_lt O4
  have p5 := lt_of_block T4
  obtain ⟨⟨z0, z1, z2, z3, z4⟩, ⟨z5, z6, z7, z8⟩, _⟩ := nine_cells T4
  have TG := toHeap_any (hpAt_below HG.out B4) hsz
  have HT4 : Hid _ := T4
  have HB4 : Hid _ := B4
  have HO4 : Hid _ := O4
  have HL4 : Hid _ := L4
  clear SP HT2 HB2 B4 T4 O4 q4 L4
  go_wp2_with fail
  refine TG.mono ?_
  rintro e w5 ⟨o5, r5, m5, rs5, rfl, O5, q5⟩
  have s5 := q5.size
  have B5 := HB4.out.trans (q5.mono HB4.out.size)
  have T5 := nine_below HT4.out q5
  have OW5 := own_below HO4.out q5
  obtain ⟨h1, j1, h2, j2, h3, j3, h1z, j1z, e1, e2, e3, e4⟩ := hpAt_slices (ownH_at O5)
  subst e1 e2 e3 e4
  have N5 := (Below.refl w5.heap.size w5).alloc (Nat.le_refl _) (hpb H (.slice h1 H.row.length j1) (.slice h2 H.roots.length j2) (.slice h3 H.mourned.length j3) (.slice h1z H.seen.length j1z))
  have B6 := B5.trans (N5.mono B5.size)
  have T6 := nine_below T5 N5
  have OW6 := own_below OW5 N5
  have X6f := nine_mk w5 31 (.int .i64 H.half) (.int .i64 H.old) (.slice h1 H.row.length j1) (.int .i64 H.side) (.int .i64 H.top) (.slice h2 H.roots.length j2) (.slice h3 H.mourned.length j3) (.slice h1z H.seen.length j1z) (.int .i64 H.seed)
  have OX6 := ownH_below O5 N5
  have LX := ownH_lt O5
  obtain ⟨⟨x0, x1, x2, x3, x4⟩, ⟨x5, x6, x7, x8⟩, _⟩ := nine_cells X6f
  have IM := IMPL _ _ _ _ _ (ownH_at OX6) hsz
  have p14 : w5.heap.size < (w5.alloc (hpb H (.slice h1 H.row.length j1) (.slice h2 H.roots.length j2) (.slice h3 H.mourned.length j3) (.slice h1z H.seen.length j1z))).heap.size := by simp
  have HB6 : Hid _ := B6
  have HT6 : Hid _ := T6
  have HOW6 : Hid _ := OW6
  have HX6 : Hid _ := X6f
  have HOX6 : Hid _ := OX6
  have HLX : Hid _ := LX
  clear TG HB4 HT4 HO4 q5 B5 T5 OW5 N5 B6 T6 OW6 X6f OX6 LX O5 z0 z1 z2 z3 z4 z5 z6 z7 z8
  -- the program's answer
  go_wp2_with fail
  generalize hX6 : (w5.alloc (hpb H (.slice h1 H.row.length j1) (.slice h2 H.roots.length j2) (.slice h3 H.mourned.length j3) (.slice h1z H.seen.length j1z))) = X6 at *
  generalize hP14 : w5.heap.size = P14 at *
  clear hX6
  refine IM.mono ?_
  rintro e w8 ⟨vY, rfl, O8, q8⟩
  obtain ⟨ya, yn, yc, rfl⟩ := ints_slice (own_ints O8)
  have s8 := q8.size
  have B8 := HB6.out.trans (q8.mono HB6.out.size)
  have T8 := nine_below HT6.out q8
  have OW8 := own_below HOW6.out q8
  have X8 := nine_below HX6.out q8
  have OX8 := ownH_below HOX6.out q8
  have LY := blk_lt O8
  have EQ := eqInt64S_any (own_ints O8) (own_ints OW8) hR
  rw [decide_eq_true (rfl : xs = xs)] at EQ
  have HB8 : Hid _ := B8
  have HT8 : Hid _ := T8
  have HOW8 : Hid _ := OW8
  have HX8 : Hid _ := X8
  have HOX8 : Hid _ := OX8
  have HOY8 : Hid _ := O8
  have HLY : Hid _ := LY
  clear IM HB6 HT6 HOW6 HX6 HOX6 q8 B8 T8 OW8 X8 OX8 O8 LY x0 x1 x2 x3 x4 x5 x6 x7 x8
  go_wp2_with fail
  refine EQ.mono ?_
  rintro e w9 ⟨rfl, q9'⟩
  have q9 := bel_of_drewN q9'
  have s9 := q9.size
  have B9 := HB8.out.trans (q9.mono HB8.out.size)
  have T9 := nine_below HT8.out q9
  have OW9 := own_below HOW8.out q9
  have X9 := nine_below HX8.out q9
  have OX9 := ownH_below HOX8.out q9
  have OY9 := own_below HOY8.out q9
  clear EQ HB8 HT8 HOW8 HX8 HOX8 HOY8 q9 q9'
  -- the argument is as it was
  have TG := toHeap_any (w := w9.drew) (hpAt_below HG.out B9.drew) hsz
  obtain ⟨⟨z0, z1, z2, z3, z4⟩, ⟨z5, z6, z7, z8⟩, _⟩ := nine_cells T9
  obtain ⟨⟨x0, x1, x2, x3, x4⟩, ⟨x5, x6, x7, x8⟩, _⟩ := nine_cells X9
  have HB9 : Hid _ := B9
  have HT9 : Hid _ := T9
  have HOW9 : Hid _ := OW9
  have HX9 : Hid _ := X9
  have HOX9 : Hid _ := OX9
  have HOY9 : Hid _ := OY9
  clear B9 T9 OW9 X9 OX9 OY9
  go_wp2_with fail
  go_region_law (first
    | (go_simp; go_at_call 11; refine TG.mono ?_; clear TG; rintro e w10 ⟨o10, r10, m10, rs10, rfl, O10, q10⟩
       obtain ⟨u1, u3, u4, u6, u7, u9, u1z, u3z, e1, e2, e3, e4⟩ := hpAt_slices (ownH_at O10)
       subst e1 e2 e3 e4
       have D10 : Below w9.heap.size w9 w10 := ⟨q10.os, q10.tape, q10.output, q10.size, q10.block⟩
       have EQ2 := eqHeap_same (ownH_at (ownH_below HOX9.out D10)) (ownH_at O10) hsz
       have X10 := nine_below HX9.out D10
       obtain ⟨⟨t0, t1, t2, t3, t4⟩, ⟨t5, t6, t7, t8⟩, _⟩ := nine_cells X10
       have HD10 : Hid _ := D10
       clear q10 D10 O10 X10)
    | (go_simp; go_at_call 14; refine EQ2.mono ?_; clear EQ2; rintro e w11 ⟨rfl, q11⟩; have HD11 : Hid _ := HD10.out.trans (q11.mono HD10.out.size); clear q11 HD10))
  all_goals
    have D11 := HD11.out
    have B11 := HB9.out.trans (D11.mono HB9.out.size)
    have T11 := nine_below HT9.out D11
    have OW11 := own_below HOW9.out D11
    have X11 := nine_below HX9.out D11
    have OX11 := ownH_below HOX9.out D11
    have OY11 := own_below HOY9.out D11
    have s11 := D11.size
    clear HD11 HB9 HT9 HOW9 HX9 HOX9 HOY9 D11 z0 z1 z2 z3 z4 z5 z6 z7 z8 x0 x1 x2 x3 x4 x5 x6 x7 x8
    have MK := markHeap_any OX11 hsz
    obtain ⟨⟨x0, x1, x2, x3, x4⟩, ⟨x5, x6, x7, x8⟩, _⟩ := nine_cells X11
    have HB11 : Hid _ := B11
    have HT11 : Hid _ := T11
    have HOW11 : Hid _ := OW11
    have HOY11 : Hid _ := OY11
    clear B11 T11 OW11 X11 OX11 OY11
    go_wp2_with fail
    refine MK.mono ?_
    rintro e w12 ⟨kE, rfl, hkE, -, C12⟩
    have kE0 : ¬ (kE : Int) < 0 := by omega
    have fx : ∀ k ∈ hblk (.slice h1 H.row.length j1) (.slice h2 H.roots.length j2) (.slice h3 H.mourned.length j3) (.slice h1z H.seen.length j1z), w4.heap.size ≤ k ∧ k < P14 := HLX.out
    have s12 := C12.size
    have B12 := HB11.out.trans (below_ch C12 HB11.out.size (fun k hk => by have := (fx k hk).1; omega))
    have T12 := nine_ch HT11.out C12 (fun e => by have := (fx _ e).1; omega)
    have OW12 : rows.Own w12 _ _ _ := row_ch HOW11.out C12 (fun k hk e => by have := (fx _ e).1; have := (HL4.out k hk).2; omega)
    have OY12 : rows.Own w12 _ _ _ := row_ch HOY11.out C12 (fun k hk e => by have := (fx _ e).2; have := (HLY.out k hk).1; omega)
    clear MK C12 fx HB11 HT11 HOW11 HOY11 x0 x1 x2 x3 x4 x5 x6 x7 x8
    have EQ := eqInt64S_any (own_ints OY12) (own_ints OW12) hR
    rw [decide_eq_true (rfl : xs = xs)] at EQ
    have HB12 : Hid _ := B12
    have HT12 : Hid _ := T12
    have HOW12 : Hid _ := OW12
    have HOY12 : Hid _ := OY12
    clear B12 T12 OW12 OY12
    go_wp2_with fail
    refine EQ.mono ?_
    rintro e w13 ⟨rfl, q13'⟩
    have q13 := bel_of_drewN q13'
    have s13 := q13.size
    have B13 := HB12.out.trans (q13.mono HB12.out.size)
    have T13 := nine_below HT12.out q13
    have OW13 := own_below HOW12.out q13
    have OY13 := own_below HOY12.out q13
    clear EQ q13 q13' HB12 HT12 HOW12 HOY12
    have MK := markInt64S_any OY13 hR 1 (by decide) (by decide)
    have HB13 : Hid _ := B13
    have HT13 : Hid _ := T13
    have HOW13 : Hid _ := OW13
    clear B13 T13 OW13 OY13
    go_wp2_with fail
    refine MK.mono ?_
    rintro e w14 ⟨rfl, MD14, g14⟩
    have C14 := ch_grown g14
    have k0 : ¬ (1 + (xs.length : Int)) < 0 := by omega
    have kk : ((1 + (xs.length : Int)) != (1 + (xs.length : Int))) = false := by simp
    have s14 := C14.size
    have B14 := HB13.out.trans (below_ch C14 HB13.out.size (fun k hk => by have := (HLY.out k hk).1; omega))
    have T14 := nine_ch HT13.out C14 (fun e => by have := (HLY.out _ e).1; omega)
    have OW14 : rows.Own w14 _ _ _ := row_ch HOW13.out C14 (fun k hk e => by have := (HLY.out _ e).1; have := (HL4.out k hk).2; omega)
    clear MK C14 g14 HB13 HT13 HOW13
    have HE := heldInt64S_any 1 (own_ints MD14) hR (by decide) (by decide)
    have HB14 : Hid _ := B14
    have HT14 : Hid _ := T14
    have HOW14 : Hid _ := OW14
    have HMD14 : Hid _ := MD14
    clear B14 T14 OW14 MD14
    obtain ⟨mk, hmk'⟩ : ∃ mk, (1 + (xs.length : Int)) = mk := ⟨_, rfl⟩
    rw [hmk'] at HE k0 kk ⊢
    have HMK : Hid _ := hmk'
    clear hmk'
    go_wp2_with fail
    refine HE.mono ?_
    rintro e w15 ⟨rfl, hw15⟩
    rw [hw15]
    clear hw15
    have B15 := HB14.out
    have T15 := HT14.out
    clear HE
    -- the program's answer once more
    have TG := toHeap_any (hpAt_below HG.out B15) hsz
    obtain ⟨⟨z0, z1, z2, z3, z4⟩, ⟨z5, z6, z7, z8⟩, _⟩ := nine_cells T15
    clear B15 T15
    go_wp2_with fail
    refine TG.mono ?_
    rintro e w16 ⟨o16, r16, m16, rs16, rfl, O16, q16⟩
    have B16 := HB14.out.trans (q16.mono HB14.out.size)
    have OW16 := own_below HOW14.out q16
    have MD16 := own_below HMD14.out q16
    obtain ⟨t1, t3, t4, t6, t7, t9, t1z, t3z, e1, e2, e3, e4⟩ := hpAt_slices (ownH_at O16)
    subst e1 e2 e3 e4
    have IM := IMPL w16 _ _ _ _ (ownH_at O16) hsz
    have HB16 : Hid _ := B16
    have HOW16 : Hid _ := OW16
    have HMD16 : Hid _ := MD16
    clear TG q16 B16 OW16 MD16 O16 HB14 HT14 HOW14 HMD14 z0 z1 z2 z3 z4 z5 z6 z7 z8
    go_wp2_with fail
    refine IM.mono ?_
    rintro e w17 ⟨vZ, rfl, O17, q17⟩
    obtain ⟨za, zn, zc, rfl⟩ := ints_slice (own_ints O17)
    have B17 := HB16.out.trans (q17.mono HB16.out.size)
    have OW17 := own_below HOW16.out q17
    have MD17 := own_below HMD16.out q17
    have EQ := eqInt64S_any (own_ints O17) (own_ints OW17) hR
    rw [decide_eq_true (rfl : xs = xs)] at EQ
    have HB17 : Hid _ := B17
    have HMD17 : Hid _ := MD17
    clear IM q17 B17 OW17 MD17 O17 HB16 HOW16 HMD16
    go_wp2_with fail
    refine EQ.mono ?_
    rintro e w19 ⟨rfl, q19'⟩
    have q19 := bel_of_drewN q19'
    have HB19 : Hid _ := HB17.out.trans (q19.mono HB17.out.size)
    have HE := heldInt64S_any 1 (own_ints (own_below HMD17.out q19)) hR (by decide) (by decide)
    rw [HMK.out] at HE
    clear EQ q19 q19' HB17 HMD17
    go_wp2_with fail
    refine HE.mono ?_
    rintro e w20 ⟨rfl, hw20⟩
    rw [hw20]
    clear HE hw20
    go_wp2
    go_ret
    exact ⟨rfl, HB19⟩
end Go.Proofs.YtmhbdmmpmagbkaaGreat.hp
