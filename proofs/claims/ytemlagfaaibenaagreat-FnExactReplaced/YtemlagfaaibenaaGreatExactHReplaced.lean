/-
  The walk of the law FnExactReplaced, given what the program's and the specification's Replaced answer.
  Made from the template ExactHReplaced.
-/
import Derived.Test.YtemlagfaaibenaaGreatM5
namespace Go.Proofs.YtemlagfaaibenaaGreat.hp
open Go.RowKit rows heads words walks
set_option maxRecDepth 100000
set_option linter.unusedVariables false
set_option maxHeartbeats 16000000 in
theorem exactReplaced {H R:Hp} {b:Int} (y0 y1:Int)
    (SPEC:∀(w:World) (vr vo vm vs:Value),HpAt w vr vo vm vs H→hpSize H≤1048576→Calls Tryz.prog 18 #[hpv H vr vo vm vs,.int .i64 y0,.int .i64 y1] w fun e w'=>∃(o' r' m' s':Value),e = .returned (.tuple #[hpv R o' r' m' s',.int .i64 b])∧OwnH w' w.heap.size o' r' m' s' R∧Below w.heap.size w w')
    (IMPL:∀(w:World) (vr vo vm vs:Value),HpAt w vr vo vm vs H→hpSize H≤1048576→Calls Tryz.prog 19 #[hpv H vr vo vm vs,.int .i64 y0,.int .i64 y1] w fun e w'=>∃(o' r' m' s':Value),e = .returned (.tuple #[hpv R o' r' m' s',.int .i64 b])∧OwnH w' w.heap.size o' r' m' s' R∧Below w.heap.size w w')
    (hR:hpSize H≤1048576→hpSize R≤1048576)
    (w:World) (vr vo vm vs:Value) (h:HpAt w vr vo vm vs H) :
    Calls Tryz.prog 6 #[hpv H vr vo vm vs,.int .i64 y0,.int .i64 y1] w fun e w'=>e = .returned (.bool true)∧Below w.heap.size w w':=by
 obtain⟨a1,c1,a2,c2,a3,c3,a1z,c1z,e1,e2,e3,e4⟩:=hpAt_slices h
 subst e1 e2 e3 e4
 have B0:Below w.heap.size w (w.alloc (.cells #[.int .i64 H.half,.int .i64 H.old,.slice a1 H.row.length c1,.int .i64 H.side,.int .i64 H.top,.slice a2 H.roots.length c2,.slice a3 H.mourned.length c3,.slice a1z H.seen.length c1z,.int .i64 H.seed] 24)):=(Below.refl _ w).alloc (Nat.le_refl _) _
 have T0:=nine_mk w 24 (.int .i64 H.half) (.int .i64 H.old) (.slice a1 H.row.length c1) (.int .i64 H.side) (.int .i64 H.top) (.slice a2 H.roots.length c2) (.slice a3 H.mourned.length c3) (.slice a1z H.seen.length c1z) (.int .i64 H.seed)
 have SZ:=szHeap_any (hpAt_below h B0) 1048576 (Nat.le_refl _)
 have HG:Hid _:=h
 have HB0:Hid _:=B0
 have HT0:Hid _:=T0
 clear B0 T0 h
 go_enter Tryz.func6,Tryz.ntmps6
 go_wp2_with fail
 generalize (w.alloc (Obj.cells #[.int .i64 H.half,.int .i64 H.old,.slice a1 H.row.length c1,.int .i64 H.side,.int .i64 H.top,.slice a2 H.roots.length c2,.slice a3 H.mourned.length c3,.slice a1z H.seen.length c1z,.int .i64 H.seed] 24))=X0 at *
 refine SZ.mono ?_
 rintro e w1 ⟨rfl,q1⟩
 have B1:=HB0.out.trans (q1.mono HB0.out.size)
 have T1:=nine_below HT0.out q1
 clear SZ HB0 HT0 q1
 by_cases hsz:hpSize H≤1048576
 case neg=>
  rw[if_neg hsz]
  have HB:Hid _:=B1
  clear B1 T1 HG
  go_wp2
  go_ret
  exact⟨rfl,HB⟩
 rw[if_pos hsz]
 obtain⟨lf,hlf⟩:∃lf:Nat,((1048576:Nat):Int)-(hpSize H:Int)=(lf:Int):=⟨1048576-hpSize H,by omega⟩
 rw[hlf]
 have hl0:¬(lf:Int)<0:=by omega
 have hRR:=hR hsz
 have HRR:Hid _:=hRR
 clear hlf hRR hR
 obtain⟨⟨z0,z1,z2,z3,z4⟩,⟨z5,z6,z7,z8⟩,_⟩:=nine_cells T1
 -- the specification's answer
 have TG:=toHeap_any (hpAt_below HG.out B1) hsz
 have HT1:Hid _:=T1
 have HB1:Hid _:=B1
 clear T1 B1
 go_wp2_with fail
 refine TG.mono ?_
 rintro e w2 ⟨o2,r2,m2,rs2,rfl,O2,q2⟩
 have B2:=HB1.out.trans (q2.mono HB1.out.size)
 have T2:=nine_below HT1.out q2
 obtain⟨d1,g1,d2,g2,d3,g3,d1z,g1z,e1,e2,e3,e4⟩:=hpAt_slices (ownH_at O2)
 subst e1 e2 e3 e4
 have SP:=SPEC w2 _ _ _ _ (ownH_at O2) hsz
 have HT2:Hid _:=T2
 have HB2:Hid _:=B2
 clear TG q2 T2 B2 HT1 HB1 O2 SPEC z0 z1 z2 z3 z4 z5 z6 z7 z8
 go_wp2_with fail
 refine SP.mono ?_
 rintro e w3 ⟨o3,r3,m3,rs3,rfl,O3,q3⟩
 have B3:=HB2.out.trans (q3.mono HB2.out.size)
 have T3:=nine_below HT2.out q3
 obtain⟨d1,g1,d2,g2,d3,g3,d1z,g1z,e1,e2,e3,e4⟩:=hpAt_slices (ownH_at O3)
 subst e1 e2 e3 e4
 have N3:=(Below.refl w3.heap.size w3).alloc (Nat.le_refl _) (hpb R (.slice d1 R.row.length g1) (.slice d2 R.roots.length g2) (.slice d3 R.mourned.length g3) (.slice d1z R.seen.length g1z))
 have B4:=B3.trans (N3.mono B3.size)
 have T4:=nine_below T3 N3
 have W4:=nine_mk w3 27 (.int .i64 R.half) (.int .i64 R.old) (.slice d1 R.row.length g1) (.int .i64 R.side) (.int .i64 R.top) (.slice d2 R.roots.length g2) (.slice d3 R.mourned.length g3) (.slice d1z R.seen.length g1z) (.int .i64 R.seed)
 have O4:=ownH_below O3 N3
 have L4:=ownH_lt O3
 have p5:=lt_of_block T4
 obtain⟨⟨z0,z1,z2,z3,z4⟩,⟨z5,z6,z7,z8⟩,_⟩:=nine_cells T4
 have TG:=toHeap_any (hpAt_below HG.out B4) hsz
 have p12:w3.heap.size<(w3.alloc (hpb R (.slice d1 R.row.length g1) (.slice d2 R.roots.length g2) (.slice d3 R.mourned.length g3) (.slice d1z R.seen.length g1z))).heap.size:=by simp
 have HT4:Hid _:=T4
 have HB4:Hid _:=B4
 have HW4:Hid _:=W4
 have HO4:Hid _:=O4
 have HL4:Hid _:=L4
 clear SP HT2 HB2 B3 T3 N3 B4 T4 W4 O4 O3 q3 L4
 go_wp2_with fail
 generalize hX4:(w3.alloc (hpb R (.slice d1 R.row.length g1) (.slice d2 R.roots.length g2) (.slice d3 R.mourned.length g3) (.slice d1z R.seen.length g1z)))=X4 at *
 generalize hP12:w3.heap.size=P12 at *
 clear hX4
 refine TG.mono ?_
 rintro e w5 ⟨o5,r5,m5,rs5,rfl,O5,q5⟩
 have s5:=q5.size
 have B5:=HB4.out.trans (q5.mono HB4.out.size)
 have T5:=nine_below HT4.out q5
 have W5:=nine_below HW4.out q5
 have OW5:=ownH_below HO4.out q5
 obtain⟨h1,j1,h2,j2,h3,j3,h1z,j1z,e1,e2,e3,e4⟩:=hpAt_slices (ownH_at O5)
 subst e1 e2 e3 e4
 have N5:=(Below.refl w5.heap.size w5).alloc (Nat.le_refl _) (hpb H (.slice h1 H.row.length j1) (.slice h2 H.roots.length j2) (.slice h3 H.mourned.length j3) (.slice h1z H.seen.length j1z))
 have B6:=B5.trans (N5.mono B5.size)
 have T6:=nine_below T5 N5
 have W6:=nine_below W5 N5
 have OW6:=ownH_below OW5 N5
 have X6f:=nine_mk w5 27 (.int .i64 H.half) (.int .i64 H.old) (.slice h1 H.row.length j1) (.int .i64 H.side) (.int .i64 H.top) (.slice h2 H.roots.length j2) (.slice h3 H.mourned.length j3) (.slice h1z H.seen.length j1z) (.int .i64 H.seed)
 have OX6:=ownH_below O5 N5
 have LX:=ownH_lt O5
 obtain⟨⟨x0,x1,x2,x3,x4⟩,⟨x5,x6,x7,x8⟩,_⟩:=nine_cells X6f
 have IM:=IMPL _ _ _ _ _ (ownH_at OX6) hsz
 have p14:w5.heap.size<(w5.alloc (hpb H (.slice h1 H.row.length j1) (.slice h2 H.roots.length j2) (.slice h3 H.mourned.length j3) (.slice h1z H.seen.length j1z))).heap.size:=by simp
 have HB6:Hid _:=B6
 have HT6:Hid _:=T6
 have HW6:Hid _:=W6
 have HOW6:Hid _:=OW6
 have HX6:Hid _:=X6f
 have HOX6:Hid _:=OX6
 have HLX:Hid _:=LX
 clear TG HB4 HT4 HW4 HO4 q5 B5 T5 W5 OW5 N5 B6 T6 W6 OW6 X6f OX6 LX O5 z0 z1 z2 z3 z4 z5 z6 z7 z8
 -- the program's answer
 go_wp2_with fail
 generalize hX6:(w5.alloc (hpb H (.slice h1 H.row.length j1) (.slice h2 H.roots.length j2) (.slice h3 H.mourned.length j3) (.slice h1z H.seen.length j1z)))=X6 at *
 generalize hP14:w5.heap.size=P14 at *
 clear hX6
 refine IM.mono ?_
 rintro e w7 ⟨o7,r7,m7,rs7,rfl,O7,q7⟩
 have s7:=q7.size
 have B7:=HB6.out.trans (q7.mono HB6.out.size)
 have T7:=nine_below HT6.out q7
 have W7:=nine_below HW6.out q7
 have OW7:=ownH_below HOW6.out q7
 have X7:=nine_below HX6.out q7
 have OX7:=ownH_below HOX6.out q7
 obtain⟨k1,m1,k2,m2,k3,m3,k1z,m1z,e1,e2,e3,e4⟩:=hpAt_slices (ownH_at O7)
 subst e1 e2 e3 e4
 have N7:=(Below.refl w7.heap.size w7).alloc (Nat.le_refl _) (hpb R (.slice k1 R.row.length m1) (.slice k2 R.roots.length m2) (.slice k3 R.mourned.length m3) (.slice k1z R.seen.length m1z))
 have B8:=B7.trans (N7.mono B7.size)
 have T8:=nine_below T7 N7
 have W8:=nine_below W7 N7
 have OW8:=ownH_below OW7 N7
 have X8f:=nine_below X7 N7
 have OX8:=ownH_below OX7 N7
 have Y8:=nine_mk w7 27 (.int .i64 R.half) (.int .i64 R.old) (.slice k1 R.row.length m1) (.int .i64 R.side) (.int .i64 R.top) (.slice k2 R.roots.length m2) (.slice k3 R.mourned.length m3) (.slice k1z R.seen.length m1z) (.int .i64 R.seed)
 have OY8:=ownH_below O7 N7
 have LY:=ownH_lt O7
 have p15:w7.heap.size<(w7.alloc (hpb R (.slice k1 R.row.length m1) (.slice k2 R.roots.length m2) (.slice k3 R.mourned.length m3) (.slice k1z R.seen.length m1z))).heap.size:=by simp
 have bb:(b != b)=false:=by simp
 have EQ:=eqHeap_same (ownH_at OY8) (ownH_at OW8) (HRR.out)
 clear x0 x1 x2 x3 x4 x5 x6 x7 x8
 obtain⟨⟨y0,y1,y2,y3,y4⟩,⟨y5,y6,y7,y8⟩,_⟩:=nine_cells Y8
 obtain⟨⟨v0,v1,v2,v3,v4⟩,⟨v5,v6,v7,v8⟩,_⟩:=nine_cells W8
 have HB8:Hid _:=B8
 have HT8:Hid _:=T8
 have HW8:Hid _:=W8
 have HOW8:Hid _:=OW8
 have HX8:Hid _:=X8f
 have HOX8:Hid _:=OX8
 have HY8:Hid _:=Y8
 have HOY8:Hid _:=OY8
 have HLY:Hid _:=LY
 clear IM HB6 HT6 HW6 HOW6 HX6 HOX6 q7 B7 T7 W7 OW7 X7 OX7 N7 B8 T8 W8 OW8 X8f OX8 Y8 OY8 LY O7
 go_wp2_with fail
 generalize hX8:(w7.alloc (hpb R (.slice k1 R.row.length m1) (.slice k2 R.roots.length m2) (.slice k3 R.mourned.length m3) (.slice k1z R.seen.length m1z)))=X8 at *
 generalize hP15:w7.heap.size=P15 at *
 clear hX8
 refine EQ.mono ?_
 rintro e w9 ⟨rfl,q9⟩
 have s9:=q9.size
 have B9:=HB8.out.trans (q9.mono HB8.out.size)
 have T9:=nine_below HT8.out q9
 have W9:=nine_below HW8.out q9
 have OW9:=ownH_below HOW8.out q9
 have X9:=nine_below HX8.out q9
 have OX9:=ownH_below HOX8.out q9
 have Y9:=nine_below HY8.out q9
 have OY9:=ownH_below HOY8.out q9
 clear EQ HB8 HT8 HW8 HOW8 HX8 HOX8 HY8 HOY8 q9 y0 y1 y2 y3 y4 y5 y6 y7 y8 v0 v1 v2 v3 v4 v5 v6 v7 v8
 -- the argument is as it was
 have D9:Below w9.heap.size w9 w9.drew:=(Below.refl _ w9).drew
 have TG:=toHeap_any (w:=w9.drew) (hpAt_below HG.out B9.drew) hsz
 obtain⟨⟨z0,z1,z2,z3,z4⟩,⟨z5,z6,z7,z8⟩,_⟩:=nine_cells T9
 obtain⟨⟨x0,x1,x2,x3,x4⟩,⟨x5,x6,x7,x8⟩,_⟩:=nine_cells X9
 have z0d:w9.drew.cell? ⟨w.heap.size,0,none⟩=some (.int .i64 H.half):=z0
 have HB9:Hid _:=B9
 have HT9:Hid _:=T9
 have HW9:Hid _:=W9
 have HOW9:Hid _:=OW9
 have HX9:Hid _:=X9
 have HOX9:Hid _:=OX9
 have HY9:Hid _:=Y9
 have HOY9:Hid _:=OY9
 clear B9 T9 W9 OW9 X9 OX9 Y9 OY9 D9 z0d
 go_wp2_with fail
 go_region_law (first
  |(go_simp;go_at_call 9;refine TG.mono ?_;clear TG;rintro e w10 ⟨o10,r10,m10,rs10,rfl,O10,q10⟩
    obtain⟨u1,u3,u4,u6,u7,u9,u1z,u3z,e1,e2,e3,e4⟩:=hpAt_slices (ownH_at O10)
    subst e1 e2 e3 e4
    have D10:Below w9.heap.size w9 w10:=⟨q10.os,q10.tape,q10.output,q10.size,q10.block⟩
    have EQ2:=eqHeap_same (ownH_at (ownH_below HOX9.out D10)) (ownH_at O10) hsz
    have X10:=nine_below HX9.out D10
    obtain⟨⟨t0,t1,t2,t3,t4⟩,⟨t5,t6,t7,t8⟩,_⟩:=nine_cells X10
    have HD10:Hid _:=D10
    clear q10 D10 O10 X10)
  |(go_simp;go_at_call 11;refine EQ2.mono ?_;clear EQ2;rintro e w11 ⟨rfl,q11⟩;have HD11:Hid _:=HD10.out.trans (q11.mono HD10.out.size);clear q11 HD10))
 all_goals
  have D11:=HD11.out
  have B11:=HB9.out.trans (D11.mono HB9.out.size)
  have T11:=nine_below HT9.out D11
  have W11:=nine_below HW9.out D11
  have OW11:=ownH_below HOW9.out D11
  have X11:=nine_below HX9.out D11
  have OX11:=ownH_below HOX9.out D11
  have Y11:=nine_below HY9.out D11
  have OY11:=ownH_below HOY9.out D11
  have s11:=D11.size
  clear HD11 HB9 HT9 HW9 HOW9 HX9 HOX9 HY9 HOY9 D11 z0 z1 z2 z3 z4 z5 z6 z7 z8 x0 x1 x2 x3 x4 x5 x6 x7 x8
  have MK:=markHeap_any OX11 hsz
  obtain⟨⟨x0,x1,x2,x3,x4⟩,⟨x5,x6,x7,x8⟩,_⟩:=nine_cells X11
  have HB11:Hid _:=B11
  have HT11:Hid _:=T11
  have HW11:Hid _:=W11
  have HOW11:Hid _:=OW11
  have HY11:Hid _:=Y11
  have HOY11:Hid _:=OY11
  clear B11 T11 W11 OW11 X11 OX11 Y11 OY11
  go_wp2_with fail
  refine MK.mono ?_
  rintro e w12 ⟨kE,rfl,hkE,-, C12⟩
  have kE0:¬(kE:Int)<0:=by omega
  have fx:∀k ∈ hblk (.slice h1 H.row.length j1) (.slice h2 H.roots.length j2) (.slice h3 H.mourned.length j3) (.slice h1z H.seen.length j1z),X4.heap.size≤k∧k<P14:=HLX.out
  have s12:=C12.size
  have B12:=HB11.out.trans (below_ch C12 HB11.out.size (fun k hk=>by have:=(fx k hk).1;omega))
  have T12:=nine_ch HT11.out C12 (fun e=>by have:=(fx _ e).1;omega)
  have W12:=nine_ch HW11.out C12 (fun e=>by have:=(fx _ e).1;omega)
  have Y12:=nine_ch HY11.out C12 (fun e=>by have:=(fx _ e).2;omega)
  have OW12:=ownH_ch HOW11.out C12 (fun k hk e=>by have:=(fx _ e).1;have:=(HL4.out k hk).2;omega)
  have OY12:=ownH_ch HOY11.out C12 (fun k hk e=>by have:=(fx _ e).2;have:=(HLY.out k hk).1;omega)
  clear MK C12 fx HB11 HT11 HW11 HOW11 HY11 HOY11 x0 x1 x2 x3 x4 x5 x6 x7 x8
  have EQ:=eqHeap_same (ownH_at OY12) (ownH_at OW12) (HRR.out)
  obtain⟨⟨y0,y1,y2,y3,y4⟩,⟨y5,y6,y7,y8⟩,_⟩:=nine_cells Y12
  obtain⟨⟨v0,v1,v2,v3,v4⟩,⟨v5,v6,v7,v8⟩,_⟩:=nine_cells W12
  have HB12:Hid _:=B12
  have HT12:Hid _:=T12
  have HW12:Hid _:=W12
  have HOW12:Hid _:=OW12
  have HY12:Hid _:=Y12
  have HOY12:Hid _:=OY12
  clear B12 T12 W12 OW12 Y12 OY12
  go_wp2_with fail
  refine EQ.mono ?_
  rintro e w13 ⟨rfl,q13⟩
  have s13:=q13.size
  have B13:=HB12.out.trans (q13.mono HB12.out.size)
  have T13:=nine_below HT12.out q13
  have W13:=nine_below HW12.out q13
  have OW13:=ownH_below HOW12.out q13
  have Y13:=nine_below HY12.out q13
  have OY13:=ownH_below HOY12.out q13
  clear EQ q13 HB12 HT12 HW12 HOW12 HY12 HOY12 y0 y1 y2 y3 y4 y5 y6 y7 y8 v0 v1 v2 v3 v4 v5 v6 v7 v8
  have MK:=markHeap_any OY13 (HRR.out)
  obtain⟨⟨y0,y1,y2,y3,y4⟩,⟨y5,y6,y7,y8⟩,_⟩:=nine_cells Y13
  have HB13:Hid _:=B13
  have HT13:Hid _:=T13
  have HW13:Hid _:=W13
  have HOW13:Hid _:=OW13
  have HY13:Hid _:=Y13
  clear B13 T13 W13 OW13 Y13 OY13
  go_wp2_with fail
  refine MK.mono ?_
  rintro e w14 ⟨kF,rfl,hkF,MD14,C14⟩
  have kF0:¬(kF:Int)<0:=by omega
  have kFF:((kF:Int) != (kF:Int))=false:=by simp
  have fy:∀k ∈ hblk (.slice k1 R.row.length m1) (.slice k2 R.roots.length m2) (.slice k3 R.mourned.length m3) (.slice k1z R.seen.length m1z),X6.heap.size≤k∧k<P15:=HLY.out
  have s14:=C14.size
  have B14:=HB13.out.trans (below_ch C14 HB13.out.size (fun k hk=>by have:=(fy k hk).1;omega))
  have T14:=nine_ch HT13.out C14 (fun e=>by have:=(fy _ e).1;omega)
  have W14:=nine_ch HW13.out C14 (fun e=>by have:=(fy _ e).1;omega)
  have Y14:=nine_ch HY13.out C14 (fun e=>by have:=(fy _ e).2;omega)
  have OW14:=ownH_ch HOW13.out C14 (fun k hk e=>by have:=(fy _ e).1;have:=(HL4.out k hk).2;omega)
  clear MK C14 fy HB13 HT13 HW13 HOW13 HY13 y0 y1 y2 y3 y4 y5 y6 y7 y8
  have HE:=heldHeap_any (H:=R) MD14
  obtain⟨⟨y0,y1,y2,y3,y4⟩,⟨y5,y6,y7,y8⟩,_⟩:=nine_cells Y14
  have HB14:Hid _:=B14
  have HT14:Hid _:=T14
  have HW14:Hid _:=W14
  have HOW14:Hid _:=OW14
  have HY14:Hid _:=Y14
  have HMD14:Hid _:=MD14
  clear B14 T14 W14 OW14 Y14 MD14
  go_wp2_with fail
  refine HE.mono ?_
  rintro e w15 ⟨rfl,q15⟩
  have B15:=HB14.out.trans (q15.mono HB14.out.size)
  have T15:=nine_below HT14.out q15
  have W15:=nine_below HW14.out q15
  have OW15:=ownH_below HOW14.out q15
  have Y15:=nine_below HY14.out q15
  have MD15:=marked_below HMD14.out q15
  clear HE q15 HB14 HT14 HW14 HOW14 HY14 HMD14 y0 y1 y2 y3 y4 y5 y6 y7 y8
  -- the program's answer once more
  have TG:=toHeap_any (hpAt_below HG.out B15) hsz
  obtain⟨⟨z0,z1,z2,z3,z4⟩,⟨z5,z6,z7,z8⟩,_⟩:=nine_cells T15
  have HB15:Hid _:=B15
  have HW15:Hid _:=W15
  have HOW15:Hid _:=OW15
  have HY15:Hid _:=Y15
  have HMD15:Hid _:=MD15
  clear B15 T15 W15 OW15 Y15 MD15
  go_wp2_with fail
  refine TG.mono ?_
  rintro e w16 ⟨o16,r16,m16,rs16,rfl,O16,q16⟩
  have B16:=HB15.out.trans (q16.mono HB15.out.size)
  have W16:=nine_below HW15.out q16
  have OW16:=ownH_below HOW15.out q16
  have Y16:=nine_below HY15.out q16
  have MD16:=marked_below HMD15.out q16
  obtain⟨t1,t3,t4,t6,t7,t9,t1z,t3z,e1,e2,e3,e4⟩:=hpAt_slices (ownH_at O16)
  subst e1 e2 e3 e4
  have IM:=IMPL w16 _ _ _ _ (ownH_at O16) hsz
  have HB16:Hid _:=B16
  have HW16:Hid _:=W16
  have HOW16:Hid _:=OW16
  have HY16:Hid _:=Y16
  have HMD16:Hid _:=MD16
  clear TG q16 B16 W16 OW16 Y16 MD16 O16 HB15 HW15 HOW15 HY15 HMD15 z0 z1 z2 z3 z4 z5 z6 z7 z8
  go_wp2_with fail
  refine IM.mono ?_
  rintro e w17 ⟨o17,r17,m17,rs17,rfl,O17,q17⟩
  have B17:=HB16.out.trans (q17.mono HB16.out.size)
  have W17:=nine_below HW16.out q17
  have OW17:=ownH_below HOW16.out q17
  have Y17:=nine_below HY16.out q17
  have MD17:=marked_below HMD16.out q17
  obtain⟨t1,t3,t4,t6,t7,t9,t1z,t3z,e1,e2,e3,e4⟩:=hpAt_slices (ownH_at O17)
  subst e1 e2 e3 e4
  have N17:=(Below.refl w17.heap.size w17).alloc (Nat.le_refl _) (hpb R (.slice t1 R.row.length t3) (.slice t4 R.roots.length t6) (.slice t7 R.mourned.length t9) (.slice t1z R.seen.length t3z))
  have B18:=B17.trans (N17.mono B17.size)
  have W18:=nine_below W17 N17
  have OW18:=ownH_below OW17 N17
  have Y18:=nine_below Y17 N17
  have MD18:=marked_below MD17 N17
  have V18:=nine_mk w17 27 (.int .i64 R.half) (.int .i64 R.old) (.slice t1 R.row.length t3) (.int .i64 R.side) (.int .i64 R.top) (.slice t4 R.roots.length t6) (.slice t7 R.mourned.length t9) (.slice t1z R.seen.length t3z) (.int .i64 R.seed)
  have O18:=ownH_below O17 N17
  have EQ:=eqHeap_same (ownH_at O18) (ownH_at OW18) (HRR.out)
  obtain⟨⟨v0,v1,v2,v3,v4⟩,⟨v5,v6,v7,v8⟩,_⟩:=nine_cells W18
  obtain⟨⟨y0,y1,y2,y3,y4⟩,⟨y5,y6,y7,y8⟩,_⟩:=nine_cells V18
  have HB18:Hid _:=B18
  have HY18:Hid _:=Y18
  have HMD18:Hid _:=MD18
  clear IM q17 B17 W17 OW17 Y17 MD17 N17 B18 W18 OW18 Y18 MD18 V18 O18 O17 HB16 HW16 HOW16 HY16 HMD16
  go_wp2_with fail
  generalize hX18:(w17.alloc (hpb R (.slice t1 R.row.length t3) (.slice t4 R.roots.length t6) (.slice t7 R.mourned.length t9) (.slice t1z R.seen.length t3z)))=X18 at *
  clear hX18
  refine EQ.mono ?_
  rintro e w19 ⟨rfl,q19⟩
  have B19:=HB18.out.trans (q19.mono HB18.out.size)
  have Y19:=nine_below HY18.out q19
  have HE:=heldHeap_any (H:=R) (marked_below HMD18.out q19)
  clear EQ q19 HB18 HY18 HMD18 y0 y1 y2 y3 y4 y5 y6 y7 y8 v0 v1 v2 v3 v4 v5 v6 v7 v8
  obtain⟨⟨y0,y1,y2,y3,y4⟩,⟨y5,y6,y7,y8⟩,_⟩:=nine_cells Y19
  have HB19:Hid _:=B19
  clear B19 Y19
  go_wp2_with fail
  refine HE.mono ?_
  rintro e w20 ⟨rfl,q20⟩
  have HB20:Hid _:=HB19.out.trans (q20.mono HB19.out.size)
  clear HE q20 HB19
  go_wp2
  go_ret
  exact⟨rfl,HB20⟩
end Go.Proofs.YtemlagfaaibenaaGreat.hp
