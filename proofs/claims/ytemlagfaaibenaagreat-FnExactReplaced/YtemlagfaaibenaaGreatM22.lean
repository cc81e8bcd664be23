/-
  Chapter 9 as the specification has it: a heap's own copy. Chapter 12 as the specification has it: Stored. Chapter 18 as lists: a note put where an object stood; what Replaced answers.
-/
import Derived.Test.YtemlagfaaibenaaGreatM18
import Derived.Test.YtemlagfaaibenaaGreatM1
import Derived.Test.YtemlagfaaibenaaGreatM21
import Derived.Test.YtemlagfaaibenaaGreatM19
namespace Go.Proofs.YtemlagfaaibenaaGreat.hp
open Go.RowKit rows heads words walks
set_option maxRecDepth 100000
set_option linter.unusedVariables false
set_option linter.unusedSimpArgs false
structure CpS (w W:World) (H:Hp) (vr vo vm vs c2 c5 c6 c7:Value):Prop where
 n0:Nine W w.heap.size 27 (.int .i64 H.half) (.int .i64 H.old) vr (.int .i64 H.side) (.int .i64 H.top) vo vm vs (.int .i64 H.seed)
 n1:Nine W (w.heap.size+1) 27 (.int .i64 0) (.int .i64 0) (.slice none 0 0) (.int .i64 0) (.int .i64 0) (.slice none 0 0) (.slice none 0 0) (.slice none 0 0) (.int .i64 0)
 n2:Nine W (w.heap.size+2) 27 (.int .i64 H.half) (.int .i64 H.old) c2 (.int .i64 H.side) (.int .i64 H.top) c5 c6 c7 (.int .i64 H.seed)
 below:Below w.heap.size w W
 size:w.heap.size+3≤W.heap.size
theorem CpS.grow {w W W':World} {H:Hp} {vr vo vm vs c2 c5 c6 c7:Value} (h:CpS w W H vr vo vm vs c2 c5 c6 c7) (hb:Below W.heap.size W W'):CpS w W' H vr vo vm vs c2 c5 c6 c7:=⟨nine_below h.n0 hb,nine_below h.n1 hb,nine_below h.n2 hb,h.below.trans (hb.mono h.below.size),Nat.le_trans h.size hb.size⟩
theorem CpS.fields {w W:World} {H:Hp} {vr vo vm vs c2 c5 c6 c7:Value} (h:CpS w W H vr vo vm vs c2 c5 c6 c7) {W':World} {d2 d5 d6 d7:Value} (hc:Ch [w.heap.size+2] W W') (h2:Nine W' (w.heap.size+2) 27 (.int .i64 H.half) (.int .i64 H.old) d2 (.int .i64 H.side) (.int .i64 H.top) d5 d6 d7 (.int .i64 H.seed)):CpS w W' H vr vo vm vs d2 d5 d6 d7:=
 ⟨nine_ch h.n0 hc (by simp),nine_ch h.n1 hc (by simp),h2,h.below.trans (below_ch hc h.below.size (fun k hk=>by simp at hk;omega)),Nat.le_trans h.size hc.size⟩
theorem own_set {W:World} {base b k:Nat} {v u:Value} {xs:List Int} (h:rows.Own W base v xs) (hb:b<base):rows.Own (W.setCell ⟨b,k,none⟩ u) base v xs:=row_ch (S:=[b]) h (one_ch _ _ _ _) (fun j hj=>by have:=(blk_lt h j hj).1;simp;omega)
set_option maxHeartbeats 16000000 in
theorem l9Copy_any {w:World} {vr vo vm vs:Value} {H:Hp} (h:HpAt w vr vo vm vs H) (hs:hpSize H≤1048576) :
    Calls Tryz.prog 26 #[hpv H vr vo vm vs] w fun e w'=>∃g1 g2 g3 k1 k2 k3 s',e = .returned (hpv H (.slice (some ⟨g1,0,none⟩) H.row.length k1) (.slice (some ⟨g2,0,none⟩) H.roots.length k2) (.slice (some ⟨g3,0,none⟩) H.mourned.length k3) s')∧OwnH w' w.heap.size (.slice (some ⟨g1,0,none⟩) H.row.length k1) (.slice (some ⟨g2,0,none⟩) H.roots.length k2) (.slice (some ⟨g3,0,none⟩) H.mourned.length k3) s' H∧Below w.heap.size w w':=by
 obtain⟨a1,c1,a2,c2,a3,c3,a4,c4,e1,e2,e3,e4⟩:=hpAt_slices h
 subst e1 e2 e3 e4
 have l1:H.row.length≤1048576:=by unfold hpSize at hs;omega
 have l2:H.roots.length≤1048576:=by unfold hpSize at hs;omega
 have l3:H.mourned.length≤1048576:=by unfold hpSize at hs;omega
 have l4:H.seen.length≤1048576:=by unfold hpSize at hs;omega
 have HH:Hid _:=h
 have B0:Below w.heap.size w (w.alloc (hpb H (.slice a1 H.row.length c1) (.slice a2 H.roots.length c2) (.slice a3 H.mourned.length c3) (.slice a4 H.seen.length c4))):=(Below.refl _ _).alloc (Nat.le_refl _) _
 have B1:=B0.alloc B0.size (hpb ⟨0,0,[],0,0,[],[],[],0⟩ (.slice none 0 0) (.slice none 0 0) (.slice none 0 0) (.slice none 0 0))
 have T0:=nine_new w H (.slice a1 H.row.length c1) (.slice a2 H.roots.length c2) (.slice a3 H.mourned.length c3) (.slice a4 H.seen.length c4)
 have T0':=nine_below T0 ((Below.refl _ _).alloc (Nat.le_refl _) (hpb ⟨0,0,[],0,0,[],[],[],0⟩ (.slice none 0 0) (.slice none 0 0) (.slice none 0 0) (.slice none 0 0)))
 have T1:Nine ((w.alloc (hpb H (.slice a1 H.row.length c1) (.slice a2 H.roots.length c2) (.slice a3 H.mourned.length c3) (.slice a4 H.seen.length c4))).alloc (hpb ⟨0,0,[],0,0,[],[],[],0⟩ (.slice none 0 0) (.slice none 0 0) (.slice none 0 0) (.slice none 0 0))) (w.heap.size+1) 27 (.int .i64 0) (.int .i64 0) (.slice none 0 0) (.int .i64 0) (.int .i64 0) (.slice none 0 0) (.slice none 0 0) (.slice none 0 0) (.int .i64 0):=(congrArg (fun k=>((w.alloc (hpb H (.slice a1 H.row.length c1) (.slice a2 H.roots.length c2) (.slice a3 H.mourned.length c3) (.slice a4 H.seen.length c4))).alloc (hpb ⟨0,0,[],0,0,[],[],[],0⟩ (.slice none 0 0) (.slice none 0 0) (.slice none 0 0) (.slice none 0 0))).heap[k]?) (show w.heap.size+1=(w.alloc (hpb H (.slice a1 H.row.length c1) (.slice a2 H.roots.length c2) (.slice a3 H.mourned.length c3) (.slice a4 H.seen.length c4))).heap.size by simp)).trans (heap_alloc_new _ _)
 have HB1:Hid _:=B1
 have HT0:Hid _:=T0'
 have HT1:Hid _:=T1
 have sX:w.heap.size+2=((w.alloc (hpb H (.slice a1 H.row.length c1) (.slice a2 H.roots.length c2) (.slice a3 H.mourned.length c3) (.slice a4 H.seen.length c4))).alloc (hpb ⟨0,0,[],0,0,[],[],[],0⟩ (.slice none 0 0) (.slice none 0 0) (.slice none 0 0) (.slice none 0 0))).heap.size:=by simp
 clear h B0 B1 T0 T0' T1 hs
 go_enter Tryz.func26,Tryz.ntmps26
 go_upto_region 1 with fail
 generalize hX:(w.alloc _).alloc _=X at *
 have HsX:Hid _:=sX
 clear hX sX
 obtain⟨⟨z0,z1,z2,z3,z4⟩,⟨z5,z6,z7,z8⟩,_⟩:=nine_cells HT0.out
 go_upto_region 2 with fail
 have BX:Below X.heap.size X (X.alloc (hpb H (.slice a1 H.row.length c1) (.slice a2 H.roots.length c2) (.slice a3 H.mourned.length c3) (.slice a4 H.seen.length c4))):=(Below.refl _ _).alloc (Nat.le_refl _) _
 have HS0:Hid (CpS w (X.alloc (hpb H (.slice a1 H.row.length c1) (.slice a2 H.roots.length c2) (.slice a3 H.mourned.length c3) (.slice a4 H.seen.length c4))) H (.slice a1 H.row.length c1) (.slice a2 H.roots.length c2) (.slice a3 H.mourned.length c3) (.slice a4 H.seen.length c4) (.slice a1 H.row.length c1) (.slice a2 H.roots.length c2) (.slice a3 H.mourned.length c3) (.slice a4 H.seen.length c4)):=⟨nine_below HT0.out BX,nine_below HT1.out BX,by rw[HsX.out];exact heap_alloc_new _ _,HB1.out.trans (BX.mono HB1.out.size),by have:=HsX.out;simp;omega⟩
 clear BX z0 z1 z2 z3 z4 z5 z6 z7 z8 HT0 HT1 HB1
 have hXs:X.heap.size=w.heap.size+2:=HsX.out.symm
 rw[hXs]
 generalize X.alloc (hpb H (.slice a1 H.row.length c1) (.slice a2 H.roots.length c2) (.slice a3 H.mourned.length c3) (.slice a4 H.seen.length c4))=W at *
 clear hXs HsX
 have BA:Below W.heap.size W (W.alloc (.cells #[] 2)):=(Below.refl _ _).alloc (Nat.le_refl _) _
 obtain⟨⟨z0,z1,z2,z3,z4⟩,⟨z5,z6,z7,z8⟩,_⟩:=nine_cells (HS0.out.grow BA).n0
 have IN:=intsAt_below HH.out.1 HS0.out.below
 clear BA
 go_upto_region 3 with (at_builtin;refine wpList_copied IN l1 rfl _ _ rfl (by simp[Act.eval]) rfl ?_;intro g1 k1 w11 hg hO hB;have HOA:Hid (rows.Own w11 W.heap.size (.slice (some ⟨g1,0,none⟩) H.row.length k1) H.row):=hO;have HB:Hid _:=hB;obtain⟨⟨y0,y1,y2,y3,y4⟩,⟨y5,y6,y7,y8⟩,yf⟩:=nine_cells (HS0.out.grow hB).n2;have f2:=yf 2;clear hO hB yf z0 z1 z2 z3 z4 z5 z6 z7 z8 IN)
 have HS1:Hid (CpS w (w11.setCell ⟨w.heap.size+2,2,none⟩ (.slice (some ⟨g1,0,none⟩) H.row.length k1)) H (.slice a1 H.row.length c1) (.slice a2 H.roots.length c2) (.slice a3 H.mourned.length c3) (.slice a4 H.seen.length c4) (.slice (some ⟨g1,0,none⟩) H.row.length k1) (.slice a2 H.roots.length c2) (.slice a3 H.mourned.length c3) (.slice a4 H.seen.length c4)):=(HS0.out.grow HB.out).fields (one_ch _ _ _ _) (nine_set2 (HS0.out.grow HB.out).n2 _)
 have HO1:Hid (rows.Own (w11.setCell ⟨w.heap.size+2,2,none⟩ (.slice (some ⟨g1,0,none⟩) H.row.length k1)) (w.heap.size+3) (.slice (some ⟨g1,0,none⟩) H.row.length k1) H.row):=own_set (own_base HOA.out HS0.out.size) (by omega)
 clear HOA HB hg y0 y1 y2 y3 y4 y5 y6 y7 y8 HS0 f2
 generalize w11.setCell ⟨w.heap.size+2,2,none⟩ (.slice (some ⟨g1,0,none⟩) H.row.length k1)=V1 at *
 have HL1:Hid (g1<V1.heap.size):=(own_lt HO1.out g1 rfl).2
 have BA:Below V1.heap.size V1 (V1.alloc (.cells #[] 2)):=(Below.refl _ _).alloc (Nat.le_refl _) _
 obtain⟨⟨z0,z1,z2,z3,z4⟩,⟨z5,z6,z7,z8⟩,_⟩:=nine_cells (HS1.out.grow BA).n0
 have IN:=intsAt_below HH.out.2.1 HS1.out.below
 clear BA
 go_upto_region 4 with (at_builtin;refine wpList_copied IN l2 rfl _ _ rfl (by simp[Act.eval]) rfl ?_;intro g2 k2 w12 hg hO hB;have HOA:Hid (rows.Own w12 V1.heap.size (.slice (some ⟨g2,0,none⟩) H.roots.length k2) H.roots):=hO;have HB:Hid _:=hB;obtain⟨⟨y0,y1,y2,y3,y4⟩,⟨y5,y6,y7,y8⟩,yf⟩:=nine_cells (HS1.out.grow hB).n2;have f5:=yf 5;clear hO hB yf z0 z1 z2 z3 z4 z5 z6 z7 z8 IN)
 have HS2:Hid (CpS w (w12.setCell ⟨w.heap.size+2,5,none⟩ (.slice (some ⟨g2,0,none⟩) H.roots.length k2)) H (.slice a1 H.row.length c1) (.slice a2 H.roots.length c2) (.slice a3 H.mourned.length c3) (.slice a4 H.seen.length c4) (.slice (some ⟨g1,0,none⟩) H.row.length k1) (.slice (some ⟨g2,0,none⟩) H.roots.length k2) (.slice a3 H.mourned.length c3) (.slice a4 H.seen.length c4)):=(HS1.out.grow HB.out).fields (one_ch _ _ _ _) (nine_set5 (HS1.out.grow HB.out).n2 _)
 have HO2:Hid (rows.Own (w12.setCell ⟨w.heap.size+2,5,none⟩ (.slice (some ⟨g2,0,none⟩) H.roots.length k2)) (w.heap.size+3) (.slice (some ⟨g2,0,none⟩) H.roots.length k2) H.roots):=own_set (own_base HOA.out HS1.out.size) (by omega)
 have HO1:Hid (rows.Own (w12.setCell ⟨w.heap.size+2,5,none⟩ (.slice (some ⟨g2,0,none⟩) H.roots.length k2)) (w.heap.size+3) (.slice (some ⟨g1,0,none⟩) H.row.length k1) H.row):=own_set (own_below HO1.out HB.out) (by omega)
 have HD12:Hid (g1<g2):=Nat.lt_of_lt_of_le HL1.out hg
 clear HOA HB hg y0 y1 y2 y3 y4 y5 y6 y7 y8 HS1 f5
 generalize w12.setCell ⟨w.heap.size+2,5,none⟩ (.slice (some ⟨g2,0,none⟩) H.roots.length k2)=V2 at *
 have HL1:Hid (g1<V2.heap.size):=(own_lt HO1.out g1 rfl).2
 have HL2:Hid (g2<V2.heap.size):=(own_lt HO2.out g2 rfl).2
 have BA:Below V2.heap.size V2 (V2.alloc (.cells #[] 2)):=(Below.refl _ _).alloc (Nat.le_refl _) _
 obtain⟨⟨z0,z1,z2,z3,z4⟩,⟨z5,z6,z7,z8⟩,_⟩:=nine_cells (HS2.out.grow BA).n0
 have IN:=intsAt_below HH.out.2.2.1 HS2.out.below
 clear BA
 go_upto_region 5 with (at_builtin;refine wpList_copied IN l3 rfl _ _ rfl (by simp[Act.eval]) rfl ?_;intro g3 k3 w13 hg hO hB;have HOA:Hid (rows.Own w13 V2.heap.size (.slice (some ⟨g3,0,none⟩) H.mourned.length k3) H.mourned):=hO;have HB:Hid _:=hB;obtain⟨⟨y0,y1,y2,y3,y4⟩,⟨y5,y6,y7,y8⟩,yf⟩:=nine_cells (HS2.out.grow hB).n2;have f6:=yf 6;clear hO hB yf z0 z1 z2 z3 z4 z5 z6 z7 z8 IN)
 have HS3:Hid (CpS w (w13.setCell ⟨w.heap.size+2,6,none⟩ (.slice (some ⟨g3,0,none⟩) H.mourned.length k3)) H (.slice a1 H.row.length c1) (.slice a2 H.roots.length c2) (.slice a3 H.mourned.length c3) (.slice a4 H.seen.length c4) (.slice (some ⟨g1,0,none⟩) H.row.length k1) (.slice (some ⟨g2,0,none⟩) H.roots.length k2) (.slice (some ⟨g3,0,none⟩) H.mourned.length k3) (.slice a4 H.seen.length c4)):=(HS2.out.grow HB.out).fields (one_ch _ _ _ _) (nine_set6 (HS2.out.grow HB.out).n2 _)
 have HO3:Hid (rows.Own (w13.setCell ⟨w.heap.size+2,6,none⟩ (.slice (some ⟨g3,0,none⟩) H.mourned.length k3)) (w.heap.size+3) (.slice (some ⟨g3,0,none⟩) H.mourned.length k3) H.mourned):=own_set (own_base HOA.out HS2.out.size) (by omega)
 have HO1:Hid (rows.Own (w13.setCell ⟨w.heap.size+2,6,none⟩ (.slice (some ⟨g3,0,none⟩) H.mourned.length k3)) (w.heap.size+3) (.slice (some ⟨g1,0,none⟩) H.row.length k1) H.row):=own_set (own_below HO1.out HB.out) (by omega)
 have HD13:Hid (g1<g3):=Nat.lt_of_lt_of_le HL1.out hg
 have HO2:Hid (rows.Own (w13.setCell ⟨w.heap.size+2,6,none⟩ (.slice (some ⟨g3,0,none⟩) H.mourned.length k3)) (w.heap.size+3) (.slice (some ⟨g2,0,none⟩) H.roots.length k2) H.roots):=own_set (own_below HO2.out HB.out) (by omega)
 have HD23:Hid (g2<g3):=Nat.lt_of_lt_of_le HL2.out hg
 clear HOA HB hg y0 y1 y2 y3 y4 y5 y6 y7 y8 HS2 f6
 generalize w13.setCell ⟨w.heap.size+2,6,none⟩ (.slice (some ⟨g3,0,none⟩) H.mourned.length k3)=V3 at *
 have HL1:Hid (g1<V3.heap.size):=(own_lt HO1.out g1 rfl).2
 have HL2:Hid (g2<V3.heap.size):=(own_lt HO2.out g2 rfl).2
 have HL3:Hid (g3<V3.heap.size):=(own_lt HO3.out g3 rfl).2
 have BA:Below V3.heap.size V3 (V3.alloc (.cells #[] 2)):=(Below.refl _ _).alloc (Nat.le_refl _) _
 obtain⟨⟨z0,z1,z2,z3,z4⟩,⟨z5,z6,z7,z8⟩,_⟩:=nine_cells (HS3.out.grow BA).n0
 have IN:=intsAt_below HH.out.2.2.2 HS3.out.below
 clear BA
 go_upto_region 6 with (at_builtin;refine wpList_copied IN l4 rfl _ _ rfl (by simp[Act.eval]) rfl ?_;intro g4 k4 w14 hg hO hB;have HOA:Hid (rows.Own w14 V3.heap.size (.slice (some ⟨g4,0,none⟩) H.seen.length k4) H.seen):=hO;have HB:Hid _:=hB;obtain⟨⟨y0,y1,y2,y3,y4⟩,⟨y5,y6,y7,y8⟩,yf⟩:=nine_cells (HS3.out.grow hB).n2;have f7:=yf 7;clear hO hB yf z0 z1 z2 z3 z4 z5 z6 z7 z8 IN)
 have HS4:Hid (CpS w (w14.setCell ⟨w.heap.size+2,7,none⟩ (.slice (some ⟨g4,0,none⟩) H.seen.length k4)) H (.slice a1 H.row.length c1) (.slice a2 H.roots.length c2) (.slice a3 H.mourned.length c3) (.slice a4 H.seen.length c4) (.slice (some ⟨g1,0,none⟩) H.row.length k1) (.slice (some ⟨g2,0,none⟩) H.roots.length k2) (.slice (some ⟨g3,0,none⟩) H.mourned.length k3) (.slice (some ⟨g4,0,none⟩) H.seen.length k4)):=(HS3.out.grow HB.out).fields (one_ch _ _ _ _) (nine_set7 (HS3.out.grow HB.out).n2 _)
 have HO4:Hid (rows.Own (w14.setCell ⟨w.heap.size+2,7,none⟩ (.slice (some ⟨g4,0,none⟩) H.seen.length k4)) (w.heap.size+3) (.slice (some ⟨g4,0,none⟩) H.seen.length k4) H.seen):=own_set (own_base HOA.out HS3.out.size) (by omega)
 have HO1:Hid (rows.Own (w14.setCell ⟨w.heap.size+2,7,none⟩ (.slice (some ⟨g4,0,none⟩) H.seen.length k4)) (w.heap.size+3) (.slice (some ⟨g1,0,none⟩) H.row.length k1) H.row):=own_set (own_below HO1.out HB.out) (by omega)
 have HD14:Hid (g1<g4):=Nat.lt_of_lt_of_le HL1.out hg
 have HO2:Hid (rows.Own (w14.setCell ⟨w.heap.size+2,7,none⟩ (.slice (some ⟨g4,0,none⟩) H.seen.length k4)) (w.heap.size+3) (.slice (some ⟨g2,0,none⟩) H.roots.length k2) H.roots):=own_set (own_below HO2.out HB.out) (by omega)
 have HD24:Hid (g2<g4):=Nat.lt_of_lt_of_le HL2.out hg
 have HO3:Hid (rows.Own (w14.setCell ⟨w.heap.size+2,7,none⟩ (.slice (some ⟨g4,0,none⟩) H.seen.length k4)) (w.heap.size+3) (.slice (some ⟨g3,0,none⟩) H.mourned.length k3) H.mourned):=own_set (own_below HO3.out HB.out) (by omega)
 have HD34:Hid (g3<g4):=Nat.lt_of_lt_of_le HL3.out hg
 clear HOA HB hg y0 y1 y2 y3 y4 y5 y6 y7 y8 HS3 f7
 generalize w14.setCell ⟨w.heap.size+2,7,none⟩ (.slice (some ⟨g4,0,none⟩) H.seen.length k4)=V4 at *
 have HL1:Hid (g1<V4.heap.size):=(own_lt HO1.out g1 rfl).2
 have HL2:Hid (g2<V4.heap.size):=(own_lt HO2.out g2 rfl).2
 have HL3:Hid (g3<V4.heap.size):=(own_lt HO3.out g3 rfl).2
 have HL4:Hid (g4<V4.heap.size):=(own_lt HO4.out g4 rfl).2
 obtain⟨⟨z0,z1,z2,z3,z4⟩,⟨z5,z6,z7,z8⟩,_⟩:=nine_cells HS4.out.n2
 obtain⟨⟨y0,y1,y2,y3,y4⟩,⟨y5,y6,y7,y8⟩,yf⟩:=nine_cells HS4.out.n1
 have f0:=yf 0
 have f1:=yf 1
 have f2:=yf 2
 have f3:=yf 3
 have f4:=yf 4
 have f5:=yf 5
 have f6:=yf 6
 have f7:=yf 7
 have f8:=yf 8
 clear yf
 have HB4:Hid _:=HS4.out.below
 have HN1:Hid _:=HS4.out.n1
 clear HS4
 go_wp2_with fail
 refine bodyPost_ret (res_heap rfl rfl (nine_sets HN1.out _ _ _ _ _ _ _ _ _)) rfl ⟨_,_,_,_,_,_,_,rfl,⟨⟨?_,?_,?_,?_⟩,?_⟩,nine_belows HB4.out (by omega) _ _ _ _ _ _ _ _ _⟩
 ·exact own_base (row_ch (S:=[w.heap.size+1]) HO1.out (nine_other _ _ _ _ _ _ _ _ _) (fun j hj=>by have:=(blk_lt HO1.out j hj).1;simp;omega)) (by omega)
 ·exact own_base (row_ch (S:=[w.heap.size+1]) HO2.out (nine_other _ _ _ _ _ _ _ _ _) (fun j hj=>by have:=(blk_lt HO2.out j hj).1;simp;omega)) (by omega)
 ·exact own_base (row_ch (S:=[w.heap.size+1]) HO3.out (nine_other _ _ _ _ _ _ _ _ _) (fun j hj=>by have:=(blk_lt HO3.out j hj).1;simp;omega)) (by omega)
 ·exact own_base (row_ch (S:=[w.heap.size+1]) HO4.out (nine_other _ _ _ _ _ _ _ _ _) (fun j hj=>by have:=(blk_lt HO4.out j hj).1;simp;omega)) (by omega)
 ·have q12:=HD12.out
  have q13:=HD13.out
  have q14:=HD14.out
  have q23:=HD23.out
  have q24:=HD24.out
  have q34:=HD34.out
  simp[hblk,blk,Value.ownBlock]
  omega
end Go.Proofs.YtemlagfaaibenaaGreat.hp
namespace Go.Proofs.YtemlagfaaibenaaGreat.hp
open Go.RowKit rows heads words walks region
set_option maxRecDepth 100000
set_option linter.unusedVariables false
set_option linter.unusedSimpArgs false
theorem ownZ (w:World) (b:Nat):OwnH w b (.slice none 0 0) (.slice none 0 0) (.slice none 0 0) (.slice none 0 0) hp0:=
 ⟨⟨World.ownsRow_nil _ _ _ _,World.ownsRow_nil _ _ _ _,World.ownsRow_nil _ _ _ _,World.ownsRow_nil _ _ _ _⟩,by simp[hblk,blk,Value.ownBlock]⟩
end Go.Proofs.YtemlagfaaibenaaGreat.hp
namespace Go.Proofs.YtemlagfaaibenaaGreat.hp
open Go.RowKit rows heads words walks
set_option maxRecDepth 100000
set_option linter.unusedVariables false
set_option linter.unusedSimpArgs false
def ntR (xs:List Int) (k:Nat) (s x:Int):List Int:=put xs k (pk s 7 0 0 false false) [x] 1 (sz s).toNat
theorem nt_head:∀s:Fin 21,ok (pk (s.val:Int) 7 0 0 false false)=true∧uS (pk (s.val:Int) 7 0 0 false false)=s.val∧uF (pk (s.val:Int) 7 0 0 false false)=7∧uP (pk (s.val:Int) 7 0 0 false false)=false∧uM (pk (s.val:Int) 7 0 0 false false)=false:=by decide
theorem nt_at {s:Int} (h0:0≤s) (h1:s≤20):ok (pk s 7 0 0 false false)=true∧uS (pk s 7 0 0 false false)=s∧uF (pk s 7 0 0 false false)=7∧uP (pk s 7 0 0 false false)=false∧uM (pk s 7 0 0 false false)=false:=by
 have:=nt_head ⟨s.toNat,by omega⟩
 simp only at this
 rwa [Int.toNat_of_nonneg h0]at this
theorem put1_getD {xs:List Int} {k n:Nat} {hd x:Int} (h:k+n≤xs.length) (hlt:2≤n) (i:Nat):(put xs k hd [x] 1 n).getD i 0=if i=k then hd else if i=k+1 then x else if k≤i∧i<k+n then 0 else xs.getD i 0:=by
 simp only[put,List.getD_eq_getElem?_getD,List.getElem?_append,List.length_take,List.getElem?_take,List.getElem?_cons,List.length_cons,List.getElem?_replicate,List.length_append,List.length_replicate,List.getElem?_drop,List.length_nil,List.getElem?_nil]
 grind
theorem nt_getD {xs:List Int} {k:Nat} {s x:Int} (h0:0≤s) (h1:s≤20) (h:k+(sz s).toNat≤xs.length) (i:Nat):(ntR xs k s x).getD i 0=if i=k then pk s 7 0 0 false false else if i=k+1 then x else if k≤i∧i<k+(sz s).toNat then 0 else xs.getD i 0:=by
 have hz:=sz_at h0 h1
 exact put1_getD h (by omega) i
theorem nt_length {xs:List Int} {k:Nat} {s x:Int} (h0:0≤s) (h1:s≤20) (h:k+(sz s).toNat≤xs.length):(ntR xs k s x).length=xs.length:=put_length h (by simp) (by have:=sz_at h0 h1;simp;omega)
theorem chunk_nt {xs:List Int} {k:Nat} {s x:Int} (h0:0≤s) (h1:s≤20) (h:k+(sz s).toNat≤xs.length) (hx:isA x=true):chunk (ntR xs k s x) k=sz s∧uF ((ntR xs k s x).getD k 0)=7∧uP ((ntR xs k s x).getD k 0)=false:=by
 have hl:=nt_length (x:=x) h0 h1 h
 have e0:(ntR xs k s x).getD k 0=pk s 7 0 0 false false:=by rw[nt_getD h0 h1 h,if_pos rfl]
 have e1:(ntR xs k s x).getD (k+1) 0=x:=by rw[nt_getD h0 h1 h,if_neg (by omega),if_pos rfl]
 obtain⟨b1,b2,b3,b4,b5⟩:=nt_at h0 h1
 have hz:=sz_at h0 h1
 refine⟨?_,by rw[e0];exact b3,by rw[e0];exact b4⟩
 unfold chunk
 rw[e0,e1,hl,b1,b2,b3,b5,if_pos (by rfl),if_neg (by decide),if_pos ⟨by omega,fun _=>hx⟩]
def repH (H:Hp) (j:Nat) (x:Int):Hp:= { H with row:=ntR H.row j (uS (H.row.getD j 0)) x }
def repF (H:Hp) (j:Nat) (x:Int):Hp:= { repH H j x with seen:=seenL (repH H j x) }
theorem rep_other {H:Hp} {ps:List Int} (hA:Apart H ps) {j:Nat} (hj:(j:Int) ∈ objL H ps) (x:Int):(repH H j x).row.length=H.row.length∧∀q,q<j∨j+(chunk H.row j).toNat≤q→(repH H j x).row.getD q 0=H.row.getD q 0:=by
 obtain⟨hp,h6⟩:=objL_mem hj
 rw[Int.toNat_natCast]at h6
 obtain⟨j',e,hc,_⟩:=hA.nat _ hp
 obtain rfl:=Int.ofNat_inj.1 e
 obtain⟨e1,s0,s1,s2⟩:=chunk_sz hc h6
 refine⟨nt_length s0 s1 s2,fun q hq => ?_⟩
 have hz:=sz_at s0 s1
 rw[e1]at hq
 show (ntR H.row j _ x).getD q 0=_
 rw[nt_getD s0 s1 s2,if_neg (by omega),if_neg (by omega),if_neg (by omega)]
theorem rep_places {H:Hp} {ps:List Int} (h:placesR H=some ps) {j:Nat} (hj:(j:Int) ∈ objL H ps) {x:Int} (hx:isA x=true) :
    placesR (repH H j x)=some ps∧upW (repH H j x)=upW H∧Nums (repH H j x)∧numB (repH H j x)=true:=by
 have hA:=apart_of h
 obtain⟨hl,hsame⟩:=rep_other hA hj x
 obtain⟨hp,h6⟩:=objL_mem hj
 rw[Int.toNat_natCast]at h6
 obtain⟨j',e,hc,_⟩:=hA.nat _ hp
 obtain rfl:=Int.ofNat_inj.1 e
 obtain⟨e1,s0,s1,s2⟩:=chunk_sz hc h6
 obtain⟨n1,n2,n3⟩:=chunk_nt (x:=x) s0 s1 s2 hx
 have hck:∀p ∈ ps,chunk (repH H j x).row p.toNat=chunk H.row p.toNat∧(p≠(j:Int)→(repH H j x).row.getD p.toNat 0=H.row.getD p.toNat 0):=fun p hpp=>by
  obtain⟨i,rfl,hci,_⟩:=hA.nat p hpp
  rw[Int.toNat_natCast]
  by_cases ei:i=j
  ·subst ei
   exact⟨by rw[e1];exact n1,fun e=>absurd rfl e⟩
  ·have hbi:=chunk_bounds H.row i
   have hbj:=chunk_bounds H.row j
   have hap:(∀q,q=i∨q=i+1→(repH H j x).row.getD q 0=H.row.getD q 0):=fun q hq=>by
    refine hsame q ?_
    rcases Nat.lt_or_gt_of_ne ei with hlt|hlt
    ·have:=hA.two hpp hp hlt
     omega
    ·have:=hA.two hp hpp hlt
     omega
   have q0:=hap i (.inl rfl)
   have q1:=hap (i+1) (.inr rfl)
   refine⟨?_,fun _=>q0⟩
   unfold chunk
   rw[q0,q1,hl]
 have hb:hbad (repH H j x)=hbad H:=by
  unfold hbad hb8 hb7 hb6 hb5 hb4 hb3 hb2 hb1 hb0
  rw[hl]
  rfl
 have hb0:hbad H=false:=by
  cases e:hbad H
  ·rfl
  ·unfold placesR at h;rw[if_pos e]at h;cases h
 obtain⟨N,hz,r,u,hr,hu,hall,hps⟩:=places_facts h
 have w1:roomW (repH H j x)=some r:=walkO_congr hr (fun p hp=>(hck p (by rw[hps];exact List.mem_append.2 (.inl hp))).1)
 have w2:upW (repH H j x)=some u:=walkO_congr hu (fun p hp=>(hck p (by rw[hps];exact List.mem_append.2 (.inr hp))).1)
 have hal:r.all (roomOk (repH H j x))=true:=by
  rw[List.all_eq_true]at hall ⊢
  intro p hp
  have hpp:p ∈ ps:=by rw[hps];exact List.mem_append.2 (.inl hp)
  by_cases ep:p=(j:Int)
  ·subst ep
   unfold roomOk
   rw[Int.toNat_natCast,show uF ((repH H j x).row.getD j 0)=7 from n2,show uP ((repH H j x).row.getD j 0)=false from n3]
   rfl
  ·have:=hall _ hp
   unfold roomOk at this ⊢
   rwa [(hck p hpp).2 ep]
 obtain⟨_,m1⟩:=walkL_apart _ _ _ _ _ hr
 obtain⟨_,m2⟩:=walkL_apart _ _ _ _ _ hu
 have hzz:zeroB (repH H j x)=true:=by
  refine zeroB_true (fun i hi => ?_)
  have hi':i<2*hf H:=hi
  have hz0:zeroAt H i=true:=by
   unfold zeroB at hz
   rw[List.all_eq_true]at hz
   exact hz i (List.mem_range.2 hi')
  unfold zeroAt at hz0 ⊢
  show (!(decide (i<bs H) || decide (bs H+tp H≤i)) || ((repH H j x).row.getD i 0==0))=true
  by_cases hcc:i<bs H∨bs H+tp H≤i
  ·have hq:i<j∨j+(chunk H.row j).toNat≤i:=by
     have hbj:=chunk_bounds H.row j
     rw[hps]at hp
     rcases List.mem_append.1 hp with hpp|hpp
     ·have:=m1 _ hpp
      rw[Int.toNat_natCast]at this
      omega
     ·have:=m2 _ hpp
      omega
   rw[hsame i hq]
   exact hz0
  ·simp only[not_or,Nat.not_lt,Nat.not_le]at hcc
   have d1:decide (i<bs H)=false:=decide_eq_false (by omega)
   have d2:decide (bs H+tp H≤i)=false:=decide_eq_false (by omega)
   rw[d1,d2];rfl
 have hN:Nums (repH H j x):=nums_of (hb.trans hb0)
 refine⟨?_,w2.trans hu.symm,hN,((numB_bad (repH H j x)).1 (hb.trans hb0)).1⟩
 unfold placesR
 rw[if_neg (by rw[hb,hb0];decide),placesB_yes hzz w1 w2 hal,hps]
theorem nt_mem {xs:List Int} {k:Nat} {s x:Int} (h0:0≤s) (h1:s≤20) (h:k+(sz s).toNat≤xs.length) (hx:I64 x) (ha:AllI xs):AllI (ntR xs k s x):=by
 intro y hy
 obtain⟨i,hi,rfl⟩:=List.getElem_of_mem hy
 have e:(ntR xs k s x)[i]=(ntR xs k s x).getD i 0:=by rw[List.getD_eq_getElem?_getD,List.getElem?_eq_getElem hi];rfl
 rw[e,nt_getD h0 h1 h]
 have hpk:I64 (pk s 7 0 0 false false):=by
  have:∀s:Fin 21,0≤pk (s.val:Int) 7 0 0 false false∧pk (s.val:Int) 7 0 0 false false≤100000:=by decide
  have:=this ⟨s.toNat,by omega⟩
  simp only at this
  rw[Int.toNat_of_nonneg h0]at this
  unfold I64
  omega
 rw[nt_length h0 h1 h]at hi
 split
 ·exact hpk
 ·split
  ·exact hx
  ·split
   ·exact⟨by decide,by decide⟩
   ·rw[List.getD_eq_getElem?_getD,List.getElem?_eq_getElem hi]
    exact ha _ (List.getElem_mem hi)
def rpX (H:Hp) (r:Int):Int:=av (fol H (H.roots.getD r.toNat 0))
def repC (H:Hp) (a b:Int):Int:=if (rootOk H a&&rootOk H b)=true then (if rpX H a=rpX H b then 2 else if uP (H.row.getD (rpX H a).toNat 0)=true then 3 else 0) else 1
def repA (H:Hp) (a b:Int):Hp:=if heapOk H=true then (if repC H a b=0 then repF H (rpX H a).toNat (4*rpX H b+4) else H) else hp0
theorem root_is {H:Hp} {ps:List Int} (R:Rt H ps) {r:Int} (h:rootOk H r=true):∃j:Nat,rpX H r=(j:Int)∧(j:Int) ∈ objL H ps∧j<H.row.length∧chunk H.row j≠0∧uF (H.row.getD j 0)≠6∧uF (H.row.getD j 0)≠7:=by
 unfold rootOk at h
 simp only[Bool.and_eq_true]at h
 obtain⟨⟨hk,hr⟩,hA⟩:=h
 have N:=(places_facts R.some').1
 have h6:r.toNat<H.roots.length:=by
  rw[N.roots]
  simp only[inR,Bool.and_eq_true,decide_eq_true_eq]at hr
  omega
 have hwx:wordIn H ps (H.roots.getD r.toNat 0)=true:=by
  have:=R.roots
  rw[List.all_eq_true]at this
  refine this _ ?_
  rw[List.getD_eq_getElem?_getD,List.getElem?_eq_getElem h6];exact List.getElem_mem h6
 obtain⟨q1,q2⟩:=R.followed hwx
 obtain⟨m1,m2⟩:=word_place q1 hA
 have hn7:ntH H (av (fol H (H.roots.getD r.toNat 0)))=false:=by
  unfold toNote at q2
  rw[hA,Bool.true_and]at q2
  exact q2
 obtain⟨j,e,hl,hc⟩:=R.plc _ m1
 have ex:rpX H r=(j:Int):=e
 rw[e]at m1 hn7
 rw[e,Int.toNat_natCast]at m2
 refine⟨j,ex,?_,hl,hc,m2,?_⟩
 ·unfold objL
  rw[List.mem_filter]
  exact⟨m1,by unfold isO;rw[Int.toNat_natCast];simpa using m2⟩
 ·unfold ntH at hn7
  rw[Int.toNat_natCast]at hn7
  simpa using hn7
structure RepP (H:Hp) (ps:List Int) (a b:Int) (j k:Nat):Prop where
 ea:rpX H a=(j:Int)
 eb:rpX H b=(k:Int)
 obj:(j:Int) ∈ objL H ps
 lt:j<H.row.length
 lt2:k<H.row.length
 chk:chunk H.row j≠0
 chk2:chunk H.row k≠0
 n6:uF (H.row.getD j 0)≠6
 obj2:(k:Int) ∈ objL H ps
theorem rep_of {H:Hp} {ps:List Int} (R:Rt H ps) {a b:Int} (h:(rootOk H a&&rootOk H b)=true):∃j k,RepP H ps a b j k:=by
 rw[Bool.and_eq_true]at h
 obtain⟨j,e1,e2,e3,e4,e5,e6⟩:=root_is R h.1
 obtain⟨k,f1,f2,f3,f4,f5,f6⟩:=root_is R h.2
 exact⟨j,k,e1,f1,e2,e3,f3,e4,f4,e5,f2⟩
theorem rep_word {H:Hp} {ps:List Int} (R:Rt H ps) {k:Nat} (h:k<H.row.length):isA (4*(k:Int)+4)=true∧oa (k:Int)=4*(k:Int)+4∧I64 (4*(k:Int)+4):=by
 have hl:=R.len
 have q:=isA_oa_yes (n:=(k:Int)) (by omega) (by omega)
 have e:oa (k:Int)=4*(k:Int)+4:=by
  unfold oa
  rw[if_pos (by omega)]
  omega
 rw[e]at q
 exact⟨q.1,e,by unfold I64;omega⟩
theorem repA_size {H:Hp} {a b:Int} (hs:hpSize H≤1048576):hpSize (repA H a b)≤1048576:=by
 unfold repA
 split
 ·rename_i h
  split
  ·rename_i hb
   obtain⟨ps,R⟩:=rt_of (ok_right h).1
   have hr:(rootOk H a&&rootOk H b)=true:=by
    cases e:(rootOk H a&&rootOk H b)
    ·unfold repC at hb;rw[e]at hb;simp at hb
    ·rfl
   obtain⟨j,k,P⟩:=rep_of R hr
   rw[P.ea,P.eb,Int.toNat_natCast]
   obtain⟨hp',_,_,_⟩:=rep_places R.some' P.obj (rep_word R P.lt2).1
   obtain⟨_,_,r,u,_,hu,_,e⟩:=places_facts hp'
   have hl:=(places_plc hp').2
   rw[e,List.length_append]at hl
   have hsn:(seenL (repH H j (4*(k:Int)+4))).length≤500:=by
    unfold seenL
    rw[hu,Option.getD_some]
    exact Nat.le_trans (List.length_filter_le _ _) (by omega)
   have hrl:=R.len
   have N:=(places_facts R.some').1
   have hr6:=N.roots
   have hm40:=N.mourned
   have hl2:=(rep_other (apart_of R.some') P.obj (4*(k:Int)+4)).1
   show (repH H j _).row.length+H.roots.length+H.mourned.length+(seenL (repH H j _)).length≤_
   rw[hl2]
   omega
  ·exact hs
 ·exact Nat.zero_le _
end Go.Proofs.YtemlagfaaibenaaGreat.hp
