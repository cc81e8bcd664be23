/-
  Chapter 9 as the specification has it: a heap's own copy. Chapter 13 as the specification has it. Chapter 15 as the specification has it: does all that is marked lead to what is marked? Chapter 15 as lists: who goes where, and the row that is made of it. Chapter 15 as lists: least free chunks, moves
-/
import Derived.Test.YtemlagfaaibenaaGreatM11
import Derived.Test.YtemlagfaaibenaaGreatM1
import Derived.Test.YtemlagfaaibenaaGreatM12
import Derived.Test.YtemlagfaaibenaaGreatM10
import Derived.Deep.RegionLaw
import Derived.Deep.Cut
import Derived.Deep.CutRange
import Derived.Laws.AppendOwnNone
import Derived.Maps.AppendAt
import Derived.BigQuiet
namespace Go.Proofs.YtemlagfaaibenaaGreat.hp
open Go.RowKit rows heads words walks
set_option maxRecDepth 100000
set_option linter.unusedVariables false
set_option linter.unusedSimpArgs false
structure CpS (w W:World) (H:Hp) (vr vo vm vs c2 c5 c6 c7:Value):Prop where
 n0:Nine W w.heap.size 27 (.int .i64 H.half) (.int .i64 H.old) vr (.int .i64 H.side) (.int .i64 H.top) vo vm vs (.int .i64 H.seed)
 n1:Nine W (w.heap.size+1) 27 (.int .i64 0) (.int .i64 0) (.slice none 0 0) (.int .i64 0) (.int .i64 0) (.slice none 0 0) (.slice none 0 0) (.slice none 0 0) (.int .i64 0)
 n2:Nine W (w.heap.size+2) 27 (.int .i64 H.half) (.int .i64 H.old) c2 (.int .i64 H.side) (.int .i64 H.top) c5 c6 c7 (.int .i64 H.seed)
 below:Below w.heap.size w W
 size:w.heap.size+3≤W.heap.size
theorem CpS.grow {w W W':World} {H:Hp} {vr vo vm vs c2 c5 c6 c7:Value} (h:CpS w W H vr vo vm vs c2 c5 c6 c7) (hb:Below W.heap.size W W'):CpS w W' H vr vo vm vs c2 c5 c6 c7:=⟨nine_below h.n0 hb,nine_below h.n1 hb,nine_below h.n2 hb,h.below.trans (hb.mono h.below.size),Nat.le_trans h.size hb.size⟩
theorem CpS.fields {w W:World} {H:Hp} {vr vo vm vs c2 c5 c6 c7:Value} (h:CpS w W H vr vo vm vs c2 c5 c6 c7) {W':World} {d2 d5 d6 d7:Value} (hc:Ch [w.heap.size+2] W W') (h2:Nine W' (w.heap.size+2) 27 (.int .i64 H.half) (.int .i64 H.old) d2 (.int .i64 H.side) (.int .i64 H.top) d5 d6 d7 (.int .i64 H.seed)):CpS w W' H vr vo vm vs d2 d5 d6 d7:=
 ⟨nine_ch h.n0 hc (by simp),nine_ch h.n1 hc (by simp),h2,h.below.trans (below_ch hc h.below.size (fun k hk=>by simp at hk;omega)),Nat.le_trans h.size hc.size⟩
theorem own_set {W:World} {base b k:Nat} {v u:Value} {xs:List Int} (h:rows.Own W base v xs) (hb:b<base):rows.Own (W.setCell ⟨b,k,none⟩ u) base v xs:=row_ch (S:=[b]) h (one_ch _ _ _ _) (fun j hj=>by have:=(blk_lt h j hj).1;simp;omega)
set_option maxHeartbeats 16000000 in
theorem l9Copy_any {w:World} {vr vo vm vs:Value} {H:Hp} (h:HpAt w vr vo vm vs H) (hs:hpSize H≤1048576) :
    Calls Tryz.prog 26 #[hpv H vr vo vm vs] w fun e w'=>∃g1 g2 g3 k1 k2 k3 s',e = .returned (hpv H (.slice (some ⟨g1,0,none⟩) H.row.length k1) (.slice (some ⟨g2,0,none⟩) H.roots.length k2) (.slice (some ⟨g3,0,none⟩) H.mourned.length k3) s')∧OwnH w' w.heap.size (.slice (some ⟨g1,0,none⟩) H.row.length k1) (.slice (some ⟨g2,0,none⟩) H.roots.length k2) (.slice (some ⟨g3,0,none⟩) H.mourned.length k3) s' H∧Below w.heap.size w w':=by
 obtain⟨a1,c1,a2,c2,a3,c3,a4,c4,e1,e2,e3,e4⟩:=hpAt_slices h
 subst e1 e2 e3 e4
 have l1:H.row.length≤1048576:=by unfold hpSize at hs;omega
 have l2:H.roots.length≤1048576:=by unfold hpSize at hs;omega
 have l3:H.mourned.length≤1048576:=by unfold hpSize at hs;omega
 have l4:H.seen.length≤1048576:=by unfold hpSize at hs;omega
 have HH:Hid _:=h
 have B0:Below w.heap.size w (w.alloc (hpb H (.slice a1 H.row.length c1) (.slice a2 H.roots.length c2) (.slice a3 H.mourned.length c3) (.slice a4 H.seen.length c4))):=(Below.refl _ _).alloc (Nat.le_refl _) _
 have B1:=B0.alloc B0.size (hpb ⟨0,0,[],0,0,[],[],[],0⟩ (.slice none 0 0) (.slice none 0 0) (.slice none 0 0) (.slice none 0 0))
 have T0:=nine_new w H (.slice a1 H.row.length c1) (.slice a2 H.roots.length c2) (.slice a3 H.mourned.length c3) (.slice a4 H.seen.length c4)
 have T0':=nine_below T0 ((Below.refl _ _).alloc (Nat.le_refl _) (hpb ⟨0,0,[],0,0,[],[],[],0⟩ (.slice none 0 0) (.slice none 0 0) (.slice none 0 0) (.slice none 0 0)))
 have T1:Nine ((w.alloc (hpb H (.slice a1 H.row.length c1) (.slice a2 H.roots.length c2) (.slice a3 H.mourned.length c3) (.slice a4 H.seen.length c4))).alloc (hpb ⟨0,0,[],0,0,[],[],[],0⟩ (.slice none 0 0) (.slice none 0 0) (.slice none 0 0) (.slice none 0 0))) (w.heap.size+1) 27 (.int .i64 0) (.int .i64 0) (.slice none 0 0) (.int .i64 0) (.int .i64 0) (.slice none 0 0) (.slice none 0 0) (.slice none 0 0) (.int .i64 0):=(congrArg (fun k=>((w.alloc (hpb H (.slice a1 H.row.length c1) (.slice a2 H.roots.length c2) (.slice a3 H.mourned.length c3) (.slice a4 H.seen.length c4))).alloc (hpb ⟨0,0,[],0,0,[],[],[],0⟩ (.slice none 0 0) (.slice none 0 0) (.slice none 0 0) (.slice none 0 0))).heap[k]?) (show w.heap.size+1=(w.alloc (hpb H (.slice a1 H.row.length c1) (.slice a2 H.roots.length c2) (.slice a3 H.mourned.length c3) (.slice a4 H.seen.length c4))).heap.size by simp)).trans (heap_alloc_new _ _)
 have HB1:Hid _:=B1
 have HT0:Hid _:=T0'
 have HT1:Hid _:=T1
 have sX:w.heap.size+2=((w.alloc (hpb H (.slice a1 H.row.length c1) (.slice a2 H.roots.length c2) (.slice a3 H.mourned.length c3) (.slice a4 H.seen.length c4))).alloc (hpb ⟨0,0,[],0,0,[],[],[],0⟩ (.slice none 0 0) (.slice none 0 0) (.slice none 0 0) (.slice none 0 0))).heap.size:=by simp
 clear h B0 B1 T0 T0' T1 hs
 go_enter Tryz.func26,Tryz.ntmps26
 go_upto_region 1 with fail
 generalize hX:(w.alloc _).alloc _=X at *
 have HsX:Hid _:=sX
 clear hX sX
 obtain⟨⟨z0,z1,z2,z3,z4⟩,⟨z5,z6,z7,z8⟩,_⟩:=nine_cells HT0.out
 go_upto_region 2 with fail
 have BX:Below X.heap.size X (X.alloc (hpb H (.slice a1 H.row.length c1) (.slice a2 H.roots.length c2) (.slice a3 H.mourned.length c3) (.slice a4 H.seen.length c4))):=(Below.refl _ _).alloc (Nat.le_refl _) _
 have HS0:Hid (CpS w (X.alloc (hpb H (.slice a1 H.row.length c1) (.slice a2 H.roots.length c2) (.slice a3 H.mourned.length c3) (.slice a4 H.seen.length c4))) H (.slice a1 H.row.length c1) (.slice a2 H.roots.length c2) (.slice a3 H.mourned.length c3) (.slice a4 H.seen.length c4) (.slice a1 H.row.length c1) (.slice a2 H.roots.length c2) (.slice a3 H.mourned.length c3) (.slice a4 H.seen.length c4)):=⟨nine_below HT0.out BX,nine_below HT1.out BX,by rw[HsX.out];exact heap_alloc_new _ _,HB1.out.trans (BX.mono HB1.out.size),by have:=HsX.out;simp;omega⟩
 clear BX z0 z1 z2 z3 z4 z5 z6 z7 z8 HT0 HT1 HB1
 have hXs:X.heap.size=w.heap.size+2:=HsX.out.symm
 rw[hXs]
 generalize X.alloc (hpb H (.slice a1 H.row.length c1) (.slice a2 H.roots.length c2) (.slice a3 H.mourned.length c3) (.slice a4 H.seen.length c4))=W at *
 clear hXs HsX
 have BA:Below W.heap.size W (W.alloc (.cells #[] 2)):=(Below.refl _ _).alloc (Nat.le_refl _) _
 obtain⟨⟨z0,z1,z2,z3,z4⟩,⟨z5,z6,z7,z8⟩,_⟩:=nine_cells (HS0.out.grow BA).n0
 have IN:=intsAt_below HH.out.1 HS0.out.below
 clear BA
 go_upto_region 3 with (at_builtin;refine wpList_copied IN l1 rfl _ _ rfl (by simp[Act.eval]) rfl ?_;intro g1 k1 w11 hg hO hB;have HOA:Hid (rows.Own w11 W.heap.size (.slice (some ⟨g1,0,none⟩) H.row.length k1) H.row):=hO;have HB:Hid _:=hB;obtain⟨⟨y0,y1,y2,y3,y4⟩,⟨y5,y6,y7,y8⟩,yf⟩:=nine_cells (HS0.out.grow hB).n2;have f2:=yf 2;clear hO hB yf z0 z1 z2 z3 z4 z5 z6 z7 z8 IN)
 have HS1:Hid (CpS w (w11.setCell ⟨w.heap.size+2,2,none⟩ (.slice (some ⟨g1,0,none⟩) H.row.length k1)) H (.slice a1 H.row.length c1) (.slice a2 H.roots.length c2) (.slice a3 H.mourned.length c3) (.slice a4 H.seen.length c4) (.slice (some ⟨g1,0,none⟩) H.row.length k1) (.slice a2 H.roots.length c2) (.slice a3 H.mourned.length c3) (.slice a4 H.seen.length c4)):=(HS0.out.grow HB.out).fields (one_ch _ _ _ _) (nine_set2 (HS0.out.grow HB.out).n2 _)
 have HO1:Hid (rows.Own (w11.setCell ⟨w.heap.size+2,2,none⟩ (.slice (some ⟨g1,0,none⟩) H.row.length k1)) (w.heap.size+3) (.slice (some ⟨g1,0,none⟩) H.row.length k1) H.row):=own_set (own_base HOA.out HS0.out.size) (by omega)
 clear HOA HB hg y0 y1 y2 y3 y4 y5 y6 y7 y8 HS0 f2
 generalize w11.setCell ⟨w.heap.size+2,2,none⟩ (.slice (some ⟨g1,0,none⟩) H.row.length k1)=V1 at *
 have HL1:Hid (g1<V1.heap.size):=(own_lt HO1.out g1 rfl).2
 have BA:Below V1.heap.size V1 (V1.alloc (.cells #[] 2)):=(Below.refl _ _).alloc (Nat.le_refl _) _
 obtain⟨⟨z0,z1,z2,z3,z4⟩,⟨z5,z6,z7,z8⟩,_⟩:=nine_cells (HS1.out.grow BA).n0
 have IN:=intsAt_below HH.out.2.1 HS1.out.below
 clear BA
 go_upto_region 4 with (at_builtin;refine wpList_copied IN l2 rfl _ _ rfl (by simp[Act.eval]) rfl ?_;intro g2 k2 w12 hg hO hB;have HOA:Hid (rows.Own w12 V1.heap.size (.slice (some ⟨g2,0,none⟩) H.roots.length k2) H.roots):=hO;have HB:Hid _:=hB;obtain⟨⟨y0,y1,y2,y3,y4⟩,⟨y5,y6,y7,y8⟩,yf⟩:=nine_cells (HS1.out.grow hB).n2;have f5:=yf 5;clear hO hB yf z0 z1 z2 z3 z4 z5 z6 z7 z8 IN)
 have HS2:Hid (CpS w (w12.setCell ⟨w.heap.size+2,5,none⟩ (.slice (some ⟨g2,0,none⟩) H.roots.length k2)) H (.slice a1 H.row.length c1) (.slice a2 H.roots.length c2) (.slice a3 H.mourned.length c3) (.slice a4 H.seen.length c4) (.slice (some ⟨g1,0,none⟩) H.row.length k1) (.slice (some ⟨g2,0,none⟩) H.roots.length k2) (.slice a3 H.mourned.length c3) (.slice a4 H.seen.length c4)):=(HS1.out.grow HB.out).fields (one_ch _ _ _ _) (nine_set5 (HS1.out.grow HB.out).n2 _)
 have HO2:Hid (rows.Own (w12.setCell ⟨w.heap.size+2,5,none⟩ (.slice (some ⟨g2,0,none⟩) H.roots.length k2)) (w.heap.size+3) (.slice (some ⟨g2,0,none⟩) H.roots.length k2) H.roots):=own_set (own_base HOA.out HS1.out.size) (by omega)
 have HO1:Hid (rows.Own (w12.setCell ⟨w.heap.size+2,5,none⟩ (.slice (some ⟨g2,0,none⟩) H.roots.length k2)) (w.heap.size+3) (.slice (some ⟨g1,0,none⟩) H.row.length k1) H.row):=own_set (own_below HO1.out HB.out) (by omega)
 have HD12:Hid (g1<g2):=Nat.lt_of_lt_of_le HL1.out hg
 clear HOA HB hg y0 y1 y2 y3 y4 y5 y6 y7 y8 HS1 f5
 generalize w12.setCell ⟨w.heap.size+2,5,none⟩ (.slice (some ⟨g2,0,none⟩) H.roots.length k2)=V2 at *
 have HL1:Hid (g1<V2.heap.size):=(own_lt HO1.out g1 rfl).2
 have HL2:Hid (g2<V2.heap.size):=(own_lt HO2.out g2 rfl).2
 have BA:Below V2.heap.size V2 (V2.alloc (.cells #[] 2)):=(Below.refl _ _).alloc (Nat.le_refl _) _
 obtain⟨⟨z0,z1,z2,z3,z4⟩,⟨z5,z6,z7,z8⟩,_⟩:=nine_cells (HS2.out.grow BA).n0
 have IN:=intsAt_below HH.out.2.2.1 HS2.out.below
 clear BA
 go_upto_region 5 with (at_builtin;refine wpList_copied IN l3 rfl _ _ rfl (by simp[Act.eval]) rfl ?_;intro g3 k3 w13 hg hO hB;have HOA:Hid (rows.Own w13 V2.heap.size (.slice (some ⟨g3,0,none⟩) H.mourned.length k3) H.mourned):=hO;have HB:Hid _:=hB;obtain⟨⟨y0,y1,y2,y3,y4⟩,⟨y5,y6,y7,y8⟩,yf⟩:=nine_cells (HS2.out.grow hB).n2;have f6:=yf 6;clear hO hB yf z0 z1 z2 z3 z4 z5 z6 z7 z8 IN)
 have HS3:Hid (CpS w (w13.setCell ⟨w.heap.size+2,6,none⟩ (.slice (some ⟨g3,0,none⟩) H.mourned.length k3)) H (.slice a1 H.row.length c1) (.slice a2 H.roots.length c2) (.slice a3 H.mourned.length c3) (.slice a4 H.seen.length c4) (.slice (some ⟨g1,0,none⟩) H.row.length k1) (.slice (some ⟨g2,0,none⟩) H.roots.length k2) (.slice (some ⟨g3,0,none⟩) H.mourned.length k3) (.slice a4 H.seen.length c4)):=(HS2.out.grow HB.out).fields (one_ch _ _ _ _) (nine_set6 (HS2.out.grow HB.out).n2 _)
 have HO3:Hid (rows.Own (w13.setCell ⟨w.heap.size+2,6,none⟩ (.slice (some ⟨g3,0,none⟩) H.mourned.length k3)) (w.heap.size+3) (.slice (some ⟨g3,0,none⟩) H.mourned.length k3) H.mourned):=own_set (own_base HOA.out HS2.out.size) (by omega)
 have HO1:Hid (rows.Own (w13.setCell ⟨w.heap.size+2,6,none⟩ (.slice (some ⟨g3,0,none⟩) H.mourned.length k3)) (w.heap.size+3) (.slice (some ⟨g1,0,none⟩) H.row.length k1) H.row):=own_set (own_below HO1.out HB.out) (by omega)
 have HD13:Hid (g1<g3):=Nat.lt_of_lt_of_le HL1.out hg
 have HO2:Hid (rows.Own (w13.setCell ⟨w.heap.size+2,6,none⟩ (.slice (some ⟨g3,0,none⟩) H.mourned.length k3)) (w.heap.size+3) (.slice (some ⟨g2,0,none⟩) H.roots.length k2) H.roots):=own_set (own_below HO2.out HB.out) (by omega)
 have HD23:Hid (g2<g3):=Nat.lt_of_lt_of_le HL2.out hg
 clear HOA HB hg y0 y1 y2 y3 y4 y5 y6 y7 y8 HS2 f6
 generalize w13.setCell ⟨w.heap.size+2,6,none⟩ (.slice (some ⟨g3,0,none⟩) H.mourned.length k3)=V3 at *
 have HL1:Hid (g1<V3.heap.size):=(own_lt HO1.out g1 rfl).2
 have HL2:Hid (g2<V3.heap.size):=(own_lt HO2.out g2 rfl).2
 have HL3:Hid (g3<V3.heap.size):=(own_lt HO3.out g3 rfl).2
 have BA:Below V3.heap.size V3 (V3.alloc (.cells #[] 2)):=(Below.refl _ _).alloc (Nat.le_refl _) _
 obtain⟨⟨z0,z1,z2,z3,z4⟩,⟨z5,z6,z7,z8⟩,_⟩:=nine_cells (HS3.out.grow BA).n0
 have IN:=intsAt_below HH.out.2.2.2 HS3.out.below
 clear BA
 go_upto_region 6 with (at_builtin;refine wpList_copied IN l4 rfl _ _ rfl (by simp[Act.eval]) rfl ?_;intro g4 k4 w14 hg hO hB;have HOA:Hid (rows.Own w14 V3.heap.size (.slice (some ⟨g4,0,none⟩) H.seen.length k4) H.seen):=hO;have HB:Hid _:=hB;obtain⟨⟨y0,y1,y2,y3,y4⟩,⟨y5,y6,y7,y8⟩,yf⟩:=nine_cells (HS3.out.grow hB).n2;have f7:=yf 7;clear hO hB yf z0 z1 z2 z3 z4 z5 z6 z7 z8 IN)
 have HS4:Hid (CpS w (w14.setCell ⟨w.heap.size+2,7,none⟩ (.slice (some ⟨g4,0,none⟩) H.seen.length k4)) H (.slice a1 H.row.length c1) (.slice a2 H.roots.length c2) (.slice a3 H.mourned.length c3) (.slice a4 H.seen.length c4) (.slice (some ⟨g1,0,none⟩) H.row.length k1) (.slice (some ⟨g2,0,none⟩) H.roots.length k2) (.slice (some ⟨g3,0,none⟩) H.mourned.length k3) (.slice (some ⟨g4,0,none⟩) H.seen.length k4)):=(HS3.out.grow HB.out).fields (one_ch _ _ _ _) (nine_set7 (HS3.out.grow HB.out).n2 _)
 have HO4:Hid (rows.Own (w14.setCell ⟨w.heap.size+2,7,none⟩ (.slice (some ⟨g4,0,none⟩) H.seen.length k4)) (w.heap.size+3) (.slice (some ⟨g4,0,none⟩) H.seen.length k4) H.seen):=own_set (own_base HOA.out HS3.out.size) (by omega)
 have HO1:Hid (rows.Own (w14.setCell ⟨w.heap.size+2,7,none⟩ (.slice (some ⟨g4,0,none⟩) H.seen.length k4)) (w.heap.size+3) (.slice (some ⟨g1,0,none⟩) H.row.length k1) H.row):=own_set (own_below HO1.out HB.out) (by omega)
 have HD14:Hid (g1<g4):=Nat.lt_of_lt_of_le HL1.out hg
 have HO2:Hid (rows.Own (w14.setCell ⟨w.heap.size+2,7,none⟩ (.slice (some ⟨g4,0,none⟩) H.seen.length k4)) (w.heap.size+3) (.slice (some ⟨g2,0,none⟩) H.roots.length k2) H.roots):=own_set (own_below HO2.out HB.out) (by omega)
 have HD24:Hid (g2<g4):=Nat.lt_of_lt_of_le HL2.out hg
 have HO3:Hid (rows.Own (w14.setCell ⟨w.heap.size+2,7,none⟩ (.slice (some ⟨g4,0,none⟩) H.seen.length k4)) (w.heap.size+3) (.slice (some ⟨g3,0,none⟩) H.mourned.length k3) H.mourned):=own_set (own_below HO3.out HB.out) (by omega)
 have HD34:Hid (g3<g4):=Nat.lt_of_lt_of_le HL3.out hg
 clear HOA HB hg y0 y1 y2 y3 y4 y5 y6 y7 y8 HS3 f7
 generalize w14.setCell ⟨w.heap.size+2,7,none⟩ (.slice (some ⟨g4,0,none⟩) H.seen.length k4)=V4 at *
 have HL1:Hid (g1<V4.heap.size):=(own_lt HO1.out g1 rfl).2
 have HL2:Hid (g2<V4.heap.size):=(own_lt HO2.out g2 rfl).2
 have HL3:Hid (g3<V4.heap.size):=(own_lt HO3.out g3 rfl).2
 have HL4:Hid (g4<V4.heap.size):=(own_lt HO4.out g4 rfl).2
 obtain⟨⟨z0,z1,z2,z3,z4⟩,⟨z5,z6,z7,z8⟩,_⟩:=nine_cells HS4.out.n2
 obtain⟨⟨y0,y1,y2,y3,y4⟩,⟨y5,y6,y7,y8⟩,yf⟩:=nine_cells HS4.out.n1
 have f0:=yf 0
 have f1:=yf 1
 have f2:=yf 2
 have f3:=yf 3
 have f4:=yf 4
 have f5:=yf 5
 have f6:=yf 6
 have f7:=yf 7
 have f8:=yf 8
 clear yf
 have HB4:Hid _:=HS4.out.below
 have HN1:Hid _:=HS4.out.n1
 clear HS4
 go_wp2_with fail
 refine bodyPost_ret (res_heap rfl rfl (nine_sets HN1.out _ _ _ _ _ _ _ _ _)) rfl ⟨_,_,_,_,_,_,_,rfl,⟨⟨?_,?_,?_,?_⟩,?_⟩,nine_belows HB4.out (by omega) _ _ _ _ _ _ _ _ _⟩
 ·exact own_base (row_ch (S:=[w.heap.size+1]) HO1.out (nine_other _ _ _ _ _ _ _ _ _) (fun j hj=>by have:=(blk_lt HO1.out j hj).1;simp;omega)) (by omega)
 ·exact own_base (row_ch (S:=[w.heap.size+1]) HO2.out (nine_other _ _ _ _ _ _ _ _ _) (fun j hj=>by have:=(blk_lt HO2.out j hj).1;simp;omega)) (by omega)
 ·exact own_base (row_ch (S:=[w.heap.size+1]) HO3.out (nine_other _ _ _ _ _ _ _ _ _) (fun j hj=>by have:=(blk_lt HO3.out j hj).1;simp;omega)) (by omega)
 ·exact own_base (row_ch (S:=[w.heap.size+1]) HO4.out (nine_other _ _ _ _ _ _ _ _ _) (fun j hj=>by have:=(blk_lt HO4.out j hj).1;simp;omega)) (by omega)
 ·have q12:=HD12.out
  have q13:=HD13.out
  have q14:=HD14.out
  have q23:=HD23.out
  have q24:=HD24.out
  have q34:=HD34.out
  simp[hblk,blk,Value.ownBlock]
  omega
end Go.Proofs.YtemlagfaaibenaaGreat.hp
namespace Go.Proofs.YtemlagfaaibenaaGreat.hp
open Go.RowKit rows heads words walks region
set_option maxRecDepth 100000
set_option linter.unusedVariables false
set_option linter.unusedSimpArgs false
end Go.Proofs.YtemlagfaaibenaaGreat.hp
namespace Go.Proofs.YtemlagfaaibenaaGreat.hp
open Go.RowKit rows heads words walks
set_option maxRecDepth 100000
set_option linter.unusedVariables false
set_option linter.unusedSimpArgs false
structure Mv where
 f:Nat
 t:Nat
 n:Nat
def gap (n:Nat):List Int:=if n=0 then [] else 384 :: (n:Int) :: List.replicate (n-2) 0
theorem gap_len {n:Nat} (h:n≠1):(gap n).length=n:=by
 unfold gap
 split
 ·simp[*]
 ·simp;omega
theorem free_app {P D:List Int} {n:Nat} (h2:2≤n) (hn:n≤D.length):freeR (P++D) P.length n=P++(gap n++D.drop n):=by
 unfold freeR put gap
 rw[if_neg (by omega),pk6,List.take_left,List.drop_append,show P.length+n-P.length=n by omega,List.drop_eq_nil_of_le (show P.length≤P.length+n by omega)]
 simp
 grind
def dstM (H:Hp) (k:Nat) (p:Int):Nat:=if uP (H.row.getD p.toNat 0)=true then p.toNat else k
def mvL (H:Hp):Nat→List Int→List Mv
 |_,[]=>[]
 |k,p :: us=>if uF (H.row.getD p.toNat 0)=6 then mvL H k us else ⟨p.toNat,dstM H k p,(chunk H.row p.toNat).toNat⟩ :: mvL H (dstM H k p+(chunk H.row p.toNat).toNat) us
def OrdM (H:Hp) (T:Nat):Nat→List Mv→Prop
 |k,[]=>k≤T∧(T-k) % 2=0
 |k,m :: ms=>(k≤m.t∧(m.t-k) % 2=0∧m.t≤m.f∧m.f+m.n≤T∧2≤m.n∧m.n % 2=0∧(m.n:Int)=chunk H.row m.f∧uF (H.row.getD m.f 0)≠6)∧OrdM H T (m.t+m.n) ms
theorem ord_of {H:Hp} {T:Nat}:∀(us:List Int) (j k:Nat),Chain H.row T j (us.map Int.toNat)→k≤j→(j-k) % 2=0→OrdM H T k (mvL H k us):=by
 intro us
 induction us with
 |nil=>
  intro j k hc hk he
  have e:j=T:=hc
  subst e
  exact⟨hk,he⟩
 |cons p us ih=>
  intro j k hc hk he
  obtain⟨e,h1,h2,h3,h4⟩:=hc
  have hb:=chunk_bounds H.row j
  unfold mvL
  rw[←e]
  by_cases h6:uF (H.row.getD j 0)=6
  ·rw[if_pos h6]
   exact ih _ _ h4 (by omega) (by omega)
  ·rw[if_neg h6]
   have hd:dstM H k p=j∨dstM H k p=k:=by
    unfold dstM
    rw[←e]
    split
    ·exact .inl rfl
    ·exact .inr rfl
   refine⟨⟨?_,?_,?_,?_,?_,?_,?_,h6⟩,ih (j+(chunk H.row j).toNat) _ h4 ?_ ?_⟩
   all_goals (try simp only)
   all_goals omega
theorem ord_le {H:Hp} {T:Nat}:∀ {ms:List Mv} {k:Nat},OrdM H T k ms→k≤T
 | [],_,h=>h.1
 |m :: ms,k,h=>by
  have:=ord_le h.2
  have:=h.1
  omega
def wdM (H:Hp) (m:Mv):List Int:=(H.row.drop m.f).take m.n
def layM (H:Hp) (T:Nat):Nat→List Mv→List Int
 |k,[]=>gap (T-k)
 |k,m :: ms=>gap (m.t-k)++(wdM H m++layM H T (m.t+m.n) ms)
theorem wd_len {H:Hp} {m:Mv} (h:m.f+m.n≤H.row.length):(wdM H m).length=m.n:=by unfold wdM;rw[List.length_take,List.length_drop];omega
theorem lay_len {H:Hp} {T:Nat} (hT:T≤H.row.length):∀ {ms:List Mv} {k:Nat},OrdM H T k ms→(layM H T k ms).length=T-k
 | [],k,h=>by unfold layM;exact gap_len (by have:=h.2;omega)
 |m :: ms,k,h=>by
  have e:=lay_len hT h.2
  have hl:=ord_le h.2
  have h1:=h.1
  unfold layM
  rw[List.length_append,List.length_append,gap_len (by omega),wd_len (by omega),e]
  omega
def cmpR (H:Hp) (F T:Nat) (u:List Int):List Int:=H.row.take F++layM H T F (mvL H F u)
theorem cmpR_len {H:Hp} {F T:Nat} {u:List Int} (hT:T=H.row.length) (ho:OrdM H T F (mvL H F u)):(cmpR H F T u).length=H.row.length:=by
 have:=ord_le ho
 unfold cmpR
 rw[List.length_append,lay_len (by omega) ho,List.length_take]
 omega
structure CI (H:Hp) (F T:Nat) (u:List Int) (i k:Nat) (xs:List Int) (ds:List Mv):Prop where
 row:∃P:List Int,P.length=k∧xs=P++H.row.drop k∧P++layM H T k (mvL H k (u.drop i))=cmpR H F T u
 don:ds++mvL H k (u.drop i)=mvL H F u
 ord:OrdM H T k (mvL H k (u.drop i))
theorem ci_start {H:Hp} {F T:Nat} {u:List Int} (hF:F≤H.row.length) (ho:OrdM H T F (mvL H F u)):CI H F T u 0 F H.row []:=
 ⟨⟨H.row.take F,by rw[List.length_take];omega,(List.take_append_drop F H.row).symm,rfl⟩,rfl,ho⟩
theorem CI.len {H:Hp} {F T:Nat} {u:List Int} {i k:Nat} {xs:List Int} {ds:List Mv} (h:CI H F T u i k xs ds) (hT:T=H.row.length):xs.length=H.row.length∧k≤T:=by
 obtain⟨P,e1,e2,_⟩:=h.row
 have:=ord_le h.ord
 rw[e2,List.length_append,List.length_drop]
 omega
theorem dropU_at {u:List Int} {i:Nat} (hi:i<u.length):u.drop i=u.getD i 0 :: u.drop (i+1):=by
 rw[List.drop_eq_getElem_cons hi,List.getD_eq_getElem?_getD,List.getElem?_eq_getElem hi]
 rfl
theorem CI.free {H:Hp} {F T:Nat} {u:List Int} {i k:Nat} {xs:List Int} {ds:List Mv} (h:CI H F T u i k xs ds) (hi:i<u.length) (h6:uF (H.row.getD (u.getD i 0).toNat 0)=6):CI H F T u (i+1) k xs ds:=by
 have e:mvL H k (u.drop i)=mvL H k (u.drop (i+1)):=by
  rw[dropU_at hi]
  conv=>lhs;unfold mvL
  rw[if_pos h6]
 obtain⟨⟨P,p1,p2,p3⟩,d,o⟩:=h
 rw[e]at p3 d o
 exact⟨⟨P,p1,p2,p3⟩,d,o⟩
theorem CI.at {H:Hp} {F T:Nat} {u:List Int} {i k:Nat} {xs:List Int} {ds:List Mv} (h:CI H F T u i k xs ds) (hi:i<u.length) (h6:uF (H.row.getD (u.getD i 0).toNat 0)≠6):∃m:Mv,m=⟨(u.getD i 0).toNat,dstM H k (u.getD i 0),(chunk H.row (u.getD i 0).toNat).toNat⟩∧mvL H k (u.drop i)=m :: mvL H (m.t+m.n) (u.drop (i+1))∧OrdM H T k (m :: mvL H (m.t+m.n) (u.drop (i+1))):=by
 have e:mvL H k (u.drop i)=⟨(u.getD i 0).toNat,dstM H k (u.getD i 0),(chunk H.row (u.getD i 0).toNat).toNat⟩ :: mvL H (dstM H k (u.getD i 0)+(chunk H.row (u.getD i 0).toNat).toNat) (u.drop (i+1)):=by
  rw[dropU_at hi]
  conv=>lhs;unfold mvL
  rw[if_neg h6]
 exact⟨_,rfl,e,e▸h.ord⟩
def gapR (xs:List Int) (k t:Nat):List Int:=if k<t then freeR xs k (t-k) else xs
theorem CI.words {H:Hp} {F T:Nat} {u:List Int} {i k:Nat} {xs:List Int} {ds:List Mv} (h:CI H F T u i k xs ds) (hT:T=H.row.length) {m:Mv} {ms:List Mv} (hm:mvL H k (u.drop i)=m :: ms) :
    (∀j,j≤m.n→(putR (gapR xs k m.t) m.t ((wdM H m).take j)).length=H.row.length)∧(∀j,j<m.n→(putR (gapR xs k m.t) m.t ((wdM H m).take j)).set (m.t+j) (H.row.getD (m.f+j) 0)=putR (gapR xs k m.t) m.t ((wdM H m).take (j+1)))∧putR (gapR xs k m.t) m.t ((wdM H m).take 0)=gapR xs k m.t∧(wdM H m).take m.n=wdM H m:=by
 have o:=h.ord
 rw[hm]at o
 obtain⟨o1,o2⟩:=o
 have hl:=ord_le o2
 have xl:=(h.len hT).1
 have gl:(gapR xs k m.t).length=H.row.length:=by
  unfold gapR
  split
  ·rw[freeR_length (by omega) (by omega),xl]
  ·exact xl
 have wl:=wd_len (H:=H) (m:=m) (by omega)
 refine⟨fun j hj => ?_,fun j hj => ?_,by rw[List.take_zero,putR_nil],by rw[←wl,List.take_length]⟩
 ·rw[putR_len (by rw[List.length_take,wl,gl];omega),gl]
 ·have e:=putR_snoc (xs:=gapR xs k m.t) (k:=m.t) (ys:=(wdM H m).take j) (y:=H.row.getD (m.f+j) 0) (by rw[List.length_take,wl,gl];omega)
  rw[List.length_take,wl,Nat.min_eq_left (by omega)]at e
  rw[e,List.take_add_one]
  congr 2
  unfold wdM
  rw[List.getElem?_take,if_pos hj,List.getElem?_drop,List.getElem?_eq_getElem (by omega),List.getD_eq_getElem?_getD,List.getElem?_eq_getElem (by omega)]
  rfl
theorem CI.goes {H:Hp} {F T:Nat} {u:List Int} {i k:Nat} {xs:List Int} {ds:List Mv} (h:CI H F T u i k xs ds) (hT:T=H.row.length) {m:Mv} (hm:mvL H k (u.drop i)=m :: mvL H (m.t+m.n) (u.drop (i+1))) :
    CI H F T u (i+1) (m.t+m.n) (putR (gapR xs k m.t) m.t (wdM H m)) (ds++[m]):=by
 have o:=h.ord
 rw[hm]at o
 obtain⟨o1,o2⟩:=o
 have hl:=ord_le o2
 obtain⟨⟨P,p1,p2,p3⟩,d,_⟩:=h
 rw[hm]at p3 d
 have wl:=wd_len (H:=H) (m:=m) (by omega)
 have gl:=gap_len (n:=m.t-k) (by omega)
 have eg:gapR xs k m.t=(P++gap (m.t-k))++H.row.drop m.t:=by
  unfold gapR
  split
  ·rw[p2,←p1,free_app (by omega) (by rw[List.length_drop];omega),List.drop_drop,List.append_assoc]
   congr 3
   omega
  ·rw[show m.t-k=0 by omega,p2,show m.t=k by omega]
   simp[gap]
 refine⟨⟨P++(gap (m.t-k)++wdM H m),?_,?_,?_⟩,by rw[List.append_assoc];exact d,o2⟩
 ·rw[List.length_append,List.length_append,gl,wl];omega
 ·rw[eg]
  unfold putR
  have pl:(P++gap (m.t-k)).length=m.t:=by rw[List.length_append,gl];omega
  rw[List.take_append_of_le_length (by omega),List.take_of_length_le (by omega),wl,List.drop_append,List.drop_eq_nil_of_le (by omega),pl,List.nil_append,List.drop_drop]
  rw[show m.t+(m.t+m.n-m.t)=m.t+m.n by omega]
  simp[List.append_assoc]
 ·rw[←p3]
  conv=>rhs;unfold layM
  simp[List.append_assoc]
theorem CI.done {H:Hp} {F T:Nat} {u:List Int} {k:Nat} {xs:List Int} {ds:List Mv} (h:CI H F T u u.length k xs ds) (hT:T=H.row.length):gapR xs k T=cmpR H F T u∧ds=mvL H F u:=by
 obtain⟨⟨P,p1,p2,p3⟩,d,o⟩:=h
 rw[List.drop_length]at p3 d o
 have em:mvL H k []=[]:=rfl
 have el:layM H T k []=gap (T-k):=rfl
 rw[em]at p3 d o
 rw[List.append_nil]at d
 rw[el]at p3
 have o1:=o.1
 have o2:=o.2
 refine⟨?_,d⟩
 rw[←p3]
 unfold gapR
 split
 ·rw[p2,←p1,free_app (by omega) (by rw[List.length_drop];omega),List.drop_drop,List.drop_eq_nil_of_le (by omega),List.append_nil]
 ·rw[p2,show T-k=0 by omega,List.drop_eq_nil_of_le (by omega)]
  simp[gap]
theorem list_ext {xs ys:List Int} (hl:xs.length=ys.length) (h:∀i,i<xs.length→xs.getD i 0=ys.getD i 0):xs=ys:=by
 refine List.ext_getElem hl (fun i h1 h2 => ?_)
 have:=h i h1
 rwa [List.getD_eq_getElem?_getD,List.getElem?_eq_getElem h1,List.getD_eq_getElem?_getD,List.getElem?_eq_getElem h2]at this
def altA (F q:Nat):Int:=if (q-F) % 2=0 then 384 else 2
structure PuI (H:Hp) (F:Nat) (S:Mv→Prop) (xs:List Int):Prop where
 len:xs.length=H.row.length
 low:∀q,q<F→xs.getD q 0=H.row.getD q 0
 got:∀m,S m→∀i,i<m.n→xs.getD (m.t+i) 0=H.row.getD (m.f+i) 0
 alt:∀q,F≤q→q<H.row.length→(∀m,S m→q<m.t∨m.t+m.n≤q)→xs.getD q 0=altA F q
theorem wd_get {H:Hp} {m:Mv} {i:Nat} (hi:i<m.n):(wdM H m).getD i 0=H.row.getD (m.f+i) 0:=by
 unfold wdM
 rw[List.getD_eq_getElem?_getD,List.getElem?_take,if_pos hi,List.getElem?_drop,←List.getD_eq_getElem?_getD]
theorem PuI.more {H:Hp} {F:Nat} {S:Mv→Prop} {xs:List Int} (h:PuI H F S xs) {m:Mv} (hF:F≤m.t) (hl:m.t+m.n≤H.row.length) (hf:m.f+m.n≤H.row.length) (hd:∀m',S m'→m'.t+m'.n≤m.t∨m.t+m.n≤m'.t):PuI H F (fun x=>S x∨x=m) (putR xs m.t (wdM H m)):=by
 have wl:=wd_len (H:=H) (m:=m) hf
 have hk:m.t+(wdM H m).length≤xs.length:=by rw[wl,h.len];exact hl
 refine⟨(putR_len hk).trans h.len,fun q hq => ?_,fun m' hm' i hi => ?_,fun q h1 h2 h3 => ?_⟩
 ·rw[putR_get hk,if_neg (by omega),h.low q hq]
 ·rcases hm' with hm'|rfl
  ·rw[putR_get hk,wl]
   have:=hd m' hm'
   rw[if_neg (by omega)]
   exact h.got m' hm' i hi
  ·rw[putR_get hk,wl,if_pos (by omega),show m'.t+i-m'.t=i by omega,wd_get hi]
 ·rw[putR_get hk,wl]
  have:=h3 m (.inr rfl)
  rw[if_neg (by omega)]
  exact h.alt q h1 h2 (fun m' hm'=>h3 m' (.inl hm'))
theorem PuI.congr {H:Hp} {F:Nat} {S S':Mv→Prop} {xs:List Int} (h:PuI H F S xs) (he:∀m,S m↔S' m):PuI H F S' xs:=
 ⟨h.len,h.low,fun m hm=>h.got m ((he m).2 hm),fun q h1 h2 h3=>h.alt q h1 h2 (fun m hm=>h3 m ((he m).1 hm))⟩
theorem ord_apart {H:Hp} {T:Nat}:∀ {ms:List Mv} {k:Nat},OrdM H T k ms→(∀m ∈ ms,k≤m.t∧m.t+m.n≤T∧m.t≤m.f∧m.f+m.n≤T∧2≤m.n∧m.n % 2=0∧(m.n:Int)=chunk H.row m.f∧uF (H.row.getD m.f 0)≠6)∧ms.Pairwise (fun a b=>a.t+a.n≤b.t)
 | [],k,h=>⟨fun m hm=>(by cases hm),List.Pairwise.nil⟩
 |m :: ms,k,h=>by
  have ih:=ord_apart h.2
  have hl:=ord_le h.2
  have o:=h.1
  refine⟨fun m' hm' => ?_,List.Pairwise.cons (fun b hb=>(ih.1 b hb).1) ih.2⟩
  rcases List.mem_cons.1 hm' with rfl|hm'
  ·exact⟨o.1,by omega,o.2.2.1,o.2.2.2.1,o.2.2.2.2.1,o.2.2.2.2.2.1,o.2.2.2.2.2.2.1,o.2.2.2.2.2.2.2⟩
  ·have:=ih.1 m' hm'
   exact⟨by omega,this.2⟩
theorem apart_pair {ms:List Mv} (h:ms.Pairwise (fun a b=>a.t+a.n≤b.t)) {a b:Mv} (ha:a ∈ ms) (hb:b ∈ ms) (hne:a≠b):a.t+a.n≤b.t∨b.t+b.n≤a.t:=by
 induction ms with
 |nil=>cases ha
 |cons m ms ih=>
  obtain⟨h1,h2⟩:=List.pairwise_cons.1 h
  rcases List.mem_cons.1 ha with ea|ha'
  ·rcases List.mem_cons.1 hb with eb|hb'
   ·exact absurd (ea.trans eb.symm) hne
   ·rw[ea];exact .inl (h1 b hb')
  ·rcases List.mem_cons.1 hb with eb|hb'
   ·rw[eb];exact .inr (h1 a ha')
   ·exact ih h2 ha' hb'
def AltAt (xs:List Int) (k n:Nat):Prop:=∀i,i<n→xs.getD (k+i) 0=if i % 2=0 then 384 else 2
def FitM (H:Hp) (T:Nat) (xs:List Int):Nat→List Mv→Prop
 |k,[]=>AltAt xs k (T-k)
 |k,m :: ms=>AltAt xs k (m.t-k)∧(∀i,i<m.n→xs.getD (m.t+i) 0=H.row.getD (m.f+i) 0)∧FitM H T xs (m.t+m.n) ms
theorem fit_of {H:Hp} {F T:Nat} (hT:T=H.row.length) {mvs:List Mv} {xs:List Int} (hI:PuI H F (fun m=>m ∈ mvs) xs):∀(ms:List Mv) (k:Nat),OrdM H T k ms→F≤k→(k-F) % 2=0→(∀m ∈ ms,m ∈ mvs)→(∀m ∈ mvs,m ∈ ms∨m.t+m.n≤k)→FitM H T xs k ms:=by
 intro ms
 induction ms with
 |nil=>
  intro k ho hF he _ hr i hi
  have:=ord_le ho
  rw[hI.alt (k+i) (by omega) (by omega) (fun m hm=>by
   rcases hr m hm with h|h
   ·cases h
   ·exact .inr (by omega))]
  unfold altA
  rw[show (k+i-F) % 2=i % 2 by omega]
 |cons m ms ih=>
  intro k ho hF he hs hr
  have o:=ho.1
  have ap:=ord_apart ho.2
  have hl:=ord_le ho.2
  refine⟨fun i hi => ?_,fun i hi=>hI.got m (hs m (by simp)) i hi,ih _ ho.2 (by omega) (by omega) (fun x hx=>hs x (by simp[hx])) (fun x hx => ?_)⟩
  ·rw[hI.alt (k+i) (by omega) (by omega) (fun x hx=>by
     rcases hr x hx with h|h
     ·rcases List.mem_cons.1 h with rfl|h
      ·exact .inl (by omega)
      ·have:=(ap.1 x h).1
       exact .inl (by omega)
     ·exact .inr (by omega))]
   unfold altA
   rw[show (k+i-F) % 2=i % 2 by omega]
  ·rcases hr x hx with h|h
   ·rcases List.mem_cons.1 h with rfl|h
    ·exact .inr (Nat.le_refl _)
    ·exact .inl h
   ·exact .inr (by omega)
theorem chunk_two {xs:List Int} {k:Nat} (h0:xs.getD k 0=384) (h1:xs.getD (k+1) 0=2) (hl:k+2≤xs.length):chunk xs k=2:=by
 unfold chunk
 rw[h0,h1,ok6.1,ok6.2.1,ok6.2.2]
 simp only[Bool.not_false,Bool.and_true,if_true]
 rw[if_pos]
 refine⟨by omega,?_⟩
 simp only[freeOk,decide_eq_true_eq]
 omega
theorem chunk_goes {H:Hp} {xs:List Int} {m:Mv} (hl:xs.length=H.row.length) (hw:∀i,i<m.n→xs.getD (m.t+i) 0=H.row.getD (m.f+i) 0) (h2:2≤m.n) (ht:m.t≤m.f) (hc:(m.n:Int)=chunk H.row m.f) (h6:uF (H.row.getD m.f 0)≠6):chunk xs m.t=m.n∧uF (xs.getD m.t 0)≠6:=by
 have e0:xs.getD m.t 0=H.row.getD m.f 0:=by have:=hw 0 (by omega);simpa using this
 have e1:xs.getD (m.t+1) 0=H.row.getD (m.f+1) 0:=hw 1 (by omega)
 refine⟨?_,by rw[e0];exact h6⟩
 rw[hc]
 have hne:chunk H.row m.f≠0:=by omega
 unfold chunk at hne ⊢
 rw[e0,e1,hl]
 by_cases q1:(ok (H.row.getD m.f 0) && !uM (H.row.getD m.f 0))=true
 ·rw[if_pos q1,if_neg h6]at hne ⊢
  rw[if_pos q1,if_neg h6]
  by_cases q2:(m.f:Int)+sz (uS (H.row.getD m.f 0))≤H.row.length∧(uF (H.row.getD m.f 0)=7→isA (H.row.getD (m.f+1) 0)=true)
  ·rw[if_pos q2,if_pos ⟨by have:=q2.1;omega,q2.2⟩]
  ·rw[if_neg q2]at hne;exact absurd rfl hne
 ·rw[if_neg q1]at hne;exact absurd rfl hne
def altP (k:Nat):Nat→List Nat
 |0=>[]
 |n+1=>k :: altP (k+2) n
theorem chain_alt {xs:List Int} {T:Nat} (hT:T=xs.length):∀(n k:Nat) (qs:List Nat),AltAt xs k (2*n)→k+2*n≤T→Chain xs T (k+2*n) qs→Chain xs T k (altP k n++qs)
 |0,k,qs,_,_,h=>h
 |n+1,k,qs,ha,hl,h=>by
  have c:=chunk_two (xs:=xs) (k:=k) (by have:=ha 0 (by omega);simpa using this) (by have:=ha 1 (by omega);simpa using this) (by omega)
  refine⟨rfl,by omega,by rw[c];decide,by rw[c];show k+2≤T;omega,?_⟩
  rw[c]
  refine chain_alt hT n (k+2) qs (fun i hi => ?_) (by omega) (by rw[show k+2+2*n=k+2*(n+1) by omega];exact h)
  have:=ha (2+i) (by omega)
  rw[show k+(2+i)=k+2+i by omega,show (2+i) % 2=i % 2 by omega]at this
  exact this
def plA (T:Nat):Nat→List Mv→List Nat
 |k,[]=>altP k ((T-k) / 2)
 |k,m :: ms=>altP k ((m.t-k) / 2)++m.t :: plA T (m.t+m.n) ms
theorem chain_fit {H:Hp} {T:Nat} {xs:List Int} (hl:xs.length=H.row.length) (hT:T=H.row.length):∀(ms:List Mv) (k:Nat),OrdM H T k ms→FitM H T xs k ms→Chain xs T k (plA T k ms)
 | [],k,ho,hf=>by
   have h1:=ho.1
   have h2:=ho.2
   have:=chain_alt (xs:=xs) (T:=T) (by omega) ((T-k) / 2) k [] (fun i hi=>hf i (by omega)) (by omega) (show k+2*((T-k) / 2)=T by omega)
   rwa [List.append_nil]at this
 |m :: ms,k,ho,hf=>by
  have o:=ho.1
  obtain⟨f1,f2,f3⟩:=hf
  have hle:=ord_le ho.2
  obtain⟨c,_⟩:=chunk_goes hl f2 o.2.2.2.2.1 o.2.2.1 o.2.2.2.2.2.2.1 o.2.2.2.2.2.2.2
  refine chain_alt (xs:=xs) (T:=T) (by omega) ((m.t-k) / 2) k _ (fun i hi=>f1 i (by omega)) (by omega) ?_
  rw[show k+2*((m.t-k) / 2)=m.t by omega]
  refine⟨rfl,by omega,by rw[c];omega,by rw[c,Int.toNat_natCast];exact hle,?_⟩
  rw[c,Int.toNat_natCast]
  exact chain_fit hl hT ms _ ho.2 f3
theorem free_self {r:List Int} {k:Nat} (h0:r.getD k 0=384) (h1:r.getD (k+1) 0=2) (hl:k+2≤r.length):freeR r k 2=r:=by
 refine list_ext (freeR_length hl (by omega)) (fun i hi => ?_)
 rw[freeR_getD hl (by omega)]
 split
 ·rename_i e;rw[e,h0]
 ·split
  ·rename_i e;rw[e,h1];rfl
  ·rw[if_neg (by omega)]
theorem st_gap {xs G r:List Int} {T k:Nat} (hT:T=xs.length) (h:St2 xs T G r k):∀n,AltAt xs k (2*(n+1))→k+2*(n+1)≤T→St1 xs T G (freeR r k (2*(n+1))) k (2*(n+1))
 |0,ha,hl=>by
  have a0:xs.getD k 0=384:=by have:=ha 0 (by omega);simpa using this
  have a1:xs.getD (k+1) 0=2:=by have:=ha 1 (by omega);simpa using this
  have c:=chunk_two a0 a1 (by omega)
  obtain⟨ps,cur,acc,hc,ht,hr,hs,hcur,hG⟩:=h
  have sl:=hs.1
  have e:freeR r k 2=r:=free_self (by rw[hs.2 k (Nat.le_refl _),a0]) (by rw[hs.2 (k+1) (by omega),a1]) (by omega)
  show St1 xs T G (freeR r k 2) k 2
  rw[e]
  have:=st_free (xs:=xs) (G:=G) (r:=r) (t:=T) (k:=k) ⟨ps,cur,acc,hc,ht,hr,hs,hcur,hG⟩ (by omega) (by rw[a0];exact ok6.2.1)
  rw[c]at this
  exact this
 |n+1,ha,hl=>by
  have ih:=st_gap hT h n (fun i hi=>ha i (by omega)) (by omega)
  have sl:r.length=xs.length:=by
   obtain⟨ps,cur,acc,hc,ht,hr,hs,hcur,hG⟩:=h
   exact hs.1
  have a0:xs.getD (k+2*(n+1)) 0=384:=by
   have:=ha (2*(n+1)) (by omega)
   rwa [if_pos (by omega)]at this
  have a1:xs.getD (k+2*(n+1)+1) 0=2:=by
   have:=ha (2*(n+1)+1) (by omega)
   rwa [if_neg (by omega)]at this
  have c:=chunk_two a0 a1 (by omega)
  obtain⟨_,_,j3⟩:=st1_join ih (by omega) (by rw[a0];exact ok6.2.1)
  rw[c,freeR_twice (by rw[sl];show k+(2*(n+1)+2)≤_;omega) (by omega) (by show 2*(n+1)≤2*(n+1)+2;omega)]at j3
  rw[show 2*(n+1+1)=2*(n+1)+(2:Int).toNat from rfl]
  exact j3
theorem gap_done {xs G r:List Int} {T k n:Nat} (hT:T=xs.length) (h:St2 xs T G r k) (ha:AltAt xs k n) (he:n % 2=0) (hl:k+n≤T) (hn:k+n<T→n≠0→uF (xs.getD (k+n) 0)≠6):St2 xs T G (gapR r k (k+n)) (k+n):=by
 unfold gapR
 by_cases h0:n=0
 ·subst h0
  rw[if_neg (by omega)]
  exact h
 ·rw[if_pos (by omega),show k+n-k=n by omega]
  obtain⟨m,rfl⟩:∃m,n=2*(m+1):=⟨n / 2-1,by omega⟩
  exact st1_done (st_gap hT h m ha hl) (fun hh=>hn hh.1 h0 hh.2)
theorem coal_lay {H:Hp} {xs G:List Int} {T:Nat} (hl:xs.length=H.row.length) (hT:T=H.row.length):∀(ms:List Mv) (k:Nat) (r:List Int),OrdM H T k ms→FitM H T xs k ms→St2 xs T G r k→G=r.take k++layM H T k ms
 | [],k,r,ho,hf,h=>by
   have o1:=ho.1
   have o2:=ho.2
   have sl:r.length=xs.length:=by
    obtain⟨ps,cur,acc,hc,ht,hr,hs,hcur,hG⟩:=h
    exact hs.1
   have g:=gap_done (by omega) h hf o2 (by omega) (fun e=>by omega)
   rw[show k+(T-k)=T by omega]at g
   have e:=st_end g (by omega)
   rw[←e]
   unfold layM gapR
   split
   ·conv=>lhs;rw[←List.take_append_drop k r]
    have pl:(r.take k).length=k:=by rw[List.length_take];omega
    have:=free_app (P:=r.take k) (D:=r.drop k) (n:=T-k) (by omega) (by rw[List.length_drop];omega)
    rw[pl]at this
    rw[this,List.drop_drop,List.drop_eq_nil_of_le (by omega),List.append_nil]
   ·rw[show T-k=0 by omega,List.take_of_length_le (by omega)]
    simp[gap]
 |m :: ms,k,r,ho,hf,h=>by
  have o:=ho.1
  obtain⟨f1,f2,f3⟩:=hf
  have hle:=ord_le ho.2
  have sl:r.length=xs.length:=by
   obtain⟨ps,cur,acc,hc,ht,hr,hs,hcur,hG⟩:=h
   exact hs.1
  obtain⟨c,h6⟩:=chunk_goes hl f2 o.2.2.2.2.1 o.2.2.1 o.2.2.2.2.2.2.1 o.2.2.2.2.2.2.2
  have g:=gap_done (n:=m.t-k) (by omega) h f1 o.2.1 (by omega) (fun e _=>by rw[show k+(m.t-k)=m.t by omega];exact h6)
  rw[show k+(m.t-k)=m.t by omega]at g
  have p:=st_pass g (by omega) h6
  rw[c,Int.toNat_natCast]at p
  have ih:=coal_lay hl hT ms _ _ ho.2 f3 p
  rw[ih]
  have gsame:Same xs (gapR r k m.t) m.t:=by
   obtain⟨ps,cur,acc,hc,ht,hr,hs,hcur,hG⟩:=g
   exact hs
  have eg:gapR r k m.t=(r.take k++gap (m.t-k))++r.drop m.t:=by
   unfold gapR
   split
   ·conv=>lhs;rw[←List.take_append_drop k r]
    have pl:(r.take k).length=k:=by rw[List.length_take];omega
    have:=free_app (P:=r.take k) (D:=r.drop k) (n:=m.t-k) (by omega) (by rw[List.length_drop];omega)
    rw[pl]at this
    rw[this,List.drop_drop,List.append_assoc]
    congr 3
    omega
   ·rw[show m.t-k=0 by omega,show m.t=k by omega]
    simp[gap]
  have pl:(r.take k++gap (m.t-k)).length=m.t:=by rw[List.length_append,gap_len (by omega),List.length_take];omega
  have wl:=wd_len (H:=H) (m:=m) (by omega)
  have ed:(gapR r k m.t).take (m.t+m.n)=(r.take k++gap (m.t-k))++wdM H m:=by
   rw[eg,List.take_append,List.take_of_length_le (by omega),pl,show m.t+m.n-m.t=m.n by omega]
   congr 1
   refine list_ext (by rw[List.length_take,List.length_drop,wl];omega) (fun i hi => ?_)
   have hi':i<m.n:=by rw[List.length_take]at hi;omega
   rw[wd_get hi',←f2 i hi',←gsame.2 (m.t+i) (by omega),List.getD_eq_getElem?_getD,List.getElem?_take,if_pos hi',List.getElem?_drop,List.getD_eq_getElem?_getD,eg,List.getElem?_append_right (by omega),pl,show m.t+i-m.t=i by omega,List.getElem?_drop]
  rw[ed]
  conv=>rhs;unfold layM
  simp[List.append_assoc]
theorem cmp_coal {H:Hp} {F T:Nat} {u xs:List Int} (hT:T=H.row.length) (ho:OrdM H T F (mvL H F u)) (hI:PuI H F (fun m=>m ∈ mvL H F u) xs):coal xs (F:Int) (T:Int)=cmpR H F T u∨rowOk xs=false:=by
 have hF:=ord_le ho
 have ft:=fit_of hT hI (mvL H F u) F ho (Nat.le_refl _) (by omega) (fun m hm=>hm) (fun m hm => .inl hm)
 have ch:=chain_fit hI.len hT _ _ ho ft
 cases hr:rowOk xs
 ·exact .inr rfl
 ·left
  have ro:rangeOk xs (F:Int) (T:Int)=true:=by
   unfold rangeOk
   rw[hr,hI.len]
   simp
   omega
  have wk:walkR xs (F:Int) (T:Int)=some ((plA T F (mvL H F u)).map (fun q:Nat=>(q:Int))):=by
   unfold walkR
   rw[if_pos ro,Int.toNat_natCast,Int.toNat_natCast]
   exact walk_chain _ _ _ (Nat.le_refl _) ch
  unfold coal walkOk walked
  rw[wk]
  simp only[Option.isSome_some,if_true,Option.getD_some,List.map_map]
  have e:List.map (Int.toNat ∘ fun q:Nat=>(q:Int)) (plA T F (mvL H F u))=plA T F (mvL H F u):=by
   conv=>rhs;rw[←List.map_id (plA T F (mvL H F u))]
   refine List.map_congr_left (fun q _ => ?_)
   simp
  rw[e]
  have g:=coal_lay hI.len hT (mvL H F u) F xs ho ft (st_start ch (by rw[hI.len];omega))
  rw[g]
  unfold cmpR
  congr 1
  refine list_ext (by rw[List.length_take,List.length_take,hI.len]) (fun i hi => ?_)
  have hi':i<F:=by rw[List.length_take]at hi;omega
  rw[List.getD_eq_getElem?_getD,List.getElem?_take,if_pos hi',List.getD_eq_getElem?_getD,List.getElem?_take,if_pos hi',←List.getD_eq_getElem?_getD,←List.getD_eq_getElem?_getD]
  exact hI.low i hi'
def plM (T:Nat):Nat→List Mv→List Nat
 |k,[]=>if k<T then [k] else []
 |k,m :: ms=>(if k<m.t then [k] else [])++m.t :: plM T (m.t+m.n) ms
theorem chunk_gap {xs:List Int} {k n:Nat} (h0:xs.getD k 0=384) (h1:xs.getD (k+1) 0=n) (h2:2≤n) (he:n % 2=0) (hl:k+n≤xs.length):chunk xs k=n:=by
 unfold chunk
 rw[h0,h1,ok6.1,ok6.2.1,ok6.2.2]
 simp only[Bool.not_false,Bool.and_true,if_true]
 rw[if_pos]
 refine⟨by omega,?_⟩
 simp only[freeOk,decide_eq_true_eq]
 omega
theorem drop_get {xs L:List Int} {k i:Nat} (h:xs.drop k=L):xs.getD (k+i) 0=L.getD i 0:=by
 rw[←h,List.getD_eq_getElem?_getD,List.getD_eq_getElem?_getD,List.getElem?_drop]
theorem gap_at {xs L:List Int} {k n:Nat} (h:xs.drop k=gap n++L) (h2:2≤n):xs.getD k 0=384∧xs.getD (k+1) 0=n∧xs.drop (k+n)=L:=by
 have g:gap n=384 :: (n:Int) :: List.replicate (n-2) 0:=by unfold gap;rw[if_neg (by omega)]
 have e0:=drop_get (i:=0) h
 have e1:=drop_get (i:=1) h
 rw[g]at e0 e1
 refine⟨by simpa using e0,by simpa using e1,?_⟩
 rw[←List.drop_drop,h,List.drop_append,gap_len (by omega),List.drop_eq_nil_of_le (by rw[gap_len (by omega)];omega)]
 simp
theorem lay_parts {H:Hp} {T k:Nat} {xs:List Int} {m:Mv} {ms:List Mv} (hl:xs.length=H.row.length) (hT:T=H.row.length) (ho:OrdM H T k (m :: ms)) (h:xs.drop k=layM H T k (m :: ms)) :
    (k<m.t→xs.getD k 0=384∧xs.getD (k+1) 0=(m.t-k:Nat))∧(∀i,i<m.n→xs.getD (m.t+i) 0=H.row.getD (m.f+i) 0)∧xs.drop (m.t+m.n)=layM H T (m.t+m.n) ms:=by
 have o:=ho.1
 have hle:=ord_le ho.2
 have wl:=wd_len (H:=H) (m:=m) (by omega)
 unfold layM at h
 have key:xs.drop m.t=wdM H m++layM H T (m.t+m.n) ms:=by
  by_cases hk:k<m.t
  ·have:=(gap_at h (by omega)).2.2
   rwa [show k+(m.t-k)=m.t by omega]at this
  ·rw[show m.t-k=0 by omega]at h
   rw[show m.t=k by omega]
   simpa [gap,show m.t=k by omega] using h
 refine⟨fun hk=>⟨(gap_at h (by omega)).1,(gap_at h (by omega)).2.1⟩,fun i hi => ?_,?_⟩
 ·rw[drop_get key,List.getD_eq_getElem?_getD,List.getElem?_append_left (by omega),←List.getD_eq_getElem?_getD,wd_get hi]
 ·rw[←List.drop_drop,key,List.drop_append,wl,List.drop_eq_nil_of_le (by omega)]
  simp
theorem chain_lay {H:Hp} {T:Nat} {xs:List Int} (hl:xs.length=H.row.length) (hT:T=H.row.length):∀(ms:List Mv) (k:Nat),OrdM H T k ms→xs.drop k=layM H T k ms→Chain xs T k (plM T k ms)
 | [],k,ho,h=>by
   have o1:=ho.1
   have o2:=ho.2
   unfold plM
   split
   ·unfold layM at h
    obtain⟨g0,g1,_⟩:=gap_at (L:=[]) (by rw[List.append_nil];exact h) (by omega)
    have c:=chunk_gap g0 g1 (by omega) o2 (by omega)
    refine⟨rfl,by omega,by rw[c];omega,by rw[c];omega,?_⟩
    show k+(chunk xs k).toNat=T
    rw[c]
    omega
   ·show k=T
    omega
 |m :: ms,k,ho,h=>by
  have o:=ho.1
  have hle:=ord_le ho.2
  obtain⟨p1,p2,p3⟩:=lay_parts hl hT ho h
  obtain⟨c,_⟩:=chunk_goes hl p2 o.2.2.2.2.1 o.2.2.1 o.2.2.2.2.2.2.1 o.2.2.2.2.2.2.2
  have ih:=chain_lay hl hT ms _ ho.2 p3
  have tl:Chain xs T m.t (m.t :: plM T (m.t+m.n) ms):=by
   refine⟨rfl,by omega,by rw[c];omega,by rw[c];omega,?_⟩
   rw[c,Int.toNat_natCast]
   exact ih
  unfold plM
  split
  ·rename_i hk
   have g:=chunk_gap (p1 hk).1 (p1 hk).2 (by omega) o.2.1 (by omega)
   refine⟨rfl,by omega,by rw[g];omega,by rw[g];omega,?_⟩
   rw[g,Int.toNat_natCast,show k+(m.t-k)=m.t by omega]
   exact tl
  ·rw[List.nil_append,show k=m.t by omega]
   exact tl
theorem lay_got {H:Hp} {T:Nat} {xs:List Int} (hl:xs.length=H.row.length) (hT:T=H.row.length):∀(ms:List Mv) (k:Nat),OrdM H T k ms→xs.drop k=layM H T k ms→∀m ∈ ms,∀i,i<m.n→xs.getD (m.t+i) 0=H.row.getD (m.f+i) 0
 | [],k,ho,h=>fun m hm=>by cases hm
 |m :: ms,k,ho,h=>fun m' hm'=>by
  obtain⟨p1,p2,p3⟩:=lay_parts hl hT ho h
  rcases List.mem_cons.1 hm' with rfl|hm'
  ·exact p2
  ·exact lay_got hl hT ms _ ho.2 p3 m' hm'
theorem plM_mem {H:Hp} {T:Nat} {xs:List Int} (hl:xs.length=H.row.length) (hT:T=H.row.length):∀(ms:List Mv) (k:Nat),OrdM H T k ms→xs.drop k=layM H T k ms→∀q ∈ plM T k ms,(uF (xs.getD q 0)=6∧∀m ∈ ms,m.t≠q)∨∃m ∈ ms,m.t=q
 | [],k,ho,h=>fun q hq=>by
   have o2:=ho.2
   unfold plM at hq
   split at hq
   ·unfold layM at h
    obtain⟨g0,_,_⟩:=gap_at (L:=[]) (by rw[List.append_nil];exact h) (by omega)
    have e:q=k:=by simpa using hq
    exact .inl ⟨by rw[e,g0];exact ok6.2.1,fun m hm=>by cases hm⟩
   ·cases hq
 |m :: ms,k,ho,h=>fun q hq=>by
  have o:=ho.1
  obtain⟨p1,p2,p3⟩:=lay_parts hl hT ho h
  have ap:=ord_apart ho.2
  unfold plM at hq
  rcases List.mem_append.1 hq with hq|hq
  ·split at hq
   ·rename_i hk
    have e:q=k:=by simpa using hq
    refine .inl ⟨by rw[e,(p1 hk).1];exact ok6.2.1,fun x hx => ?_⟩
    rcases List.mem_cons.1 hx with rfl|hx
    ·omega
    ·have:=(ap.1 x hx).1
     omega
   ·cases hq
  ·rcases List.mem_cons.1 hq with rfl|hq
   ·exact .inr ⟨m,by simp,rfl⟩
   ·rcases plM_mem hl hT ms _ ho.2 p3 q hq with hh|⟨x,hx,e⟩
    ·refine .inl ⟨hh.1,fun x hx => ?_⟩
     rcases List.mem_cons.1 hx with rfl|hx
     ·intro e
      have hc:=chain_lay hl hT ms _ ho.2 p3
      have:∀(qs:List Nat) (j:Nat),Chain xs T j qs→∀y ∈ qs,j≤y:=by
       intro qs
       induction qs with
       |nil=>intro j _ y hy;cases hy
       |cons a qs ih=>
        intro j hj y hy
        obtain⟨e1,_,_,_,e5⟩:=hj
        rcases List.mem_cons.1 hy with rfl|hy
        ·omega
        ·have:=ih _ e5 y hy;omega
      have:=this _ _ hc q hq
      omega
     ·exact hh.2 x hx
    ·exact .inr ⟨x,by simp[hx],e⟩
theorem up_places {H H':Hp} {ps:List Int} (h:placesR H=some ps) (e1:H'.half=H.half) (e2:H'.old=H.old) (e3:H'.side=H.side) (e4:H'.top=H.top) (e5:H'.seed=H.seed) (e6:H'.roots.length=H.roots.length) (e7:H'.mourned.length=H.mourned.length) (hl:H'.row.length=H.row.length) (hlow:∀i,i<2*hf H→H'.row.getD i 0=H.row.getD i 0) {qs:List Nat} (hc:Chain H'.row (2*hf H+od H) (2*hf H) qs) :
    ∃r u,ps=r++u∧upW H=some u∧placesR H'=some (r++qs.map (fun q:Nat=>(q:Int)))∧upW H'=some (qs.map (fun q:Nat=>(q:Int)))∧Nums H'∧numB H'=true∧(∀p ∈ r,p+chunk H.row p.toNat≤2*hf H):=by
 have hA:=apart_of h
 obtain⟨N,hz,r,u,hr0,hu0,hall,hps⟩:=places_facts h
 have hbz:hbad H=false:=by
  cases e:hbad H
  ·rfl
  ·unfold placesR at h;rw[if_pos e]at h;cases h
 have hb:hbad H'=hbad H:=by
  unfold hbad hb8 hb7 hb6 hb5 hb4 hb3 hb2 hb1 hb0
  rw[e1,e2,e3,e4,e5,e6,e7,hl]
 have q1:bs H'=bs H:=by unfold bs;rw[e3,e1]
 have q2:tp H'=tp H:=by unfold tp;rw[e4]
 have q3:hf H'=hf H:=by unfold hf;rw[e1]
 have q4:od H'=od H:=by unfold od;rw[e2]
 obtain⟨_,m1⟩:=walkL_apart _ _ _ _ _ hr0
 have room:=N.room
 have w1:roomW H'=some r:=by
  unfold roomW
  rw[q1,q2]
  refine walkO_congr hr0 (fun p hp => ?_)
  have hq:=m1 p hp
  obtain⟨j,rfl,hcj,_⟩:=hA.nat p (by rw[hps];exact List.mem_append.2 (.inl hp))
  rw[Int.toNat_natCast]at hq ⊢
  have hbj:=chunk_bounds H.row j
  exact chunk_congr hl (hlow j (by omega)) (hlow (j+1) (by omega))
 have w2:upW H'=some (qs.map (fun q:Nat=>(q:Int))):=by
  unfold upW
  rw[q3,q4]
  exact walk_chain _ _ _ (Nat.le_refl _) hc
 have hal:r.all (roomOk H')=true:=by
  rw[List.all_eq_true]at hall ⊢
  intro p hp
  have h0:=hall _ hp
  have hq:=m1 p hp
  obtain⟨j,rfl,hcj,hjl⟩:=hA.nat p (by rw[hps];exact List.mem_append.2 (.inl hp))
  have hbj:=chunk_bounds H.row j
  unfold roomOk at h0 ⊢
  rw[Int.toNat_natCast]at h0 hq ⊢
  rw[hlow j (by omega)]
  exact h0
 have hzz:zeroB H'=true:=by
  refine zeroB_true (fun i hi => ?_)
  have hi':i<2*hf H:=by rw[q3]at hi;exact hi
  have hz0:zeroAt H i=true:=by
   unfold zeroB at hz
   rw[List.all_eq_true]at hz
   exact hz i (List.mem_range.2 hi')
  unfold zeroAt at hz0 ⊢
  rw[q1,q2,hlow i hi']
  exact hz0
 refine⟨r,u,hps,hu0,?_,w2,nums_of (hb.trans hbz),((numB_bad _).1 (hb.trans hbz)).1,fun p hp => ?_⟩
 ·unfold placesR
  rw[if_neg (by rw[hb,hbz];decide),placesB_yes hzz w1 w2 hal]
 ·have hq:=m1 p hp
  omega
def dstOf (ms:List Mv) (a:Nat):Int:=match ms.find? (fun m=>m.f==a) with|some m=>(m.t:Int)|none => -1
def nwW (ms:List Mv) (x:Int):Int:=if isA x=true∧0≤dstOf ms (av x).toNat then 4*dstOf ms (av x).toNat+4 else x
def ledP (g:Int→Int) (xs:List Int) (S:Nat→Bool):List Int:=(List.range xs.length).map (fun q=>if S q=true then g (xs.getD q 0) else xs.getD q 0)
theorem ledP_len (g:Int→Int) (xs:List Int) (S:Nat→Bool):(ledP g xs S).length=xs.length:=by simp[ledP]
theorem ledP_get {g:Int→Int} {xs:List Int} {S:Nat→Bool} {q:Nat} (hq:q<xs.length):(ledP g xs S).getD q 0=if S q=true then g (xs.getD q 0) else xs.getD q 0:=by
 unfold ledP
 rw[List.getD_eq_getElem?_getD,List.getElem?_map,List.getElem?_range hq]
 rfl
theorem ledP_none (g:Int→Int) (xs:List Int):ledP g xs (fun _=>false)=xs:=by
 refine list_ext (ledP_len _ _ _) (fun q h1 => ?_)
 rw[ledP_get (by rw[ledP_len]at h1;exact h1),if_neg (by decide)]
theorem ledP_set {g:Int→Int} {xs:List Int} {S:Nat→Bool} {q:Nat} (hq:q<xs.length):(ledP g xs S).set q (g (xs.getD q 0))=ledP g xs (addS S q):=by
 refine list_ext (by rw[List.length_set,ledP_len,ledP_len]) (fun r h1 => ?_)
 rw[List.length_set,ledP_len]at h1
 rw[ledP_get h1,List.getD_eq_getElem?_getD,List.getElem?_set,ledP_len]
 unfold addS
 by_cases e:q=r
 ·subst e
  simp[hq]
 ·rw[if_neg e,←List.getD_eq_getElem?_getD,ledP_get h1]
  have hne:(r==q)=false:=by simp;omega
  rw[hne,Bool.or_false]
theorem ledP_same {g:Int→Int} {xs:List Int} {S:Nat→Bool} {q:Nat} (hg:g (xs.getD q 0)=xs.getD q 0):ledP g xs S=ledP g xs (addS S q):=by
 unfold ledP
 refine List.map_congr_left (fun r hr => ?_)
 unfold addS
 by_cases e:r=q
 ·subst e
  rw[hg]
  simp
 ·have hne:(r==q)=false:=by simpa using e
  rw[hne,Bool.or_false]
theorem ledP_ext {g:Int→Int} {xs:List Int} {S S':Nat→Bool} (h:∀q,q<xs.length→S q=S' q):ledP g xs S=ledP g xs S':=by
 unfold ledP
 refine List.map_congr_left (fun q hq => ?_)
 rw[h q (List.mem_range.1 hq)]
def lwP (H:Hp) (p:Int) (q:Nat):Bool:=decide (p.toNat+1≤q)&&decide (q<p.toNat+1+(slotsOf H p).length)
def covA (H:Hp) (os:List Int) (q:Nat):Bool:=os.any (fun p=>lwP H p q)
theorem covA_take {H:Hp} {os:List Int} {k:Nat} (hk:k<os.length) (q:Nat):covA H (os.take (k+1)) q=(covA H (os.take k) q || lwP H (os.getD k 0) q):=by
 unfold covA
 rw[List.take_add_one,List.any_append,List.getElem?_eq_getElem hk,List.getD_eq_getElem?_getD,List.getElem?_eq_getElem hk]
 simp
theorem addK_lw {H:Hp} {j:Nat} (S:Nat→Bool):addK S j (slotsOf H (j:Int)).length=fun q=>S q || lwP H (j:Int) q:=by
 funext q
 unfold addK lwP
 rw[Int.toNat_natCast]
theorem covA_head {H:Hp} {ps os:List Int} (hA:Apart H ps) (ho:∀p ∈ os,p ∈ objL H ps) {j:Nat} (hj:(j:Int) ∈ ps):covA H os j=false:=by
 unfold covA
 rw[List.any_eq_false]
 intro p hp hc
 obtain⟨hpp,h6⟩:=objL_mem (ho p hp)
 obtain⟨i,rfl,hci,_⟩:=hA.nat p hpp
 rw[Int.toNat_natCast]at h6
 simp only[lwP,Bool.and_eq_true,decide_eq_true_eq,Int.toNat_natCast]at hc
 have e:=slots_end hci h6
 have:=hA.two hpp hj (by omega)
 omega
theorem covA_second {H:Hp} {ps os:List Int} (hA:Apart H ps) (ho:∀p ∈ os,p ∈ objL H ps) {j:Nat} (hj:(j:Int) ∈ ps) (h:uF (H.row.getD j 0)=6):covA H os (j+1)=false:=by
 unfold covA
 rw[List.any_eq_false]
 intro p hp hc
 obtain⟨hpp,h6⟩:=objL_mem (ho p hp)
 obtain⟨i,rfl,hci,_⟩:=hA.nat p hpp
 rw[Int.toNat_natCast]at h6
 simp only[lwP,Bool.and_eq_true,decide_eq_true_eq,Int.toNat_natCast]at hc
 have e:=slots_end hci h6
 rcases Nat.lt_trichotomy i j with q|q|q
 ·have:=hA.two hpp hj q
  omega
 ·subst q
  exact h6 h
 ·omega
theorem covA_later {H:Hp} {ps os:List Int} (hA:Apart H ps) (ho:∀p ∈ os,p ∈ objL H ps) (hr:Rising os) {k:Nat} (hk:k<os.length) {q:Nat} (hq:(os.getD k 0).toNat≤q):covA H (os.take k) q=false:=by
 unfold covA
 rw[List.any_eq_false]
 intro p hp hc
 have hap:=apart_rising hA (fun x hx=>(objL_mem (ho x hx)).1) hr hk p hp
 obtain⟨hpp,h6⟩:=objL_mem (ho p (List.mem_of_mem_take hp))
 obtain⟨i,rfl,hci,_⟩:=hA.nat p hpp
 rw[Int.toNat_natCast]at h6 hap
 simp only[lwP,Bool.and_eq_true,decide_eq_true_eq,Int.toNat_natCast]at hc
 have e:=slots_end hci h6
 omega
theorem led_chunk {H H':Hp} {ps os:List Int} {g:Int→Int} (hA:Apart H ps) (ho:∀p ∈ os,p ∈ objL H ps) {S:Nat→Bool} (hS:∀q,S q=true→covA H os q=true) (hrow:H'.row=ledP g H.row S) (hg:∀x,isA x=true→isA (g x)=true) {j:Nat} (hj:(j:Int) ∈ ps):chunk H'.row j=chunk H.row j∧H'.row.getD j 0=H.row.getD j 0:=by
 obtain⟨j',e',hc,hjl⟩:=hA.nat _ hj
 have e':j=j':=by omega
 subst e'
 have hb:=chunk_bounds H.row j
 have hl:H'.row.length=H.row.length:=by rw[hrow,ledP_len]
 have h0:H'.row.getD j 0=H.row.getD j 0:=by
  rw[hrow,ledP_get hjl,if_neg]
  intro e
  have:=hS _ e
  rw[covA_head hA ho hj]at this
  cases this
 refine⟨?_,h0⟩
 have h1:H'.row.getD (j+1) 0=H.row.getD (j+1) 0∨(uF (H.row.getD j 0)≠6∧H'.row.getD (j+1) 0=g (H.row.getD (j+1) 0)):=by
  have hj1:j+1<H.row.length:=by omega
  rw[hrow,ledP_get hj1]
  cases e:S (j+1)
  ·rw[if_neg (by decide)];exact .inl rfl
  ·rw[if_pos rfl]
   refine .inr ⟨fun h6 => ?_,rfl⟩
   have:=hS _ e
   rw[covA_second hA ho hj h6]at this
   cases this
 rcases h1 with h1|⟨h6,h1⟩
 ·exact chunk_congr hl h0 h1
 ·unfold chunk at hc ⊢
  rw[h0,hl,h1]
  by_cases q1:(ok (H.row.getD j 0) && !uM (H.row.getD j 0))=true
  ·rw[if_pos q1,if_neg h6]at hc ⊢
   rw[if_pos q1,if_neg h6]
   by_cases q2:(j:Int)+sz (uS (H.row.getD j 0))≤H.row.length∧(uF (H.row.getD j 0)=7→isA (H.row.getD (j+1) 0)=true)
   ·rw[if_pos q2,if_pos ⟨q2.1,fun e=>hg _ (q2.2 e)⟩]
   ·rw[if_neg q2]at hc;exact absurd rfl hc
  ·rw[if_neg q1]at hc;exact absurd rfl hc
theorem led_places {H H':Hp} {ps os:List Int} {g:Int→Int} (h:placesR H=some ps) (ho:∀p ∈ os,p ∈ objL H ps) {S:Nat→Bool} (hS:∀q,S q=true→covA H os q=true) (hrow:H'.row=ledP g H.row S) (hg:∀x,isA x=true→isA (g x)=true) (e1:H'.half=H.half) (e2:H'.old=H.old) (e3:H'.side=H.side) (e4:H'.top=H.top) (e5:H'.seed=H.seed) (e6:H'.roots.length=H.roots.length) (e7:H'.mourned.length=H.mourned.length) :
    placesR H'=some ps∧upW H'=upW H∧Nums H'∧numB H'=true:=by
 have hA:=apart_of h
 have LC:∀j:Nat,(j:Int) ∈ ps→chunk H'.row j=chunk H.row j∧H'.row.getD j 0=H.row.getD j 0:=fun j hj=>led_chunk hA ho hS hrow hg hj
 have hl:H'.row.length=H.row.length:=by rw[hrow,ledP_len]
 have hb:hbad H'=hbad H:=by
  unfold hbad hb8 hb7 hb6 hb5 hb4 hb3 hb2 hb1 hb0
  rw[e1,e2,e3,e4,e5,e6,e7,hl]
 have hb0:hbad H=false:=by
  cases e:hbad H
  ·rfl
  ·unfold placesR at h;rw[if_pos e]at h;cases h
 obtain⟨N,hz,r,u,hr,hu,hall,hps⟩:=places_facts h
 have q1:bs H'=bs H:=by unfold bs;rw[e3,e1]
 have q2:tp H'=tp H:=by unfold tp;rw[e4]
 have q3:hf H'=hf H:=by unfold hf;rw[e1]
 have q4:od H'=od H:=by unfold od;rw[e2]
 have cg:∀p ∈ ps,chunk H'.row p.toNat=chunk H.row p.toNat:=fun p hp=>by
  obtain⟨j,rfl,_,_⟩:=hA.nat p hp
  rw[Int.toNat_natCast]
  exact (LC j hp).1
 have w1:roomW H'=some r:=by
  unfold roomW
  rw[q1,q2]
  exact walkO_congr hr (fun p hp=>cg p (by rw[hps];exact List.mem_append.2 (.inl hp)))
 have w2:upW H'=some u:=by
  unfold upW
  rw[q3,q4]
  exact walkO_congr hu (fun p hp=>cg p (by rw[hps];exact List.mem_append.2 (.inr hp)))
 have hal:r.all (roomOk H')=true:=by
  rw[List.all_eq_true]at hall ⊢
  intro p hp
  have hpp:p ∈ ps:=by rw[hps];exact List.mem_append.2 (.inl hp)
  obtain⟨j,rfl,_,_⟩:=hA.nat p hpp
  have:=hall _ hp
  unfold roomOk at this ⊢
  rw[Int.toNat_natCast]at this ⊢
  rwa [(LC j hpp).2]
 obtain⟨_,m1⟩:=walkL_apart _ _ _ _ _ hr
 obtain⟨_,m2⟩:=walkL_apart _ _ _ _ _ hu
 have hzz:zeroB H'=true:=by
  refine zeroB_true (fun i hi => ?_)
  have hi':i<2*hf H:=by rw[q3]at hi;exact hi
  have hz0:zeroAt H i=true:=by
   unfold zeroB at hz
   rw[List.all_eq_true]at hz
   exact hz i (List.mem_range.2 hi')
  unfold zeroAt at hz0 ⊢
  rw[q1,q2]
  by_cases hc:i<bs H∨bs H+tp H≤i
  ·have hcv:covA H os i=false:=by
     unfold covA
     rw[List.any_eq_false]
     intro p hp hcp
     obtain⟨hpp,h6⟩:=objL_mem (ho p hp)
     obtain⟨j,rfl,hci,_⟩:=hA.nat p hpp
     rw[Int.toNat_natCast]at h6
     simp only[lwP,Bool.and_eq_true,decide_eq_true_eq,Int.toNat_natCast]at hcp
     have e:=slots_end hci h6
     rw[hps]at hpp
     rcases List.mem_append.1 hpp with hpp|hpp
     ·have:=m1 _ hpp
      rw[Int.toNat_natCast]at this
      omega
     ·have:=m2 _ hpp
      omega
   have hil:i<H.row.length:=by have:=N.len;omega
   have:H'.row.getD i 0=H.row.getD i 0:=by
    rw[hrow,ledP_get hil,if_neg]
    intro e
    have:=hS _ e
    rw[hcv]at this
    cases this
   rw[this]
   exact hz0
  ·simp only[not_or,Nat.not_lt,Nat.not_le]at hc
   have d1:decide (i<bs H)=false:=decide_eq_false (by omega)
   have d2:decide (bs H+tp H≤i)=false:=decide_eq_false (by omega)
   rw[d1,d2];rfl
 refine⟨?_,by rw[w2,hu],nums_of (hb.trans hb0),((numB_bad _).1 (hb.trans hb0)).1⟩
 unfold placesR
 rw[if_neg (by rw[hb,hb0];decide),placesB_yes hzz w1 w2 hal,hps]
theorem flatMap_le {l:List Int} {f:Int→List Int} (h:∀p ∈ l,(f p).length≤20):(l.flatMap f).length≤20*l.length:=by
 induction l with
 |nil=>simp
 |cons p l ih=>
  rw[List.flatMap_cons,List.length_append,List.length_cons]
  have h1:=h p (by simp)
  have h2:=ih (fun q hq=>h q (by simp[hq]))
  omega
theorem strW_len {H:Hp} {ps:List Int} (R:Rt H ps):(strW H ps).length≤100000:=by
 have N:=(places_facts R.some').1
 have h6:=N.roots
 have h40:=N.mourned
 have hp:=(places_plc R.some').2
 have ho:(objL H ps).length≤ps.length:=objL_len _ _
 have hf:((objL H ps).filter (fun p => !(ntH H p))).length≤(objL H ps).length:=List.length_filter_le _ _
 have h2:=flatMap_le (l:=(objL H ps).filter (fun p => !(ntH H p))) (f:=slotsOf H) (fun p _=>by
  unfold slotsOf
  rw[List.length_take]
  have:=uS_bounds (H.row.getD p.toNat 0)
  have:(cnS (H.row.getD p.toNat 0)).toNat≤20:=by
   unfold cnS
   split
   ·decide
   ·split
    ·decide
    ·omega
  omega)
 unfold strW
 rw[List.length_append,List.length_append]
 omega
def upNote (H:Hp) (u:List Int):Bool:=u.any (ntH H)
def cmpG (H:Hp):List Mv:=mvL H (2*hf H) ((upW H).getD [])
def cmpH (H:Hp):Hp:= { H with row:=cmpR H (2*hf H) (2*hf H+od H) ((upW H).getD []) }
def cmpO (H:Hp):List Int:=objL (cmpH H) ((placesR (cmpH H)).getD [])
def cmpC (H:Hp):Hp:= { H with row:=ledP (nwW (cmpG H)) (cmpH H).row (covA (cmpH H) (cmpO H)),roots:=H.roots.map (nwW (cmpG H)),mourned:=H.mourned.map (nwW (cmpG H)) }
def cmpF (H:Hp):Hp:= { cmpC H with seen:=seenL (cmpC H) }
def cmpA (H:Hp) (ps:List Int):Hp:=if (isStr H ps && !(upNote H ((upW H).getD [])))=true then cmpF H else H
def cmpOk (H:Hp):Hp:=if heapOk H=true then cmpA H ((placesR H).getD []) else hp0
theorem dstOf_mem {ms:List Mv} {a:Nat}:dstOf ms a = -1∨∃m ∈ ms,m.f=a∧dstOf ms a=(m.t:Int):=by
 unfold dstOf
 cases e:ms.find? (fun m=>m.f==a) with
 |none=>exact .inl rfl
 |some m=>exact .inr ⟨m,List.mem_of_find?_eq_some e,by have:=List.find?_some e;simpa using this,rfl⟩
theorem nwW_addr {ms:List Mv} (h:∀m ∈ ms,m.t≤999) {x:Int} (hx:isA x=true):isA (nwW ms x)=true:=by
 unfold nwW
 split
 ·rename_i hh
  rcases dstOf_mem (ms:=ms) (a:=(av x).toNat) with e|⟨m,hm,_,e⟩
  ·rw[e]at hh;exact absurd hh.2 (by decide)
  ·rw[e]
   have:=h m hm
   unfold isA
   simp
   omega
 ·exact hx
structure CmP (H:Hp) (ps r u l:List Int):Prop where
 eps:ps=r++u
 up:upW H=some u
 ord:OrdM H H.row.length (2*hf H) (mvL H (2*hf H) u)
 len:H.row.length=2*hf H+od H
 len1:(cmpH H).row.length=H.row.length
 low:∀i,i<2*hf H→(cmpH H).row.getD i 0=H.row.getD i 0
 lay:(cmpH H).row.drop (2*hf H)=layM H H.row.length (2*hf H) (mvL H (2*hf H) u)
 plc:placesR (cmpH H)=some (r++l)
 up1:upW (cmpH H)=some l
 nums1:Nums (cmpH H)
 numB1:numB (cmpH H)=true
 objs:∀p ∈ objL (cmpH H) (r++l),∃p0 ∈ objL H ps,slotsOf (cmpH H) p=slotsOf H p0∧(p=p0∧p ∈ r∨∃m ∈ mvL H (2*hf H) u,p=(m.t:Int)∧p0=(m.f:Int))
theorem slots_same {H H':Hp} {p q:Int} (hc:chunk H.row q.toNat≠0) (h6:uF (H.row.getD q.toNat 0)≠6) (hl:H'.row.length=H.row.length) (hp:p.toNat≤q.toNat) (h:∀i,i<(chunk H.row q.toNat).toNat→H'.row.getD (p.toNat+i) 0=H.row.getD (q.toNat+i) 0):slotsOf H' p=slotsOf H q:=by
 have hb:=chunk_bounds H.row q.toNat
 have hcs:=chunk_slots hc
 have e0:H'.row.getD p.toNat 0=H.row.getD q.toNat 0:=by have:=h 0 (by omega);simpa using this
 have se:=slots_end (H:=H) (j:=q.toNat) hc h6
 have sl:=slots_len (H:=H) (j:=q.toNat) hc
 unfold slotsOf at se sl ⊢
 rw[Int.toNat_natCast]at se sl
 rw[e0]
 refine list_ext ?_ (fun i hi => ?_)
 ·rw[List.length_take,List.length_drop,List.length_take,List.length_drop]
  omega
 ·rw[List.length_take,List.length_drop]at hi
  rw[List.getD_eq_getElem?_getD,List.getElem?_take,if_pos (by omega),List.getElem?_drop,List.getD_eq_getElem?_getD,List.getElem?_take,if_pos (by omega),List.getElem?_drop,←List.getD_eq_getElem?_getD,←List.getD_eq_getElem?_getD]
  have:=h (1+i) (by omega)
  rw[←Nat.add_assoc,←Nat.add_assoc]at this
  exact this
theorem cmp_parts {H:Hp} {ps:List Int} (R:Rt H ps):∃r u l,CmP H ps r u l:=by
 have h:=R.some'
 have hA:=apart_of h
 obtain⟨N,hz,r0,u,hr0,hu0,hall,hps⟩:=places_facts h
 have hlen:=N.len
 have hh1:=N.half1
 have ho1:=N.old1
 have eu:(upW H).getD []=u:=by rw[hu0];rfl
 have C:Chain H.row (2*hf H+od H) (2*hf H) (u.map Int.toNat):=chain_walkL H.row _ _ _ _ (by omega) hu0
 have o:=ord_of (H:=H) (T:=2*hf H+od H) u (2*hf H) (2*hf H) C (Nat.le_refl _) (by omega)
 have erow:(cmpH H).row=H.row.take (2*hf H)++layM H (2*hf H+od H) (2*hf H) (mvL H (2*hf H) u):=by
  show cmpR H _ _ ((upW H).getD [])=_
  rw[eu]
  rfl
 have l1:(cmpH H).row.length=H.row.length:=by
  show (cmpR H _ _ ((upW H).getD [])).length=_
  rw[eu]
  exact cmpR_len hlen.symm o
 have tl:(H.row.take (2*hf H)).length=2*hf H:=by rw[List.length_take];omega
 have ly:(cmpH H).row.drop (2*hf H)=layM H (2*hf H+od H) (2*hf H) (mvL H (2*hf H) u):=by
  rw[erow,List.drop_append,tl,List.drop_eq_nil_of_le (by omega)]
  simp
 have lw:∀i,i<2*hf H→(cmpH H).row.getD i 0=H.row.getD i 0:=fun i hi=>by
  rw[erow,List.getD_eq_getElem?_getD,List.getElem?_append_left (by omega),List.getElem?_take,if_pos hi,←List.getD_eq_getElem?_getD]
 have ch:=chain_lay (H:=H) (xs:=(cmpH H).row) (T:=2*hf H+od H) l1 hlen.symm _ _ o ly
 obtain⟨r,u',e1,e2,e3,e4,e5,e6,e7⟩:=up_places (H:=H) (H':=cmpH H) h rfl rfl rfl rfl rfl rfl rfl l1 lw ch
 have hu':u'=u:=by rw[hu0]at e2;injection e2 with e2;exact e2.symm
 subst hu'
 refine⟨r,u',_,e1,e2,by rw[hlen];exact o,hlen,l1,lw,by rw[hlen];exact ly,e3,e4,e5,e6,fun p hp => ?_⟩
 obtain⟨hpp,h6⟩:=objL_mem hp
 rcases List.mem_append.1 hpp with hpr|hpl
 ·have hq:p ∈ ps:=by rw[e1];exact List.mem_append.2 (.inl hpr)
  obtain⟨j,rfl,hc,hjl⟩:=hA.nat p hq
  have hq7:=e7 _ hpr
  rw[Int.toNat_natCast]at h6 hq7
  have hb:=chunk_bounds H.row j
  rw[lw j (by omega)]at h6
  refine⟨(j:Int),?_,?_,.inl ⟨rfl,hpr⟩⟩
  ·unfold objL
   refine List.mem_filter.2 ⟨hq,?_⟩
   unfold isO
   rw[Int.toNat_natCast]
   simpa using h6
  ·refine slots_same (by rw[Int.toNat_natCast];exact hc) (by rw[Int.toNat_natCast];exact h6) l1 (Nat.le_refl _) (fun i hi => ?_)
   rw[Int.toNat_natCast]at hi ⊢
   exact lw _ (by omega)
 ·obtain⟨q,hq,rfl⟩:=List.mem_map.1 hpl
  rw[Int.toNat_natCast]at h6
  rcases plM_mem (H:=H) (xs:=(cmpH H).row) (T:=2*hf H+od H) l1 hlen.symm _ _ o ly q hq with hh|⟨m,hm,e⟩
  ·exact absurd hh.1 h6
  ·have am:=(ord_apart o).1 m hm
   have gt:=lay_got (H:=H) (xs:=(cmpH H).row) (T:=2*hf H+od H) l1 hlen.symm _ _ o ly m hm
   have hmf:(m.f:Int) ∈ u':=by
    have:∀(us:List Int) (k:Nat),(∀p ∈ us,0≤p)→∀m ∈ mvL H k us,(m.f:Int) ∈ us:=by
     intro us
     induction us with
     |nil=>intro k _ m hm;cases hm
     |cons p us ih=>
      intro k h0 m hm
      unfold mvL at hm
      split at hm
      ·exact List.mem_cons_of_mem _ (ih _ (fun p hp=>h0 p (by simp[hp])) m hm)
      ·rcases List.mem_cons.1 hm with rfl|hm
       ·simp only
        rw[Int.toNat_of_nonneg (h0 p (by simp))]
        simp
       ·exact List.mem_cons_of_mem _ (ih _ (fun p hp=>h0 p (by simp[hp])) m hm)
    exact this u' _ (fun p hp=>by obtain⟨j,rfl,_⟩:=hA.nat p (by rw[e1];exact List.mem_append.2 (.inr hp));omega) m hm
   refine⟨(m.f:Int),?_,?_,.inr ⟨m,hm,by rw[e],rfl⟩⟩
   ·unfold objL
    refine List.mem_filter.2 ⟨by rw[e1];exact List.mem_append.2 (.inr hmf),?_⟩
    unfold isO
    rw[Int.toNat_natCast]
    simpa using am.2.2.2.2.2.2.2
   ·refine slots_same (by rw[Int.toNat_natCast];omega) (by rw[Int.toNat_natCast];exact am.2.2.2.2.2.2.2) l1 (by rw[Int.toNat_natCast,Int.toNat_natCast];omega) (fun i hi => ?_)
    rw[Int.toNat_natCast]at hi
    rw[Int.toNat_natCast,Int.toNat_natCast,←e]
    exact gt i (by omega)
theorem CmP.small {H:Hp} {ps r u l:List Int} (h:CmP H ps r u l) (N:Nums H):∀m ∈ mvL H (2*hf H) u,m.t≤999∧m.f≤999:=fun m hm=>by
 have:=(ord_apart h.ord).1 m hm
 have:=N.len
 have:=N.half1
 have:=N.old1
 omega
theorem CmP.g {H:Hp} {ps r u l:List Int} (h:CmP H ps r u l):cmpG H=mvL H (2*hf H) u∧cmpO H=objL (cmpH H) (r++l):=by
 unfold cmpG cmpO
 rw[h.up,h.plc]
 exact⟨rfl,rfl⟩
theorem CmP.led {H:Hp} {ps r u l:List Int} (h:CmP H ps r u l) (N:Nums H) {S:Nat→Bool} (hS:∀q,S q=true→covA (cmpH H) (objL (cmpH H) (r++l)) q=true) {H':Hp} (hrow:H'.row=ledP (nwW (mvL H (2*hf H) u)) (cmpH H).row S) (e1:H'.half=H.half) (e2:H'.old=H.old) (e3:H'.side=H.side) (e4:H'.top=H.top) (e5:H'.seed=H.seed) (e6:H'.roots.length=H.roots.length) (e7:H'.mourned.length=H.mourned.length) :
    placesR H'=some (r++l)∧upW H'=some l∧Nums H'∧numB H'=true:=by
 have q:=led_places (H:=cmpH H) (H':=H') h.plc (fun p hp=>hp) hS hrow (fun x hx=>nwW_addr (fun m hm=>(h.small N m hm).1) hx) e1 e2 e3 e4 e5 e6 e7
 rw[h.up1]at q
 exact q
theorem CmP.fin {H:Hp} {ps r u l:List Int} (h:CmP H ps r u l) (N:Nums H):placesR (cmpC H)=some (r++l)∧upW (cmpC H)=some l∧Nums (cmpC H)∧numB (cmpC H)=true:=by
 obtain⟨e1,e2⟩:=h.g
 refine h.led N (S:=covA (cmpH H) (cmpO H)) (fun q hq=>by rw[←e2];exact hq) ?_ rfl rfl rfl rfl rfl (by show (H.roots.map _).length=_;simp) (by show (H.mourned.map _).length=_;simp)
 show ledP (nwW (cmpG H)) _ _=_
 rw[e1]
theorem allI_lay {H:Hp} (hr:AllI H.row) {T:Nat} (hT:T≤100000):∀(ms:List Mv) (k:Nat),OrdM H T k ms→AllI (layM H T k ms)
 | [],k,h=>by
   unfold layM gap
   split
   ·exact allI_nil
   ·intro x hx
    rcases List.mem_cons.1 hx with rfl|hx
    ·exact⟨by decide,by decide⟩
    ·rcases List.mem_cons.1 hx with rfl|hx
     ·exact⟨by omega,by omega⟩
     ·rw[List.eq_of_mem_replicate hx];exact⟨by decide,by decide⟩
 |m :: ms,k,h=>by
  have o:=h.1
  have hle:=ord_le h.2
  unfold layM
  refine allI_append ?_ (allI_append (allI_take (allI_drop hr _) _) (allI_lay hr hT ms _ h.2))
  unfold gap
  split
  ·exact allI_nil
  ·intro x hx
   rcases List.mem_cons.1 hx with rfl|hx
   ·exact⟨by decide,by decide⟩
   ·rcases List.mem_cons.1 hx with rfl|hx
    ·exact⟨by omega,by omega⟩
    ·rw[List.eq_of_mem_replicate hx];exact⟨by decide,by decide⟩
theorem CmP.all1 {H:Hp} {ps r u l:List Int} (h:CmP H ps r u l) (N:Nums H) (hr:AllI H.row):AllI (cmpH H).row:=by
 have:=N.len
 have:=N.half1
 have:=N.old1
 rw[←List.take_append_drop (2*hf H) (cmpH H).row,h.lay]
 refine allI_append (fun x hx => ?_) (allI_lay hr (by omega) _ _ h.ord)
 obtain⟨i,hi,rfl⟩:=List.getElem_of_mem hx
 rw[List.length_take]at hi
 have e:=h.low i (by omega)
 rw[List.getElem_take]
 rw[List.getD_eq_getElem?_getD,List.getElem?_eq_getElem (by omega)]at e
 have e':(cmpH H).row[i]=H.row.getD i 0:=e
 rw[e']
 exact allI_at hr (by omega)
theorem nwW_i64 {ms:List Mv} (h:∀m ∈ ms,m.t≤999) {x:Int} (hx:I64 x):I64 (nwW ms x):=by
 unfold nwW
 split
 ·rename_i hh
  rcases dstOf_mem (ms:=ms) (a:=(av x).toNat) with e|⟨m,hm,_,e⟩
  ·rw[e]at hh;exact absurd hh.2 (by decide)
  ·rw[e]
   have:=h m hm
   exact⟨by omega,by omega⟩
 ·exact hx
theorem CmP.all2 {H:Hp} {ps r u l:List Int} (h:CmP H ps r u l) (N:Nums H) (hr:AllI H.row) (S:Nat→Bool):AllI (ledP (nwW (mvL H (2*hf H) u)) (cmpH H).row S):=by
 have A:=h.all1 N hr
 intro x hx
 unfold ledP at hx
 obtain⟨q,hq,rfl⟩:=List.mem_map.1 hx
 have hq':=List.mem_range.1 hq
 split
 ·exact nwW_i64 (fun m hm=>(h.small N m hm).1) (allI_at A hq')
 ·exact allI_at A hq'
end Go.Proofs.YtemlagfaaibenaaGreat.hp
