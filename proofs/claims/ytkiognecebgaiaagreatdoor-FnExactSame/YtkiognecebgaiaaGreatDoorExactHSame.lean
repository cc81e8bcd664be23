/-
  The walk of the law FnExactSame, given what the program's and the specification's Same answer.
  Made from the template ExactHSame (mkexacthsame.py).
-/
import Derived.Test.YtkiognecebgaiaaGreatDoorM8
import Derived.Test.YtkiognecebgaiaaGreatDoorM5
import Derived.Test.YtkiognecebgaiaaGreatDoorM2
import Derived.Deep.RegionLaw
import Derived.Deep.Quiet
import Derived.Deep.Cut
import Derived.Deep.CutRange
import Derived.BigQuiet
namespace Go.Proofs.YtkiognecebgaiaaGreatDoor.hp
open Go.RowKit rows heads words walks region
set_option maxRecDepth 100000
set_option linter.unusedVariables false
set_option linter.unusedSimpArgs false
def dSx8 (k:Nat):Nat:=match k with
 |0=>20
 |1=>21
 |2=>22
 |3=>23
 |4=>24
 |5=>6
 |_=>2000
theorem dSx8_inj:∀k,k<6→∀j,j<6→dSx8 j=dSx8 k→j=k:=by decide
def DSx8 (s:Nat):Bool:=s==20 || s==21 || s==22 || s==23 || s==24 || s==6
def FSx8 (HV GV:Value) (H:Hp) (G:gr.Gr) (b:Bool) (k:Nat) (t:Value) (W:World):Prop:=
 match k with
 |0=>t=HV
 |1=>∃vr vo vm vs,t=hpv H vr vo vm vs∧HpAt W vr vo vm vs H
 |2=>t=GV
 |3=>∃o r m rs,t=gr.gv o r m G.next G.seed∧gr.GraphAt W o r m rs G∧gr.gSize rs G≤1048576
 |4=>t = .bool b
 |5=>t = .bool b
 |_=>False
set_option maxHeartbeats 32000000 in
theorem exactSame {H:Hp} {G:gr.Gr} {b:Bool} (w:World)
    (SPEC:∀(V:World) (vr vo vm vs o r m:Value) (ms:List gr.MO),HpAt V vr vo vm vs H→hpSize H≤1048576→gr.GraphAt V o r m ms G→gr.gSize ms G≤1048576→Calls Tryz.prog 24 #[hpv H vr vo vm vs,gr.gv o r m G.next G.seed] V fun e w'=>e = .returned (.bool b)∧Below V.heap.size V w')
    (IMPL:∀(V:World) (vr vo vm vs o r m:Value) (ms:List gr.MO),Below w.heap.size w V→HpAt V vr vo vm vs H→hpSize H≤1048576→gr.GraphAt V o r m ms G→gr.gSize ms G≤1048576→Calls Tryz.prog 27 #[hpv H vr vo vm vs,gr.gv o r m G.next G.seed] V fun e w'=>e = .returned (.bool b)∧Below V.heap.size V w')
    (vr vo vm vs o r m:Value) (ms:List gr.MO) (h:HpAt w vr vo vm vs H) (hg:gr.GraphAt w o r m ms G) :
    Calls Tryz.prog 4 #[hpv H vr vo vm vs,gr.gv o r m G.next G.seed] w fun e w'=>e = .returned (.bool true)∧Below w.heap.size w w':=by
 obtain⟨a1,c1,a2,c2,a3,c3,a4,c4,e1,e2,e3,e4⟩:=hpAt_slices h
 subst e1 e2 e3 e4
 obtain⟨b1,n1,d1,b2,n2,d2,b3,n3,d3,e1,e2,e3⟩:=gr.graphAt_slices hg
 subst e1 e2 e3
 have B0:Below w.heap.size w (w.alloc (.cells #[.int .i64 H.half,.int .i64 H.old,.slice a1 H.row.length c1,.int .i64 H.side,.int .i64 H.top,.slice a2 H.roots.length c2,.slice a3 H.mourned.length c3,.slice a4 H.seen.length c4,.int .i64 H.seed] 50)):=(Below.refl _ w).alloc (Nat.le_refl _) _
 have s1:(w.alloc (.cells #[.int .i64 H.half,.int .i64 H.old,.slice a1 H.row.length c1,.int .i64 H.side,.int .i64 H.top,.slice a2 H.roots.length c2,.slice a3 H.mourned.length c3,.slice a4 H.seen.length c4,.int .i64 H.seed] 50)).heap.size=w.heap.size+1:=by simp
 have HALL:Hid (∃X,X=(w.alloc (.cells #[.int .i64 H.half,.int .i64 H.old,.slice a1 H.row.length c1,.int .i64 H.side,.int .i64 H.top,.slice a2 H.roots.length c2,.slice a3 H.mourned.length c3,.slice a4 H.seen.length c4,.int .i64 H.seed] 50)).alloc (.cells #[.slice b1 n1 d1,.slice b2 n2 d2,.slice b3 n3 d3,.int .i64 G.next,.int .i64 G.seed] 54)∧Below w.heap.size w X∧Nine X w.heap.size 50 (.int .i64 H.half) (.int .i64 H.old) (.slice a1 H.row.length c1) (.int .i64 H.side) (.int .i64 H.top) (.slice a2 H.roots.length c2) (.slice a3 H.mourned.length c3) (.slice a4 H.seen.length c4) (.int .i64 H.seed)∧gr.Five X (w.heap.size+1) 54 (.slice b1 n1 d1) (.slice b2 n2 d2) (.slice b3 n3 d3) (.int .i64 G.next) (.int .i64 G.seed)):=by
  refine⟨_,rfl,B0.alloc B0.size _,?_,?_⟩
  ·unfold Nine
   rw[heap_alloc_old _ _ (by rw[s1];omega)]
   exact heap_alloc_new w _
  ·have:=heap_alloc_new (w.alloc (.cells #[.int .i64 H.half,.int .i64 H.old,.slice a1 H.row.length c1,.int .i64 H.side,.int .i64 H.top,.slice a2 H.roots.length c2,.slice a3 H.mourned.length c3,.slice a4 H.seen.length c4,.int .i64 H.seed] 50)) (.cells #[.slice b1 n1 d1,.slice b2 n2 d2,.slice b3 n3 d3,.int .i64 G.next,.int .i64 G.seed] 54)
   rw[s1]at this
   exact this
 have HG:Hid _:=h
 have HGG:Hid _:=hg
 have HMS:Hid _:=hg.1
 clear B0 s1 h hg
 go_enter Tryz.func4,Tryz.ntmps4
 go_upto_region 1 with fail
 obtain⟨X0,hX,BX,T0,F0⟩:=HALL.out
 rw[←hX]
 clear hX HALL
 obtain⟨⟨z0,z1,z2,z3,z4⟩,⟨z5,z6,z7,z8⟩,_⟩:=nine_cells T0
 have SZ:=szHeap_any (hpAt_below HG.out BX) 1048576 (Nat.le_refl _)
 have HBX:Hid _:=BX
 have HT0:Hid _:=T0
 have HF0:Hid _:=F0
 clear BX T0 F0
 go_wp2_with fail
 refine SZ.mono ?_
 rintro e w0 ⟨rfl,q0⟩
 have B0:=HBX.out.trans (q0.mono HBX.out.size)
 have T0:=nine_below HT0.out q0
 have F0:=gr.five_below HF0.out q0
 clear SZ HBX HT0 HF0 q0 z0 z1 z2 z3 z4 z5 z6 z7 z8
 by_cases hsz:hpSize H≤1048576
 case neg=>
  rw[if_neg hsz]
  have HB:Hid _:=B0
  clear B0 T0 F0 HG HGG
  go_wp2
  go_ret
  exact⟨rfl,HB⟩
 rw[if_pos hsz]
 obtain⟨lf,hlf⟩:∃lf:Nat,((1048576:Nat):Int)-(hpSize H:Int)=(lf:Int):=⟨1048576-hpSize H,by omega⟩
 have hlf2:lf≤1048576:=by omega
 rw[hlf]
 have hl0:¬(lf:Int)<0:=by omega
 clear hlf
 have SG:=gr.szGraph_any (gr.graphAt_below HGG.out B0) lf hlf2
 obtain⟨g0,g1,g2,g3,g4,_⟩:=gr.five_cells F0
 have HB0:Hid _:=B0
 have HT0:Hid _:=T0
 have HF0:Hid _:=F0
 clear B0 T0 F0
 go_wp2_with fail
 refine SG.mono ?_
 rintro e w1 ⟨rfl,q1⟩
 have HB1:Hid _:=HB0.out.trans (q1.mono HB0.out.size)
 have HT1:Hid _:=nine_below HT0.out q1
 have HF1:Hid _:=gr.five_below HF0.out q1
 clear SG HB0 HT0 HF0 q1 g0 g1 g2 g3 g4
 by_cases hgz0:gr.gSize ms G≤lf
 case neg=>
  rw[if_neg hgz0]
  have HB:Hid _:=HB1
  clear HT1 HF1 HG HGG
  go_wp2
  go_ret
  exact⟨rfl,HB.out⟩
 rw[if_pos hgz0]
 have hgz:gr.gSize ms G≤1048576:=by omega
 obtain⟨lf2,hlf3⟩:∃lf2:Nat,(lf:Int)-(gr.gSize ms G:Int)=(lf2:Int):=⟨lf-gr.gSize ms G,by omega⟩
 rw[hlf3]
 have hl02:¬(lf2:Int)<0:=by omega
 clear hlf3 hgz0 hlf2 hl0
 have HTH:Hid (∀W,Below w1.heap.size w1 W→Calls Tryz.prog 25 #[hpv H (.slice a1 H.row.length c1) (.slice a2 H.roots.length c2) (.slice a3 H.mourned.length c3) (.slice a4 H.seen.length c4)] W fun e w'=>∃(vr' vo' vm' vs':Value),e = .returned (hpv H vr' vo' vm' vs')∧OwnH w' W.heap.size vr' vo' vm' vs' H∧Below W.heap.size W w'):=fun W hW=>toHeap_any (hpAt_below HG.out (HB1.out.trans (hW.mono HB1.out.size))) hsz
 have HTG:Hid (∀W,Below w1.heap.size w1 W→Calls Tryz.prog 26 #[gr.gv (.slice b1 n1 d1) (.slice b2 n2 d2) (.slice b3 n3 d3) G.next G.seed] W fun e w'=>∃(o' r' m':Value) (rs:List gr.MO),e = .returned (gr.gv o' r' m' G.next G.seed)∧gr.OwnG w' W.heap.size o' r' m' rs G∧Below W.heap.size W w'):=fun W hW=>gr.toGraph_any (gr.graphAt_below HGG.out (HB1.out.trans (hW.mono HB1.out.size))) hgz
 go_upto_region 8 with fail
 go_cut [6] from 20 to 24 (fun v6 wz=>v6 = .bool b∧Hid (Below w1.heap.size w1 wz))
 case first=>
  rename_i J K' HJ HK
  generalize hA0:(Act.mk _ [])=A0
  have e2:A0.tmps.getD 2 undef = .pointer (some ⟨w.heap.size,0,none⟩):=by rw[←hA0];rfl
  have e3:A0.tmps.getD 3 undef = .pointer (some ⟨w.heap.size+1,0,none⟩):=by rw[←hA0];rfl
  have sz:A0.tmps.size=45:=by rw[←hA0];rfl
  have ed:A0.defers=[]:=by rw[←hA0]
  refine wp_region_guardedB (by kernel_rfl) DSx8 RelG relG_trans (relG_drew _) (by
      intro k o ho
      have hk:k<6:=(Array.getElem?_eq_some_iff.1 ho).1
      rcases (show k=0∨k=1∨k=2∨k=3∨k=4∨k=5 by omega) with rfl|rfl|rfl|rfl|rfl|rfl<;>(obtain rfl:=Option.some.inj ho;simp[Region.binds])) 6 rfl dSx8 dSx8_inj (FSx8 (hpv H (.slice a1 H.row.length c1) (.slice a2 H.roots.length c2) (.slice a3 H.mourned.length c3) (.slice a4 H.seen.length c4)) (gr.gv (.slice b1 n1 d1) (.slice b2 n2 d2) (.slice b3 n3 d3) G.next G.seed) H G b) ?_ ?_ ?_
  ·intro j t W W' hR h
   match j,h with
   |0,h=>exact h
   |1,h=>exact by obtain⟨a,b,c,d,e,g⟩:=h;exact⟨a,b,c,d,e,hpAt_below g hR⟩
   |2,h=>exact h
   |3,h=>exact by obtain⟨o,r,m,rs,e,g,l⟩:=h;exact⟨o,r,m,rs,e,gr.graphAt_below g hR,l⟩
   |4,h=>exact h
   |5,h=>exact h
   |_+6,h=>exact h.elim
  ·intro j o u W hj ho hR hF
   have ev:∀s,DSx8 s=true→s<45→(ovr DSx8 A0 u).tmps[s]?.getD undef=u s:=fun s h1 h2=>(getD_at _ _).symm.trans (eval_in h1 (by omega))
   have o2:(ovr DSx8 A0 u).tmps[2]?.getD undef=_:=(getD_at _ _).symm.trans ((eval_out (D:=DSx8) (a0:=A0) (u:=u) (s:=2) rfl (by omega)).trans e2)
   have o3:(ovr DSx8 A0 u).tmps[3]?.getD undef=_:=(getD_at _ _).symm.trans ((eval_out (D:=DSx8) (a0:=A0) (u:=u) (s:=3) rfl (by omega)).trans e3)
   obtain⟨⟨y0,y1,y2,y3,y4⟩,⟨y5,y6,y7,y8⟩,-⟩:=nine_cells (nine_below HT1.out hR)
   obtain⟨g0,g1,g2,g3,g4,-⟩:=gr.five_cells (gr.five_below HF1.out hR)
   rcases (show j=0∨j=1∨j=2∨j=3∨j=4∨j=5 by omega) with rfl|rfl|rfl|rfl|rfl|rfl
   all_goals obtain rfl:=Option.some.inj ho
   ·refine tellVw (v:=(hpv H (.slice a1 H.row.length c1) (.slice a2 H.roots.length c2) (.slice a3 H.mourned.length c3) (.slice a4 H.seen.length c4))) (wanted_none rfl) ?_ ?_ ?_ (relG_refl _) ?_
    ·exact rfl
    ·exact rfl
    ·simp only[execOp]
     go_simp
     try go_num
     try (rw[IntKind.wrap_i64];omega)
    ·exact rfl
   ·have x0:=(ev 20 rfl (by decide)).trans (hF 0 (by decide) (by simp[Region.binds]))
    refine tellCw (f:=25) (args:=#[(hpv H (.slice a1 H.row.length c1) (.slice a2 H.roots.length c2) (.slice a3 H.mourned.length c3) (.slice a4 H.seen.length c4))]) (wanted_none rfl) rfl rfl ?_ ((HTH.out W hR).mono ?_)
    ·simp only[execOp]
     go_simp
    ·rintro e w' ⟨vr,vo,vm,vs,rfl,oh,hb⟩
     exact⟨_,rfl,hb,vr,vo,vm,vs,rfl,ownH_at oh⟩
   ·refine tellVw (v:=(gr.gv (.slice b1 n1 d1) (.slice b2 n2 d2) (.slice b3 n3 d3) G.next G.seed)) (wanted_none rfl) ?_ ?_ ?_ (relG_refl _) ?_
    ·exact rfl
    ·exact rfl
    ·simp only[execOp]
     go_simp
     try go_num
     try (rw[IntKind.wrap_i64];omega)
    ·exact rfl
   ·have x2:=(ev 22 rfl (by decide)).trans (hF 2 (by decide) (by simp[Region.binds]))
    refine tellCw (f:=26) (args:=#[(gr.gv (.slice b1 n1 d1) (.slice b2 n2 d2) (.slice b3 n3 d3) G.next G.seed)]) (wanted_none rfl) rfl rfl ?_ ((HTG.out W hR).mono ?_)
    ·simp only[execOp]
     go_simp
    ·rintro e w' ⟨o,r,m,rs,rfl,og,hb⟩
     exact⟨_,rfl,hb,o,r,m,rs,rfl,gr.ownG_at og,gr.gSize_of og.1 HMS.out hgz⟩
   ·have h1:=hF 1 (by decide) (by simp[Region.binds])
    have h3:=hF 3 (by decide) (by simp[Region.binds])
    obtain⟨vr,vo,vm,vs,f21,g21⟩:=h1
    obtain⟨o,r,m,rs,f23,g23,l23⟩:=h3
    have x21:=(ev 21 rfl (by decide)).trans f21
    have x23:=(ev 23 rfl (by decide)).trans f23
    refine tellCw (f:=24) (args:=#[hpv H vr vo vm vs,gr.gv o r m G.next G.seed]) (wanted_none rfl) rfl rfl ?_ ((SPEC W vr vo vm vs o r m rs g21 hsz g23 l23).mono ?_)
    ·simp only[execOp]
     go_simp
    ·rintro e w' ⟨rfl,hb⟩
     exact⟨_,rfl,hb,rfl⟩
   ·have x4:=(ev 24 rfl (by decide)).trans (hF 4 (by decide) (by simp[Region.binds]))
    refine tellVw (v:=.bool b) (wanted_none rfl) ?_ ?_ ?_ (relG_refl _) ?_
    ·exact rfl
    ·exact rfl
    ·simp only[execOp]
     go_simp
     try go_num
     try (rw[IntKind.wrap_i64];omega)
    ·exact rfl
  ·intro u W hR hF
   have f5:=hF 5 (by decide)
   have f5:u 6 = .bool b:=f5
   have HRW:Hid (Below w1.heap.size w1 W):=hR
   clear hF hR sz ed e2 e3
   subst hA0
   simp[ovr,DSx8,List.range,List.range.loop,f5]
   first|refine Met.intro (HJ _ _ ?_)|refine HK _ _ (Met.intro (HJ _ _ ?_))
   (repeat apply Exists.intro)
   refine⟨?rel8,rfl⟩
   exact⟨rfl,HRW⟩
 obtain⟨rfl,HBc⟩:=hcut
 obtain⟨w4,hw4⟩:∃W,W=wc:=⟨_,rfl⟩
 subst hw4
 have TH:=HTH.out w4 HBc.out
 have HB4:Hid _:=HB1.out.trans (HBc.out.mono HB1.out.size)
 have HT4:Hid _:=nine_below HT1.out HBc.out
 have HF4:Hid _:=gr.five_below HF1.out HBc.out
 obtain⟨⟨z0,z1,z2,z3,z4⟩,⟨z5,z6,z7,z8⟩,_⟩:=nine_cells HT4.out
 clear HTG HTH HBc HT1 HF1 HB1
 go_wp2_with fail
 refine TH.mono ?_
 rintro e w5 ⟨o5,r5,m5,s5,rfl,O5,q5⟩
 have B5:=HB4.out.trans (q5.mono HB4.out.size)
 have T5:=nine_below HT4.out q5
 have F5':=gr.five_below HF4.out q5
 obtain⟨h1,j1,h2,j2,h3,j3,h4,j4,e1,e2,e3,e4⟩:=hpAt_slices (ownH_at O5)
 subst e1 e2 e3 e4
 have N5:=(Below.refl w5.heap.size w5).alloc (Nat.le_refl _) (hpb H (.slice h1 H.row.length j1) (.slice h2 H.roots.length j2) (.slice h3 H.mourned.length j3) (.slice h4 H.seen.length j4))
 have B6:=B5.trans (N5.mono B5.size)
 have T6:=nine_below T5 N5
 have F6:=gr.five_below F5' N5
 have X6f:=nine_mk w5 58 (.int .i64 H.half) (.int .i64 H.old) (.slice h1 H.row.length j1) (.int .i64 H.side) (.int .i64 H.top) (.slice h2 H.roots.length j2) (.slice h3 H.mourned.length j3) (.slice h4 H.seen.length j4) (.int .i64 H.seed)
 have OX6:=ownH_below O5 N5
 have TG:=gr.toGraph_any (gr.graphAt_below HGG.out B6) hgz
 obtain⟨g0,g1,g2,g3,g4,_⟩:=gr.five_cells F6
 have HB6:Hid _:=B6
 have HT6:Hid _:=T6
 have HF6:Hid _:=F6
 have HX6:Hid _:=X6f
 have HOX6:Hid _:=OX6
 clear TH HB4 HT4 HF4 q5 B5 T5 F5' N5 B6 T6 F6 X6f OX6 O5 z0 z1 z2 z3 z4 z5 z6 z7 z8
 go_wp2_with fail
 generalize hX6:(w5.alloc (hpb H (.slice h1 H.row.length j1) (.slice h2 H.roots.length j2) (.slice h3 H.mourned.length j3) (.slice h4 H.seen.length j4)))=X6 at *
 generalize hP7:w5.heap.size=P7 at *
 clear hX6
 refine TG.mono ?_
 rintro e w7 ⟨o7,r7,m7,rs7,rfl,O7,q7⟩
 have B7:=HB6.out.trans (q7.mono HB6.out.size)
 have T7:=nine_below HT6.out q7
 have F7:=gr.five_below HF6.out q7
 have X7:=nine_below HX6.out q7
 have OH7:=ownH_below HOX6.out q7
 obtain⟨k1,l1,i1,k2,l2,i2,k3,l3,i3,e1,e2,e3⟩:=gr.graphAt_slices (gr.ownG_at O7)
 subst e1 e2 e3
 have N7:=(Below.refl w7.heap.size w7).alloc (Nat.le_refl _) (gr.gb (.slice k1 l1 i1) (.slice k2 l2 i2) (.slice k3 l3 i3) G.next G.seed)
 have B8:=B7.trans (N7.mono B7.size)
 have T8:=nine_below T7 N7
 have F8:=gr.five_below F7 N7
 have X8:=nine_below X7 N7
 have OH8:=ownH_below OH7 N7
 have Y8:=gr.five_new w7 27 (.slice k1 l1 i1) (.slice k2 l2 i2) (.slice k3 l3 i3) (.int .i64 G.next) (.int .i64 G.seed)
 have OG8:=gr.ownG_below O7 N7
 obtain⟨⟨x0,x1,x2,x3,x4⟩,⟨x5,x6,x7,x8⟩,_⟩:=nine_cells X8
 obtain⟨y0,y1,y2,y3,y4,_⟩:=gr.five_cells Y8
 have IM:=IMPL _ _ _ _ _ _ _ _ _ B8 (ownH_at OH8) hsz (gr.ownG_at OG8) (gr.gSize_of OG8.1 HMS.out hgz)
 have HB8:Hid _:=B8
 have HT8:Hid _:=T8
 have HF8:Hid _:=F8
 have HX8:Hid _:=X8
 have HY8:Hid _:=Y8
 have HOH8:Hid _:=OH8
 have HOG8:Hid _:=OG8
 clear TG HB6 HT6 HF6 HX6 HOX6 q7 B7 T7 F7 X7 OH7 N7 B8 T8 F8 X8 OH8 Y8 OG8 O7 g0 g1 g2 g3 g4
 go_wp2_with fail
 generalize hX8:(w7.alloc (gr.gb (.slice k1 l1 i1) (.slice k2 l2 i2) (.slice k3 l3 i3) G.next G.seed))=X8 at *
 generalize hP8:w7.heap.size=P8 at *
 clear hX8
 refine IM.mono ?_
 rintro e w9 ⟨rfl,q9⟩
 have B9:=HB8.out.trans (q9.mono HB8.out.size)
 have T9:=nine_below HT8.out q9
 have F9:=gr.five_below HF8.out q9
 have X9:=nine_below HX8.out q9
 have Y9:=gr.five_below HY8.out q9
 have OH9:=ownH_below HOH8.out q9
 have OG9:=gr.ownG_below HOG8.out q9
 clear IM HB8 HT8 HF8 HX8 HY8 HOH8 HOG8 q9 x0 x1 x2 x3 x4 x5 x6 x7 x8 y0 y1 y2 y3 y4
 have bb:(b != b)=false:=by simp
 have TG:=toHeap_any (w:=w9.drew) (hpAt_below HG.out B9.drew) hsz
 obtain⟨⟨z0,z1,z2,z3,z4⟩,⟨z5,z6,z7,z8⟩,_⟩:=nine_cells T9
 obtain⟨⟨x0,x1,x2,x3,x4⟩,⟨x5,x6,x7,x8⟩,_⟩:=nine_cells X9
 have HB9:Hid _:=B9
 have HF9:Hid _:=F9
 have HX9:Hid _:=X9
 have HY9:Hid _:=Y9
 have HOH9:Hid _:=OH9
 have HOG9:Hid _:=OG9
 clear B9 T9 F9 X9 Y9 OH9 OG9
 go_upto_region 14 with fail
 go_region_law (first
  |(go_simp;go_at_call 25;refine TG.mono ?_;clear TG;rintro e w10 ⟨o10,r10,m10,rs10,rfl,O10,q10⟩
    obtain⟨u1,u3,u4,u6,u7,u9,u1z,u3z,e1,e2,e3,e4⟩:=hpAt_slices (ownH_at O10)
    subst e1 e2 e3 e4
    have D10:Below w9.heap.size w9 w10:=⟨q10.os,q10.tape,q10.output,q10.size,q10.block⟩
    have EQ2:=eqHeap_same (ownH_at (ownH_below HOH9.out D10)) (ownH_at O10) hsz
    have X10:=nine_below HX9.out D10
    obtain⟨⟨t0,t1,t2,t3,t4⟩,⟨t5,t6,t7,t8⟩,_⟩:=nine_cells X10
    have HD10:Hid _:=D10
    clear q10 D10 O10 X10)
  |(go_simp;go_at_call 28;refine EQ2.mono ?_;clear EQ2;rintro e w11 ⟨rfl,q11⟩;have HD11:Hid _:=HD10.out.trans (q11.mono HD10.out.size);clear q11 HD10))
 all_goals
  have B11:=HB9.out.trans (HD11.out.mono HB9.out.size)
  have F11:=gr.five_below HF9.out HD11.out
  have Y11:=gr.five_below HY9.out HD11.out
  have OG11:=gr.ownG_below HOG9.out HD11.out
  clear HD11 HB9 HF9 HX9 HY9 HOH9 HOG9 z0 z1 z2 z3 z4 z5 z6 z7 z8 x0 x1 x2 x3 x4 x5 x6 x7 x8 t0 t1 t2 t3 t4 t5 t6 t7 t8
  have TG:=gr.toGraph_any (w:=w11.drew) (gr.graphAt_below HGG.out B11.drew) hgz
  obtain⟨z0,z1,z2,z3,z4,_⟩:=gr.five_cells F11
  obtain⟨x0,x1,x2,x3,x4,_⟩:=gr.five_cells Y11
  have HB11:Hid _:=B11
  have HY11:Hid _:=Y11
  have HOG11:Hid _:=OG11
  clear B11 F11 Y11 OG11
  go_upto_region 16 with fail
  go_region_law (first
   |(go_simp;go_at_call 26;refine TG.mono ?_;clear TG;rintro e w12 ⟨o12,r12,m12,rs12,rfl,O12,q12⟩
     obtain⟨u1,u2,u3,u4,u5,u6,u7,u8,u9,e1,e2,e3⟩:=gr.graphAt_slices (gr.ownG_at O12)
     subst e1 e2 e3
     have D12:Below w11.heap.size w11 w12:=⟨q12.os,q12.tape,q12.output,q12.size,q12.block⟩
     have EQ3:=gr.eqGraph_same (gr.ownG_at (gr.ownG_below HOG11.out D12)) (gr.ownG_at O12) (gr.gSize_of HOG11.out.1 HMS.out hgz)
     have Y12:=gr.five_below HY11.out D12
     obtain⟨t0,t1,t2,t3,t4,_⟩:=gr.five_cells Y12
     have HD12:Hid _:=D12
     clear q12 D12 O12 Y12)
   |(go_simp;go_at_call 29;refine EQ3.mono ?_;clear EQ3;rintro e w13 ⟨rfl,q13⟩;have HD13:Hid _:=HD12.out.trans (q13.mono HD12.out.size);clear q13 HD12))
  all_goals
   have HB13:Hid _:=HB11.out.trans (HD13.out.mono HB11.out.size)
   clear HD13 HB11 HY11 HOG11
   go_wp2
   go_ret
   exact⟨rfl,HB13⟩
end Go.Proofs.YtkiognecebgaiaaGreatDoor.hp
