/-
  Chapter 10 as the program has it: Shown. Chapter 19 as the program has it: Same.
-/
import Derived.Test.YtkiognecebgaiaaGreatDoorShowI9
import Derived.Test.YtkiognecebgaiaaGreatDoorM18
import Derived.Laws.Strings
import Derived.Test.YtkiognecebgaiaaGreatDoorSamS
import Derived.Test.YtkiognecebgaiaaGreatDoorM17
namespace Go.Proofs.YtkiognecebgaiaaGreatDoor.hp
open Go.RowKit rows heads words walks Go.Maps
set_option maxRecDepth 100000
set_option linter.unusedVariables false
set_option linter.unusedSimpArgs false
set_option maxHeartbeats 16000000 in
theorem implShown {H:Hp} (hI:HpI H) (w:World) (vr vo vm vs:Value) (h:HpAt w vr vo vm vs H) (hs:hpSize H≤1048576) :
    Calls Tryz.prog 68 #[hpv H vr vo vm vs] w fun e w'=>GrA w (shownG H) e w':=by
 obtain⟨a1,c1,a2,c2,a3,c3,a4,c4,e1,e2,e3,e4⟩:=hpAt_slices h
 subst e1 e2 e3 e4
 have B0:Below w.heap.size w (w.alloc (hpb H (.slice a1 H.row.length c1) (.slice a2 H.roots.length c2) (.slice a3 H.mourned.length c3) (.slice a4 H.seen.length c4))):=(Below.refl _ _).alloc (Nat.le_refl _) _
 have B1:=B0.alloc B0.size (gr.gb (.slice none 0 0) (.slice none 0 0) (.slice none 0 0) 0 0)
 have HALL:Hid (∃X,X=((w.alloc (hpb H (.slice a1 H.row.length c1) (.slice a2 H.roots.length c2) (.slice a3 H.mourned.length c3) (.slice a4 H.seen.length c4))).alloc (gr.gb (.slice none 0 0) (.slice none 0 0) (.slice none 0 0) 0 0))∧Nine X w.heap.size 58 (.int .i64 H.half) (.int .i64 H.old) (.slice a1 H.row.length c1) (.int .i64 H.side) (.int .i64 H.top) (.slice a2 H.roots.length c2) (.slice a3 H.mourned.length c3) (.slice a4 H.seen.length c4) (.int .i64 H.seed)∧gr.Five X (w.heap.size+1) 27 (.slice none 0 0) (.slice none 0 0) (.slice none 0 0) (.int .i64 0) (.int .i64 0)∧Below w.heap.size w X∧HpAt X (.slice a1 H.row.length c1) (.slice a2 H.roots.length c2) (.slice a3 H.mourned.length c3) (.slice a4 H.seen.length c4) H):=by
  have q1:=heap_alloc_new (w.alloc (hpb H (.slice a1 H.row.length c1) (.slice a2 H.roots.length c2) (.slice a3 H.mourned.length c3) (.slice a4 H.seen.length c4))) (gr.gb (.slice none 0 0) (.slice none 0 0) (.slice none 0 0) 0 0)
  rw[show (w.alloc (hpb H (.slice a1 H.row.length c1) (.slice a2 H.roots.length c2) (.slice a3 H.mourned.length c3) (.slice a4 H.seen.length c4))).heap.size=w.heap.size+1 by simp]at q1
  exact⟨_,rfl,nine_below (nine_new w H _ _ _ _) ((Below.refl _ _).alloc (Nat.le_refl _) _),q1,B1,hpAt_below h B1⟩
 clear B0 B1
 cases hh:heapOk H
 ·rw[shown_wrong hh]
  have HS:Hid _:=hs
  have HII:Hid _:=hI
  have HHH:Hid _:=hh
  clear h hs hI hh
  go_enter Tryz.func68,Tryz.ntmps68
  go_upto_region 1 with fail
  obtain⟨X,hX,T0,T1,BX,AX⟩:=HALL.out
  rw[←hX]
  clear hX HALL
  obtain⟨⟨z0,z1,z2,z3,z4⟩,⟨z5,z6,z7,z8⟩,_⟩:=nine_cells T0
  have OX:=opened_any AX HS.out HII.out
  unfold OpenR at OX
  have R0:=OX.mono (fun e w' (g:_∧_∧_)=>(⟨g.1 HHH.out,g.2.2⟩:e = .returned (.tuple #[hov0,.bool false])∧Below _ _ w'))
  have HT1:Hid _:=T1
  have HBX:Hid _:=BX
  clear OX T0 T1 BX AX
  go_upto_region 2 with (go_at_call 104;refine R0.mono ?_;clear R0 z0 z1 z2 z3 z4 z5 z6 z7 z8;rintro e w1 ⟨rfl,b1⟩;have HB1:Hid _:=b1;clear b1)
  have HB2:Hid _:=HB1.out.alloc HB1.out.size (hob hz s0 s0 s0 s0 0 s0)
  generalize w1.alloc (hob hz s0 s0 s0 s0 0 s0)=Y at *
  have HBY:Hid _:=HBX.out.trans (HB2.out.mono HBX.out.size)
  have HF2:Hid _:=gr.five_below HT1.out HB2.out
  obtain⟨r0,r1,r2,r3,r4,rf⟩:=gr.five_cells HF2.out
  have rf0:=rf 0
  have rf1:=rf 1
  have rf2:=rf 2
  have rf3:=rf 3
  have rf4:=rf 4
  clear rf HB1 HB2 HBX HT1
  go_wp2_with fail
  exact bodyPost_ret (gr.res_gr rfl rfl (gr.five_sets HF2.out _ _ _ _ _)) rfl (gr_zero (gr.five_belows HBY.out (Nat.le_succ _) _ _ _ _ _))
 ·obtain⟨ps,FP⟩:=folP_of (a:=a1) hh
  have hrt:=(ok_right hh).1
  rw[←openB_is a1 H]at hrt
  obtain⟨hn,hro,_⟩:=openB_parts hrt
  have N:=(places_facts FP.rt.some').1
  have hrl:=FP.rt.len
  have hpos:0<H.row.length:=by have:=N.len;have:=N.half1;omega
  obtain⟨b,off,ea,_,_⟩:=ints_cell h.1 hpos
  subst ea
  have HSB:Hid (∀V a5 c5,Below w.heap.size w V→PdsAt V (.slice a5 (objsP (some ⟨b,off,none⟩) H).length c5) (objsP (some ⟨b,off,none⟩) H)→Calls Tryz.prog 105 #[hov H (.slice (some ⟨b,off,none⟩) H.row.length c1) (.slice a2 H.roots.length c2) (.slice a3 H.mourned.length c3) (.slice a4 H.seen.length c4) (2*H.half) (.slice a5 (objsP (some ⟨b,off,none⟩) H).length c5)] V fun e w'=>ShA V H (objsP (some ⟨b,off,none⟩) H) e w'):=fun V a5 c5 hV hp=>by
   have hV':=hpAt_below h hV
   exact shownBy_any hV' (roomsAt_of hV'.1 hn hro hI.2.1 hp) FP hI hrl (by have:=N.roots;omega) (by have:=N.mourned;omega) (objs_in hro) _
  have HS:Hid _:=hs
  have HII:Hid _:=hI
  have HHH:Hid _:=hh
  have HMY:Hid (200<(ordH H).length→shownG H=gr.gr0):=shown_many
  have HYE:Hid ((ordH H).length≤200→shownG H=grS H (ordH H)):=shown_yes hh
  have HGL:Hid ((grS H (ordH H)).objs.length=(ordH H).length):=by show _=_;simp[grS]
  have hle:(ordH H).length≤500:=(FP.rt.ordH_og).len FP.rt
  clear h hs hI hh FP hrt hn hro N hrl hpos
  go_enter Tryz.func68,Tryz.ntmps68
  go_upto_region 1 with fail
  obtain⟨X,hX,T0,T1,BX,AX⟩:=HALL.out
  rw[←hX]
  clear hX HALL
  obtain⟨⟨z0,z1,z2,z3,z4⟩,⟨z5,z6,z7,z8⟩,_⟩:=nine_cells T0
  have OX:=opened_any AX HS.out HII.out
  unfold OpenR at OX
  have R0:=OX.mono (fun e w' (g:_∧_∧_)=>(⟨g.2.1 HHH.out,g.2.2⟩:(∃a5 c5,e = .returned (.tuple #[hov H (.slice (some ⟨b,off,none⟩) H.row.length c1) (.slice a2 H.roots.length c2) (.slice a3 H.mourned.length c3) (.slice a4 H.seen.length c4) (2*H.half) (.slice a5 (objsP (some ⟨b,off,none⟩) H).length c5),.bool true])∧OwnP w' _ (.slice a5 (objsP (some ⟨b,off,none⟩) H).length c5) (objsP (some ⟨b,off,none⟩) H))∧Below _ _ w'))
  have HT1:Hid _:=T1
  have HBX:Hid _:=BX
  clear OX T0 T1 BX AX
  go_upto_region 2 with (go_at_call 104;refine R0.mono ?_;clear R0 z0 z1 z2 z3 z4 z5 z6 z7 z8;rintro e w1 ⟨⟨a5,c5,rfl,O1⟩,b1⟩;have HB1:Hid _:=b1;have HO1:Hid _:=ownP_at O1;clear b1 O1)
  have B2:Below w1.heap.size w1 (w1.alloc (hob H (.slice (some ⟨b,off,none⟩) H.row.length c1) (.slice a2 H.roots.length c2) (.slice a3 H.mourned.length c3) (.slice a4 H.seen.length c4) (2*H.half) (.slice a5 (objsP (some ⟨b,off,none⟩) H).length c5))):=(Below.refl _ _).alloc (Nat.le_refl _) _
  have Q2:=heap_alloc_new w1 (hob H (.slice (some ⟨b,off,none⟩) H.row.length c1) (.slice a2 H.roots.length c2) (.slice a3 H.mourned.length c3) (.slice a4 H.seen.length c4) (2*H.half) (.slice a5 (objsP (some ⟨b,off,none⟩) H).length c5))
  have HBY:Hid _:=HB1.out.trans (B2.mono HB1.out.size)
  have HPY:Hid _:=pdsAt_below HO1.out B2
  have hX1:=HB1.out.size
  obtain⟨⟨m0,m1,m2,m3,m4,m5,m6,m7,m8,m9,m10⟩,_⟩:=hob_cells Q2
  generalize w1.alloc (hob H (.slice (some ⟨b,off,none⟩) H.row.length c1) (.slice a2 H.roots.length c2) (.slice a3 H.mourned.length c3) (.slice a4 H.seen.length c4) (2*H.half) (.slice a5 (objsP (some ⟨b,off,none⟩) H).length c5))=Y at *
  have SB:=HSB.out Y a5 c5 (HBX.out.trans (HBY.out.mono HBX.out.size)) HPY.out
  have hYs:=HBY.out.size
  have hXs:=lt_of_block HT1.out
  clear B2 Q2 HSB
  generalize objsP (some ⟨b,off,none⟩) H=ds at *
  go_upto_region 5 with (go_at_call 105;refine SB.mono ?_;clear SB m0 m1 m2 m3 m4 m5 m6 m7 m8 m9 m10;rintro e w2 ⟨o,r,m,ms,va,vn,vc,es,rfl,og,op,_,_,_,b2⟩;obtain⟨g1,n1,k1,g2,n2,k2,g3,n3,k3,eo,er,em⟩:=gr.graphAt_slices (gr.ownG_at og);subst eo er em;have HOG:Hid _:=og;have HB2:Hid _:=b2;clear og op b2)
  have en1:n1=(ordH H).length:=by
   have e1:=congrArg List.length HOG.out.1
   obtain⟨a',c',e2,_⟩:=(gr.ownG_at HOG.out).2.1.1
   injection e2 with _ e2 _
   rw[List.length_map,HGL.out]at e1
   omega
  subst en1
  generalize grS H (ordH H)=GS at *
  generalize ordH H=OL at *
  have B3:Below w2.heap.size w2 (w2.alloc (gr.gb (.slice g1 OL.length k1) (.slice g2 n2 k2) (.slice g3 n3 k3) GS.next GS.seed)):=(Below.refl _ _).alloc (Nat.le_refl _) _
  have T3:=gr.five_new w2 27 (.slice g1 OL.length k1) (.slice g2 n2 k2) (.slice g3 n3 k3) (.int .i64 GS.next) (.int .i64 GS.seed)
  have HOG3:Hid _:=gr.ownG_below HOG.out B3
  have hb3:Below X.heap.size X (w2.alloc (gr.gb (.slice g1 OL.length k1) (.slice g2 n2 k2) (.slice g3 n3 k3) GS.next GS.seed)):=HBY.out.trans ((HB2.out.trans (B3.mono HB2.out.size)).mono HBY.out.size)
  have HB3:Hid _:=HBX.out.trans (hb3.mono HBX.out.size)
  have F3:=gr.five_below HT1.out hb3
  obtain⟨t0,t1,t2,t3,t4,_⟩:=gr.five_cells T3
  obtain⟨r0,r1,r2,r3,r4,rf⟩:=gr.five_cells F3
  have rf0:=rf 0
  have rf1:=rf 1
  have rf2:=rf 2
  have rf3:=rf 3
  have rf4:=rf 4
  have HF3:Hid _:=F3
  clear B3 T3 hb3 F3 rf
  generalize w2.alloc (gr.gb (.slice g1 OL.length k1) (.slice g2 n2 k2) (.slice g3 n3 k3) GS.next GS.seed)=Z at *
  by_cases hgt:200<OL.length
  ·have hgt':(200:Int)<(OL.length:Int):=by omega
   have HE:Hid _:=HMY.out hgt
   clear HMY HYE
   clear hgt
   go_wp2_with fail
   refine bodyPost_ret (gr.res_gr rfl rfl (gr.five_sets HF3.out _ _ _ _ _)) rfl ?_
   rw[HE.out]
   exact (gr_zero (gr.five_belows HB3.out (Nat.le_succ _) _ _ _ _ _))
  ·have hgt':¬(200:Int)<(OL.length:Int):=by omega
   have HE:Hid _:=HYE.out (by omega)
   clear HMY HYE
   clear hgt
   go_wp2_with fail
   refine bodyPost_ret (gr.res_gr rfl rfl (gr.five_sets HF3.out _ _ _ _ _)) rfl ?_
   rw[HE.out]
   refine⟨_,_,_,ms,rfl,?_,gr.five_belows HB3.out (Nat.le_succ _) _ _ _ _ _⟩
   refine gr.ownG_base (gr.ownG_ch HOG3.out (gr.five_other _ _ _ _ _) (fun k hk hc => ?_)) (by omega)
   have e:k=w.heap.size+1:=by simpa using hc
   have:=(gr.ownG_lt HOG3.out k hk).1
   omega
end Go.Proofs.YtkiognecebgaiaaGreatDoor.hp
namespace Go.Proofs.YtkiognecebgaiaaGreatDoor.hp
open Go.RowKit rows heads words walks
set_option maxRecDepth 100000
set_option linter.unusedVariables false
set_option linter.unusedSimpArgs false
theorem toList_is (s:ByteArray):s.toList=s.data.toList:=Go.ByteArray.toList_eq s
theorem toList_same {a b:ByteArray} (h:a=b):(a.toList==b.toList)=true:=by rw[h];simp
theorem toList_other {a b:ByteArray} (h:¬a=b):(a.toList==b.toList)=false:=by
 rw[beq_eq_false_iff_ne]
 intro e
 rw[toList_is,toList_is]at e
 obtain⟨a⟩:=a
 obtain⟨b⟩:=b
 have e':a=b:=Array.toList_inj.1 e
 exact h (by rw[e'])
set_option maxHeartbeats 32000000 in
theorem implSame {w:World} {vr vo vm vs o r m:Value} {H:Hp} {ms:List gr.MO} {G:gr.Gr} (hI:HpI H) (ht:gr.TabC w) (h:HpAt w vr vo vm vs H) (hs:hpSize H≤1048576) (hg:gr.GraphAt w o r m ms G) (hgs:gr.gSize ms G≤1048576) :
    Calls Tryz.prog 27 #[hpv H vr vo vm vs,gr.gv o r m G.next G.seed] w fun e w'=>e = .returned (.bool (samB H G))∧Below w.heap.size w w':=by
 obtain⟨a1,c1,a2,c2,a3,c3,a4,c4,e1,e2,e3,e4⟩:=hpAt_slices h
 subst e1 e2 e3 e4
 obtain⟨b1,n1,d1,b2,n2,d2,b3,n3,d3,e1,e2,e3⟩:=gr.graphAt_slices hg
 subst e1 e2 e3
 have B1:Below w.heap.size w (w.alloc (hpb H (.slice a1 H.row.length c1) (.slice a2 H.roots.length c2) (.slice a3 H.mourned.length c3) (.slice a4 H.seen.length c4))):=(Below.refl _ _).alloc (Nat.le_refl _) _
 have s1:(w.alloc (hpb H (.slice a1 H.row.length c1) (.slice a2 H.roots.length c2) (.slice a3 H.mourned.length c3) (.slice a4 H.seen.length c4))).heap.size=w.heap.size+1:=by simp
 have HALL:Hid (∃X,X=(w.alloc (hpb H (.slice a1 H.row.length c1) (.slice a2 H.roots.length c2) (.slice a3 H.mourned.length c3) (.slice a4 H.seen.length c4))).alloc (gr.gb (.slice b1 n1 d1) (.slice b2 n2 d2) (.slice b3 n3 d3) G.next G.seed)∧Below w.heap.size w X∧X.heap[w.heap.size]? = some (hpb H (.slice a1 H.row.length c1) (.slice a2 H.roots.length c2) (.slice a3 H.mourned.length c3) (.slice a4 H.seen.length c4))∧gr.Five X (w.heap.size+1) 27 (.slice b1 n1 d1) (.slice b2 n2 d2) (.slice b3 n3 d3) (.int .i64 G.next) (.int .i64 G.seed)):=by
  refine⟨_,rfl,B1.alloc B1.size _,?_,?_⟩
  ·rw[heap_alloc_old _ _ (by rw[s1];omega)]
   exact heap_alloc_new w _
  ·have:=heap_alloc_new (w.alloc (hpb H (.slice a1 H.row.length c1) (.slice a2 H.roots.length c2) (.slice a3 H.mourned.length c3) (.slice a4 H.seen.length c4))) (gr.gb (.slice b1 n1 d1) (.slice b2 n2 d2) (.slice b3 n3 d3) G.next G.seed)
   rw[s1]at this
   exact this
 obtain⟨R,hR⟩:∃R,samB H G=R:=⟨_,rfl⟩
 rw[hR]
 have HR:Hid _:=hR
 have HTB:Hid _:=ht
 have HH:Hid _:=h
 have HG:Hid _:=hg
 have HS:Hid _:=hs
 have HGS:Hid _:=hgs
 clear hR h hg hs hgs B1 s1 ht
 go_enter Tryz.func27,Tryz.ntmps27
 go_upto_region 1 with fail
 obtain⟨X,hX,BX,Q2,F3⟩:=HALL.out
 rw[←hX]
 clear hX HALL
 obtain⟨⟨z0,z1,z2,z3,z4⟩,⟨z5,z6,z7,z8⟩,_⟩:=nine_cells (hp_nine Q2)
 have SH:=implShown hI X _ _ _ _ (hpAt_below HH.out BX) HS.out
 have HBX:Hid _:=BX
 have HQ2:Hid _:=Q2
 have HF3:Hid _:=F3
 clear BX Q2 F3
 go_wp2_with fail
 refine SH.mono ?_
 clear SH z0 z1 z2 z3 z4 z5 z6 z7 z8
 rintro e w2 ⟨so,sr,sm,sms,rfl,og,b2⟩
 have B2:=HBX.out.trans (b2.mono HBX.out.size)
 have CA:=gr.implCanon (gr.ownG_at og) (shown_small H sms og.1) (gr.tabC_below HTB.out B2)
 have HB2:Hid _:=B2
 have HQ3:Hid _:=nine_below (hp_nine HQ2.out) b2
 have HF4:Hid _:=gr.five_below HF3.out b2
 clear og b2 B2 HQ2 HF3
 go_wp2_with fail
 refine CA.mono ?_
 clear CA
 rintro e w3 ⟨rfl,b3⟩
 have HB3:Hid _:=HB2.out.trans (b3.mono HB2.out.size)
 have HQ4:Hid _:=nine_below HQ3.out b3
 have HF5:Hid _:=gr.five_below HF4.out b3
 clear b3 HQ3 HF4 HB2
 obtain⟨⟨y0,y1,y2,y3,y4⟩,⟨y5,y6,y7,y8⟩,_⟩:=nine_cells HQ4.out
 obtain⟨g0,g1,g2,g3,g4,_⟩:=gr.five_cells HF5.out
 have CG:=gr.implCanon (gr.graphAt_below HG.out HB3.out) HGS.out (gr.tabC_below HTB.out HB3.out)
 by_cases hyes:heapOk H=true∧(ordH H).length≤200
 ·have hsh:shownG H=grS H (ordH H):=shown_yes hyes.1 hyes.2
  obtain⟨ps,RT⟩:=rt_of (ok_right hyes.1).1
  have hgo:gr.gOk (grS H (ordH H))=true:=(grS_rightL RT hyes.2).gOk
  have hcs:gr.canA (shownG H)=gr.bs (gr.canT (grS H (ordH H))):=by rw[hsh,can_yes hgo]
  rw[hcs]
  have hne:gr.bs (gr.canT (grS H (ordH H)))≠⟨#[]⟩:=bs_ne (canT_pos _)
  have hRR:R=(decide (gr.bs (gr.canT (grS H (ordH H)))=gr.canA G)&&decide (H.seed=G.seed)):=by
   rw[←HR.out]
   unfold samB
   rw[hyes.1,decide_eq_true hyes.2]
   cases dg:gr.gOk G
   ·rw[can_no dg,decide_eq_false hne]
    rfl
   ·rw[can_yes dg]
    simp[Bool.and_comm]
  have HRR:Hid _:=hRR
  clear hRR hsh hgo hcs RT hyes
  generalize gr.bs (gr.canT (grS H (ordH H)))=SB at *
  generalize gr.canA G=CGb at *
  have hne2:SB.toList.isEmpty=false:=gr.toList_more (Nat.pos_of_ne_zero (fun e=>hne (by
   have:SB.data.size=0:=e
   obtain⟨d⟩:=SB
   simp only at this
   rw[Array.size_eq_zero_iff.1 this])))
  clear hne
  by_cases hq:SB=CGb
  ·have hq':=toList_same hq
   by_cases hse:H.seed=G.seed
   ·have hse':(H.seed==G.seed)=true:=by simpa using hse
    have HE:Hid (R=true):=by show _=_;rw[HRR.out,decide_eq_true hq,decide_eq_true hse];rfl
    clear hse HRR hq
    go_wp2_with (go_at_call 7;refine CG.mono ?_;clear CG y0 y1 y2 y3 y4 y5 y6 y7 y8 g0 g1 g2 g3 g4;rintro e w5 ⟨rfl,b5⟩;have HB5:Hid _:=HB3.out.trans (b5.mono HB3.out.size);obtain⟨⟨y0,y1,y2,y3,y4⟩,⟨y5,y6,y7,y8⟩,_⟩:=nine_cells (nine_below HQ4.out b5);obtain⟨g0,g1,g2,g3,g4,_⟩:=gr.five_cells (gr.five_below HF5.out b5);clear b5)
    go_ret
    exact⟨by rw[HE.out];rfl,HB5.out⟩
   ·have hse':(H.seed==G.seed)=false:=by simpa using hse
    have HE:Hid (R=false):=by show _=_;rw[HRR.out,decide_eq_false hse];simp
    clear hse HRR hq
    go_wp2_with (go_at_call 7;refine CG.mono ?_;clear CG y0 y1 y2 y3 y4 y5 y6 y7 y8 g0 g1 g2 g3 g4;rintro e w5 ⟨rfl,b5⟩;have HB5:Hid _:=HB3.out.trans (b5.mono HB3.out.size);obtain⟨⟨y0,y1,y2,y3,y4⟩,⟨y5,y6,y7,y8⟩,_⟩:=nine_cells (nine_below HQ4.out b5);obtain⟨g0,g1,g2,g3,g4,_⟩:=gr.five_cells (gr.five_below HF5.out b5);clear b5)
    go_ret
    exact⟨by rw[HE.out];rfl,HB5.out⟩
  ·have hq':=toList_other hq
   have HE:Hid (R=false):=by show _=_;rw[HRR.out,decide_eq_false hq];rfl
   clear HRR hq
   go_wp2_with (go_at_call 7;refine CG.mono ?_;clear CG y0 y1 y2 y3 y4 y5 y6 y7 y8 g0 g1 g2 g3 g4;rintro e w5 ⟨rfl,b5⟩;have HB5:Hid _:=HB3.out.trans (b5.mono HB3.out.size);clear b5)
   go_ret
   exact⟨by rw[HE.out];rfl,HB5.out⟩
 ·have hsh:shownG H=gr.gr0:=by
    unfold shownG
    rw[if_neg hyes]
    rfl
  have hcs:gr.canA (shownG H)=⟨#[]⟩:=by rw[hsh];exact can_gr0
  rw[hcs]
  have HE:Hid (R=false):=by
   show _=_
   rw[←HR.out]
   unfold samB
   cases dr:heapOk H
   ·rfl
   ·have:¬(ordH H).length≤200:=fun e=>hyes ⟨dr,e⟩
    rw[decide_eq_false this]
    simp
  clear hsh hcs hyes CG
  go_wp2_with fail
  go_ret
  exact⟨by rw[HE.out];rfl,HB3.out⟩
end Go.Proofs.YtkiognecebgaiaaGreatDoor.hp
