/- Chapter 14 as the program has it: Grieve -/
import Derived.Test.YtocidankimefpaaGreatDoorGrvI1
import Derived.Test.YtocidankimefpaaGreatDoorShowI9
import Derived.Test.YtocidankimefpaaGreatDoorM24
set_option linter.unusedSimpArgs false
set_option linter.unusedVariables false
set_option maxRecDepth 100000
namespace Go.Proofs.YtocidankimefpaaGreatDoor.gr
open Go.RowKit rows heads
theorem J5 {b:Nat} {A:List Nat} {w w':World} (hb:Below b w w') (hk:KS A w w'):Ch ((List.range w.heap.size).filter (fun k=>decide (b≤k) && !decide (k ∈ A))) w w':=
 ⟨hb.os,hb.tape,hb.output,hb.size,fun k hk1 hn=>by
  by_cases h1:k<b
  ·exact hb.block k h1
  ·by_cases h2:k ∈ A
   ·exact hk k h2
   ·exact absurd (List.mem_filter.2 ⟨List.mem_range.2 hk1,by simp[h2];omega⟩) hn⟩
theorem su {w:World} {base P:Nat} {G:Gr} (H:kZ w base P G):(w.cell? ⟨P,2,none⟩=some (.slice none 0 0)∧G.a7.length=0)∨∃g c,w.cell? ⟨P,2,none⟩=some (.slice (some ⟨g,0,none⟩) G.a7.length c)∧G.a7.length≤c∧c≤maxLen∧base≤g∧g<w.heap.size∧∀i,i<G.a7.length→w.cell? ⟨g,i*2,none⟩=some (.int .i64 (G.a7.getD i bU).1)∧w.cell? ⟨g,i*2+1,none⟩=some (.int .i64 (G.a7.getD i bU).2):=by
 obtain⟨o,r,m,ms,T,O,N,hb⟩:=H;obtain⟨_,_,z2,_,_,_⟩:=ak T;have hR:=cB O.2.2.2.1;have hl:=aM O.2.2.2.1;obtain⟨_,⟨h1,h2⟩|⟨g,c,cur,h1,_⟩⟩:=O.2.2.2.1
 ·exact .inl ⟨by rw[z2,h1],h2⟩
 ·right
  obtain⟨a,c',e,q1,q2,_,hc⟩:=hR;rw[h1]at e;injection e with e1 e2 e3
  subst e1 e3;have hg:=hl g (by rw[h1];simp[blk,Value.ownBlock]);refine⟨g,c,by rw[z2,h1],q1,q2,hg.1,hg.2,fun i hi => ?_⟩
  obtain⟨b,off,e5,_,h3⟩:=hc (by omega);injection e5 with e5
  injection e5 with e5 e6
  subst e5 e6;have:=h3 i hi
  simp only[Nat.zero_add]at this;exact this
theorem BK {w:World} {base P:Nat} {G:Gr} (H:kZ w base P G):∃v ms,(∃a n c,v = .slice a n c)∧w.cell? ⟨P,0,none⟩=some v∧jC w v ms∧Slices ms∧ms.map MO.abs=G.objs:=by
 obtain⟨o,r,m,ms,T,O,N,hb⟩:=H;obtain⟨z0,_,_,_,_,_⟩:=ak T;obtain⟨o1,o2,o3,r1,r2,r3,m1,m2,m3,e1,e2,e3⟩:=bq (fM O);obtain⟨h1,h2⟩:=jU O.2.1;exact⟨o,ms,⟨_,_,_,e1⟩,z0,h1,fun m' hm=>by obtain⟨a,c,e,_⟩:=h2 m' hm;exact⟨_,_,_,e⟩,O.1⟩
theorem Hq {os:List Ob} (h:∀i,i<os.length→(os.getD i obD).id=(i:Int)+1) {q:Nat} (hq:q<os.length):fG os (2,(q:Int)+1)=true∧cV os (2,(q:Int)+1)=q:=by
 have e:atI os ((q:Int)+1)=(q:Int):=uK hq (h q hq) (fun t ht e=>by rw[h t (by omega)]at e;omega);unfold fG cV;simp only[e];simp
theorem G0 {os:List Ob} (h:∀i,i<os.length→(os.getD i obD).id=(i:Int)+1):zK os:=fun i j hij hj=>by rw[h i (by omega),h j hj];omega
end Go.Proofs.YtocidankimefpaaGreatDoor.gr
namespace Go.Proofs.YtocidankimefpaaGreatDoor.hp
open Go.RowKit rows heads words walks region
theorem nz {W W':World} {b i:Nat} (h:W'.heap[b]? = W.heap[b]?):W'.cell? ⟨b,i,none⟩=W.cell? ⟨b,i,none⟩:=by unfold World.cell?; rw[h]
def J6 (k:Nat):Nat:=match k with
 |0=>51
 |1=>52
 |2=>53
 |3=>54
 |4=>55
 |5=>56
 |6=>57
 |7=>58
 |8=>59
 |_=>2000
theorem DR:∀k,k<9→∀j,j<9→J6 j=J6 k→j=k:=by decide
def yJ (s:Nat):Bool:=s==51 || s==52 || s==53 || s==54 || s==55 || s==56 || s==57 || s==58 || s==59
def Jz (H:Hp) (P g1 pq j:Nat) (s f2 c g:Int) (pb mk:Bool) (k:Nat) (t:Value) (_:World):Prop:=
 match k with
 |0=>t = .pointer (some ⟨P,2,none⟩)
 |1=>t = .slice (some ⟨g1,0,none⟩) H.row.length H.row.length
 |2=>t = .pointer (some ⟨pq,7,none⟩)
 |3=>t = .int .i64 (j:Int)
 |4=>t = .pointer (some ⟨pq,0,none⟩)
 |5=>t = .pointer (some ⟨pq,0,none⟩)
 |6=>t=hv s f2 c g pb mk
 |7=>t = .int .i64 (pkd s f2 c g pb mk)
 |8=>t = .pointer (some ⟨g1,j,none⟩)
 |_=>False
def IV (k:Nat):Nat:=77+k
theorem DS:∀k,k<11→∀j,j<11→IV j=IV k→j=k:=fun k _ j _ e=>by unfold IV at e;omega
def iM (s:Nat):Bool:=decide (77≤s)&&decide (s≤87)
def JA (P:Nat) (ma:Option Addr) (mn mc sb so lnn vc q j:Nat) (k:Nat) (t:Value):Prop:=
 match k with
 |0=>t = .pointer (some ⟨P,6,none⟩)
 |1=>t = .slice ma mn mc
 |2=>t = .slice (some ⟨sb,so,none⟩) lnn vc
 |3=>t = .int .i64 (q:Int)
 |4=>t = .pointer (some ⟨sb,so+q*8,none⟩)
 |5=>t = .pointer (some ⟨sb,so+q*8+7,none⟩)
 |6=>t = .int .i64 (j:Int)
 |7=>True
 |8=>True
 |9=>True
 |10=>t = .pointer (some ⟨P,6,none⟩)
 |_=>False
set_option maxHeartbeats 64000000 in
theorem xj {H:Hp} {R:gr.Gr} (hI:HpI H) (hM:dv H=true→gr.fe (grS H (bN H)) R) (w:World) (vr vo vm vs:Value) {pW:Addr} (hG:Gp w pW) (h:eW w vr vo vm vs H) (hs:bI H≤1048576) :
    Calls Tryz.prog 8 #[hpv H vr vo vm vs] w fun e w'=>∃(o' r' m' s':Value),e = .returned (hpv (lH H R) o' r' m' s')∧rR w' w.heap.size o' r' m' s' (lH H R)∧Below w.heap.size w w':=by
 obtain⟨a1,c1,a2,c2,a3,c3,a4,c4,e1,e2,e3,e4⟩:=aK h;subst e1 e2 e3 e4;have B0:Below w.heap.size w (w.alloc (hpb H (.slice a1 H.row.length c1) (.slice a2 H.roots.length c2) (.slice a3 H.a7.length c3) (.slice a4 H.seen.length c4))):=(Below.refl _ _).alloc (Nat.le_refl _) _;have B1:=B0.alloc B0.size (hpb ⟨0,0,[],0,0,[],[],[],0⟩ (.slice none 0 0) (.slice none 0 0) (.slice none 0 0) (.slice none 0 0))
 have HALL:Hid (∃X,X=(w.alloc (hpb H (.slice a1 H.row.length c1) (.slice a2 H.roots.length c2) (.slice a3 H.a7.length c3) (.slice a4 H.seen.length c4))).alloc (hpb ⟨0,0,[],0,0,[],[],[],0⟩ (.slice none 0 0) (.slice none 0 0) (.slice none 0 0) (.slice none 0 0))∧eJ X w.heap.size 26 (.int .i64 H.half) (.int .i64 H.old) (.slice a1 H.row.length c1) (.int .i64 H.side) (.int .i64 H.top) (.slice a2 H.roots.length c2) (.slice a3 H.a7.length c3) (.slice a4 H.seen.length c4) (.int .i64 H.seed)∧eJ X (w.heap.size+1) 26 (.int .i64 0) (.int .i64 0) (.slice none 0 0) (.int .i64 0) (.int .i64 0) (.slice none 0 0) (.slice none 0 0) (.slice none 0 0) (.int .i64 0)∧Below w.heap.size w X∧eW X (.slice a1 H.row.length c1) (.slice a2 H.roots.length c2) (.slice a3 H.a7.length c3) (.slice a4 H.seen.length c4) H):=
  ⟨_,rfl,heap_alloc2_old _ _ _,heap_alloc2_new _ _ _,B1,aD h B1⟩
 have HG:Hid _:=hG;have HS:Hid _:=hs;have HII:Hid _:=hI;clear B0 B1 hs hI hG;cases dr:dv H
 ·have e:lH H R=hp0:=by unfold lH;rw[if_neg (by rw[dr];decide)]
  rw[e];have HDR:Hid _:=dr;clear h hM dr e;go_enter Tryz.func8,Tryz.ntmps8;go_upto_region 1 with fail
  obtain⟨X,hX,T0,T1,BX,AX⟩:=HALL.out;rw[←hX];clear hX HALL;obtain⟨⟨z0,z1,z2,z3,z4⟩,⟨z5,z6,z7,z8⟩,_⟩:=ag T0;have EN:=qC AX HS.out HII.out (HG.out.below BX);unfold Je at EN;have R0:=EN.mono (fun e w' (g:_∧_∧_)=>(⟨g.1 HDR.out,g.2.2⟩:e = .returned (.tuple #[FV,Jd (-1) pW])∧Below _ _ w'));have HT1:Hid _:=T1;have HBX:Hid _:=BX;clear EN T0 T1 BX AX;go_upto_region 2 with (go_at_call 19;refine R0.mono ?_;clear R0 z0 z1 z2 z3 z4 z5 z6 z7 z8;rintro e w1 ⟨rfl,b1⟩;have HB1:Hid _:=b1;clear b1)
  have HB2:Hid _:=HB1.out.alloc HB1.out.size (hob hz s0 s0 s0 s0 0 s0);generalize w1.alloc (hob hz s0 s0 s0 s0 0 s0)=Y at *;have HBY:Hid _:=HBX.out.trans (HB2.out.mono HBX.out.size);have gw:=(HG.out.below HBY.out).wrong;have IW:=er.zE (-1) pW Y;go_upto_region 3 with (go_at_call 20;refine IW.mono ?_;clear IW gw;rintro e w2 ⟨rfl,b2⟩;have HB3:Hid _:=HB2.out.trans (b2.mono HB2.out.size);clear b2)
  have HN1:Hid _:=ai HT1.out HB3.out;have HBE:Hid _:=HBX.out.trans (HB3.out.mono HBX.out.size);obtain⟨⟨y0,y1,y2,y3,y4⟩,⟨y5,y6,y7,y8⟩,yf⟩:=ag HN1.out;have f0:=yf 0;have f1:=yf 1;have f2:=yf 2;have f3:=yf 3;have f4:=yf 4;have f5:=yf 5;have f6:=yf 6;have f7:=yf 7;have f8:=yf 8;clear yf HB2 HB3 HBY HT1 HB1;go_wp2_with fail;exact bodyPost_ret (gK rfl rfl (fB HN1.out _ _ _ _ _ _ _ _ _)) rfl ⟨_,_,_,_,rfl,Js _ _,dF HBE.out (Nat.le_succ _) _ _ _ _ _ _ _ _ _⟩
 ·have HMM:Hid _:=hM dr;have e:lH H R=xU H R:=by unfold lH;rw[if_pos dr]
  rw[e];obtain⟨ps,FP⟩:=GF (a:=a1) dr;have hrt:=(kS dr).1;rw[←pL a1 H]at hrt;obtain⟨hn,hro,_⟩:=jv hrt;have N:=(bQ FP.rt.some').1;have hrl:=FP.rt.len;have hpos:0<H.row.length:=by have:=N.len;have:=N.half1;omega
  obtain⟨b,off,ea,_,_⟩:=bp h.1 hpos;subst ea;have HSB:Hid (∀V a5 c5,eW V (.slice (some ⟨b,off,none⟩) H.row.length c1) (.slice a2 H.roots.length c2) (.slice a3 H.a7.length c3) (.slice a4 H.seen.length c4) H→eF V (.slice a5 (aG (some ⟨b,off,none⟩) H).length c5) (aG (some ⟨b,off,none⟩) H)→Calls Tryz.prog 22 #[hov H (.slice (some ⟨b,off,none⟩) H.row.length c1) (.slice a2 H.roots.length c2) (.slice a3 H.a7.length c3) (.slice a4 H.seen.length c4) (2*H.half) (.slice a5 (aG (some ⟨b,off,none⟩) H).length c5)] V fun e w'=>ShA V H (aG (some ⟨b,off,none⟩) H) e w'):=fun V a5 c5 hV hp=>xA hV (ny hV.1 hn hro HII.out.2.1 hp) FP HII.out hrl (by have:=N.roots;omega) (by have:=N.a7;omega) (lA hro) _
  have HDJ:Hid (∀d ∈ aG (some ⟨b,off,none⟩) H,∃j cn:Nat,d=⟨uS (H.row.getD j 0),uF (H.row.getD j 0),uC (H.row.getD j 0),uH (H.row.getD j 0),uP (H.row.getD j 0),uM (H.row.getD j 0),.slice (some ⟨b,off+j,none⟩) cn cn,(j:Int)⟩∧j<H.row.length):=fun d hd=>by
   obtain⟨j,ed,hc,h6⟩:=lA hro d hd;have qf:=ez hc h6;refine⟨j,(chunk H.row j).toNat,?_,by have:=aR H.row j;omega⟩
   rw[ed];unfold iP;rw[eU b off j _ (by omega)]
  have HGR:Hid (gr.gG (grS H (bN H))):=mT FP.rt;have hGM:(grS H (bN H)).a7.length=H.a7.length:=by simp[grS]
  obtain⟨n1,n2,n3,n4⟩:=yY HMM.out;have HN1:Hid _:=n1;have HN2:Hid (∀i,i<R.objs.length→(R.objs.getD i gr.obD).id=(i:Int)+1):=fun i hi=>n2 i (by omega)
  have hR40:R.a7.length≤40:=(gr.ko (gr.ke HGR.out HMM.out).head).2.2.1;have HND:Hid ((bN H).Nodup):=FP.rt.uk.1;have hle:(bN H).length≤500:=FP.rt.uk.len FP.rt
  have HFS:Hid (∀i,i<(bN H).length→(il R).getD i 0=(R.objs.getD i gr.obD).fmt):=fun i hi=>by
   unfold il;rw[List.getD_eq_getElem?_getD,List.getElem?_map,List.getElem?_eq_getElem (by omega),List.getD_eq_getElem?_getD,List.getElem?_eq_getElem (by omega)];rfl
  have HQ:Hid (∀i,H.a7.length≤i→i<R.a7.length→∃q:Nat,q<(bN H).length∧R.a7.getD i gr.bU=(2,(q:Int)+1)):=fun i h1 h2=>by
   refine n4 _ ?_;rw[List.getD_eq_getElem?_getD,List.getElem?_eq_getElem h2,Option.getD_some];have e:R.a7[i]=(R.a7.drop H.a7.length)[i-H.a7.length]'(by rw[List.length_drop];omega):=by rw[List.getElem_drop];congr 1;omega
   rw[e];exact List.getElem_mem _
  have HK0:Hid _:=vL H R;have HKN:Hid (∀k p:Nat,H.a7.length+k<R.a7.length→R.a7.getD (H.a7.length+k) gr.bU=(2,(p:Int)+1)→jG H R (k+1) = { jG H R k with a7:=(jG H R k).a7++[4*(bN H).getD p 0+4] }):=fun k p h1 h2=>vM h1 h2
  have HKE:Hid (∀k,(rU H R).length≤k→jG H R k=xU H R):=fun k h=>yZ h
  have HML0:Hid _:=qU H R;have HDR:Hid _:=dr;have hrows:=hrl;clear h hM dr e hrt hn hro N hpos FP n1 n2 n4;go_enter Tryz.func8,Tryz.ntmps8;go_upto_region 1 with fail
  obtain⟨X,hX,T0,T1,BX,AX⟩:=HALL.out;rw[←hX];clear hX HALL;obtain⟨⟨z0,z1,z2,z3,z4⟩,⟨z5,z6,z7,z8⟩,_⟩:=ag T0;have EN:=qC AX HS.out HII.out (HG.out.below BX);unfold Je at EN;have R0:=EN.mono (fun e w' (g:_∧_∧_)=>(⟨g.2.1 HDR.out,g.2.2⟩:(∃a5 c5,e = .returned (.tuple #[hov H (.slice (some ⟨b,off,none⟩) H.row.length c1) (.slice a2 H.roots.length c2) (.slice a3 H.a7.length c3) (.slice a4 H.seen.length c4) (2*H.half) (.slice a5 (aG (some ⟨b,off,none⟩) H).length c5),.nilIface])∧fg w' _ (.slice a5 (aG (some ⟨b,off,none⟩) H).length c5) (aG (some ⟨b,off,none⟩) H))∧Below _ _ w'));have HT0:Hid _:=T0;have HT1:Hid _:=T1;have HBX:Hid _:=BX;have HAX:Hid _:=AX;clear EN T0 T1 BX AX;go_upto_region 2 with (go_at_call 19;refine R0.mono ?_;clear R0 z0 z1 z2 z3 z4 z5 z6 z7 z8;rintro e w1 ⟨⟨a5,c5,rfl,O1⟩,b1⟩;have HB1:Hid _:=b1;have HO1:Hid _:=bx O1;clear b1 O1)
  have B2:Below w1.heap.size w1 (w1.alloc (hob H (.slice (some ⟨b,off,none⟩) H.row.length c1) (.slice a2 H.roots.length c2) (.slice a3 H.a7.length c3) (.slice a4 H.seen.length c4) (2*H.half) (.slice a5 (aG (some ⟨b,off,none⟩) H).length c5))):=(Below.refl _ _).alloc (Nat.le_refl _) _;have HQU:Hid _:=heap_alloc_new w1 (hob H (.slice (some ⟨b,off,none⟩) H.row.length c1) (.slice a2 H.roots.length c2) (.slice a3 H.a7.length c3) (.slice a4 H.seen.length c4) (2*H.half) (.slice a5 (aG (some ⟨b,off,none⟩) H).length c5));have HXU:Hid _:=HB1.out.trans (B2.mono HB1.out.size);have HPU:Hid _:=aT HO1.out B2;have hw1:=HB1.out.size;clear B2 HO1 HB1;generalize w1.alloc (hob H (.slice (some ⟨b,off,none⟩) H.row.length c1) (.slice a2 H.roots.length c2) (.slice a3 H.a7.length c3) (.slice a4 H.seen.length c4) (2*H.half) (.slice a5 (aG (some ⟨b,off,none⟩) H).length c5))=U at *;have HHU:Hid _:=aD HAX.out HXU.out;have HBU:Hid _:=HBX.out.trans (HXU.out.mono HBX.out.size);have gw:=(HG.out.below HBU.out).wrong;have IN:=er.Hc pW U;have CP:=rT HHU.out HS.out;obtain⟨⟨z0,z1,z2,z3,z4⟩,⟨z5,z6,z7,z8⟩,_⟩:=ag (ai HT0.out HXU.out);have hXs:=lt_of_block HT1.out;have hU1:=lt_of_block HQU.out;clear HAX HG;generalize hDS:aG (some ⟨b,off,none⟩) H=ds at *;clear hDS
  go_upto_region 5 with (first
   |(go_at_call 20;refine IN.mono ?_;clear IN gw;rintro e w2 ⟨rfl,hw2⟩;rw[hw2];clear hw2 w2)
   |(go_at_call 21;refine CP.mono ?_;clear CP z0 z1 z2 z3 z4 z5 z6 z7 z8;rintro e w2 ⟨g1,g2,g3,g4,rfl,O2,b2⟩;have HO2:Hid _:=O2;have HB2:Hid _:=b2;clear O2 b2))
  have SN:=Fz HO2.out;have BV:Below w2.heap.size w2 (w2.alloc (hpb H (.slice (some ⟨g1,0,none⟩) H.row.length H.row.length) (.slice (some ⟨g2,0,none⟩) H.roots.length H.roots.length) (.slice (some ⟨g3,0,none⟩) H.a7.length H.a7.length) (.slice (some ⟨g4,0,none⟩) H.seen.length H.seen.length))):=(Below.refl _ _).alloc (Nat.le_refl _) _;have HUV:Hid _:=HB2.out.trans (BV.mono HB2.out.size);have HGL:Hid _:=iH HO2.out;have q1:=(HGL.out g1 (dV.1 _ (by rw[cN];simp))).1;have q2:=(HGL.out g2 (dV.2.1 _ (by rw[cN];simp))).1;have q3:=(HGL.out g3 (dV.2.2.1 _ (by rw[cN];simp))).1;have hU2:=HB2.out.size;have HDS:Hid _:=SN.1;have HSN:Hid _:=SN.2;clear SN BV HO2 HGL HB2;generalize w2.alloc (hpb H (.slice (some ⟨g1,0,none⟩) H.row.length H.row.length) (.slice (some ⟨g2,0,none⟩) H.roots.length H.roots.length) (.slice (some ⟨g3,0,none⟩) H.a7.length H.a7.length) (.slice (some ⟨g4,0,none⟩) H.seen.length H.seen.length))=V at *;generalize w2.heap.size=P at *;have SB:=HSB.out V a5 c5 (aD HHU.out HUV.out) (aT HPU.out HUV.out);obtain⟨⟨m0,m1,m2,m3,m4,m5,m6,m7,m8,m9,m10⟩,_⟩:=aY ((HUV.out.block _ hU1).trans HQU.out);have hPd:=HDS.out.lt;clear HSB HPU HHU;go_upto_region 6 with (go_at_call 22;refine SB.mono ?_;clear SB m0 m1 m2 m3 m4 m5 m6 m7 m8 m9 m10;rintro e w3 ⟨o,r,m,ms,va,vn,vc,es,rfl,og,op,hpl,hin,hap,b3⟩;obtain⟨k1,m1',d1,k2,m2',d2,k3,m3',d3,eo,er,em⟩:=gr.bq (gr.fM og);subst eo er em;have HOG:Hid _:=og;have HOP:Hid _:=op;have HPL:Hid _:=hpl;have HIN:Hid _:=hin;have HAP:Hid _:=hap;have HB3:Hid _:=b3;clear og op hpl hin hap b3)
  have en3:m3'=H.a7.length:=by
   obtain⟨_,_,e2,_⟩:=gr.cB HOG.out.2.2.2.1;injection e2 with _ e2 _
   omega
  subst en3
  have evn:vn=es.length:=by
   obtain⟨_,_,e2⟩:=aQ (bx HOP.out);injection e2
  subst evn
  have HEL:Hid (es.length=(bN H).length):=by
   show _=_
   rw[←HPL.out,List.length_map]
  have hel:es.length≤500:=by rw[HEL.out];exact hle
  have HES:Hid (∀y,y<es.length→∃j cn:Nat,es.getD y pdD=⟨uS (H.row.getD j 0),uF (H.row.getD j 0),uC (H.row.getD j 0),uH (H.row.getD j 0),uP (H.row.getD j 0),uM (H.row.getD j 0),.slice (some ⟨b,off+j,none⟩) cn cn,(j:Int)⟩∧(bN H).getD y 0=(j:Int)∧j<H.row.length):=fun y hy=>by
   obtain⟨j,cn,e1,e2⟩:=HDJ.out _ (HIN.out _ (bj hy));refine⟨j,cn,e1,?_,e2⟩
   rw[←HPL.out,C8 hy,e1]
  generalize hGS:grS H (bN H)=GS at *;generalize hOL:bN H=OL at *;clear hGS hOL hGM;have B4:Below w3.heap.size w3 (w3.alloc (gr.gb (.slice k1 m1' d1) (.slice k2 m2' d2) (.slice k3 H.a7.length d3) GS.next GS.seed)):=(Below.refl _ _).alloc (Nat.le_refl _) _;have T4:=gr.fX w3 50 (.slice k1 m1' d1) (.slice k2 m2' d2) (.slice k3 H.a7.length d3) (.int .i64 GS.next) (.int .i64 GS.seed);have HE4:Hid (gr.cU (w3.alloc (gr.gb (.slice k1 m1' d1) (.slice k2 m2' d2) (.slice k3 H.a7.length d3) GS.next GS.seed)) V.heap.size w3.heap.size GS (blk (.slice va es.length vc))):=⟨_,_,_,ms,T4,gr.cI HOG.out B4,fun e=>by have:=(gr.dz HOG.out _ e).2;omega,HB3.out.size,fun k hk=>⟨fun e=>by have:=(aM HOP.out k hk).2;omega,fun e=>HAP.out k e hk⟩⟩;have HOP4:Hid _:=cg HOP.out B4;have HB4:Hid _:=HB3.out.trans (B4.mono HB3.out.size);obtain⟨t0,t1,t2,t3,t4,_⟩:=gr.ak T4;have hw3:=HB3.out.size;clear B4 T4 HOG HB3 HOP;generalize w3.alloc (gr.gb (.slice k1 m1' d1) (.slice k2 m2' d2) (.slice k3 H.a7.length d3) GS.next GS.seed)=Y0 at *;generalize w3.heap.size=PG at *;have LM:=gr.Av HE4.out (fun k hk=>(aM HOP4.out k hk).2) HGR.out HMM.out;go_upto_region 8 with (go_at_call 23;refine LM.mono ?_;clear LM;rintro e w4 ⟨rfl,h4,b4,k4⟩;have HG4:Hid _:=h4;have HP4:Hid (fg w4 V.heap.size (.slice va es.length vc) es):=aE HOP4.out (GO (gr.J5 b4 k4)) (fun k hk e=>by have e2:=(List.mem_filter.1 e).2;simp[hk]at e2);have HB5:Hid _:=HB4.out.trans b4;clear h4 b4 k4)
  have HS4:Hid _:=HSN.out.below HB5.out;have HUW:Hid (Below U.heap.size U w4):=HUV.out.trans (HB5.out.mono HUV.out.size);have hV4:=HB5.out.size;have hVU:=HUV.out.size;clear HSN HB4 HE4 t0 t1 t2 t3 t4 HB5 HOP4 HUV;go_wp2_with fail;go_loopw [9,10,37] (fun _ _ v wr=>∃y:Nat,y≤es.length∧v = .int .i64 (y:Int)∧SS V wr P U.heap.size g1 g2 g3 H.row.length H.roots.length H.a7.length H.row.length H.roots.length H.a7.length (.slice (some ⟨g4,0,none⟩) H.seen.length H.seen.length) (.slice none 0 0) H [] (n9 H OL (il R) y) H.roots H.a7∧Ch [g1] w4 wr) (fun _ _ v _=>es.length-(intOf v).toNat);case atStart=>exact⟨0,Nat.zero_le _,rfl,by rw[wq];exact HS4.out,Ch.refl _ _⟩
  case round=>
   obtain⟨y,hy,rfl,hS,hC⟩:=hrel;clear HS4;have HSW:Hid _:=hS;have HCW:Hid _:=hC;by_cases hlt:y<es.length
   ·have hlt':(y:Int)<(es.length:Int):=by omega
    obtain⟨j,cn,hd,hoj,hjl⟩:=HES.out y hlt;have hP':eF wr (.slice va es.length vc) es:=bx (base:=V.heap.size) (aE HP4.out hC (fun k hk e=>by have:=(aM HP4.out k hk).1;have e':k=g1:=(by simpa using e);omega));obtain⟨_,_,ev,_,_,_,hcs⟩:=hP';injection ev with ev1 _ ev3
    subst ev1 ev3;obtain⟨mg,mo,ev4,hmg,hcell⟩:=hcs (by omega);subst ev4;have hcd:=hcell y hlt;rw[hd]at hcd;obtain⟨p0,p1,p2,p3,p4,p5,p6,p7⟩:=hcd;simp only at p0 p1 p2 p3 p4 p5 p6 p7;have hyo:y<OL.length:=by rw[←HEL.out];exact hlt
    have HNX:Hid _:=rB (fs:=il R) HND.out hyo hoj hjl;have HFF:Hid _:=HFS.out y hyo;have HHD:Hid (∀f,hdW (H.row.getD j 0) f=pkd (uS (H.row.getD j 0)) f (uC (H.row.getD j 0)) (uH (H.row.getD j 0)) (uP (H.row.getD j 0)) (uM (H.row.getD j 0))):=fun _=>rfl
    have HGW:Hid _:=gr.qV HG4.out (chG hC) (fun k hk=>by have e':k=g1:=(by simpa using hk);omega);clear hS hC hoj hd hcs hcell;generalize H.row.getD j 0=rj at *;generalize uS rj=s at *;generalize uF rj=f at *;generalize uC rj=c at *;generalize uH rj=g at *;generalize uP rj=pb at *;generalize uM rj=mk at *;go_upto_region 11 with fail
    clear p0 p1 p2 p3 p4 p5 p6 p7;have BY:Below wr.heap.size wr (wr.alloc (pdb ⟨s,f,c,g,pb,mk,.slice (some ⟨b,off+j,none⟩) cn cn,(j:Int)⟩)):=(Below.refl _ _).alloc (Nat.le_refl _) _;have QY:=heap_alloc_new wr (pdb ⟨s,f,c,g,pb,mk,.slice (some ⟨b,off+j,none⟩) cn cn,(j:Int)⟩);have HBY:Hid _:=BY;have HQY:Hid _:=QY;obtain⟨⟨p0,p1,p2,p3,p4,p5,p6,p7⟩,pf0,pf1,_⟩:=bk QY;simp only at p0 p1 p2 p3 p4 p5 p6 p7;obtain⟨q0,c0,y0,y1,hq0⟩:=gr.nT (gr.eZ (gr.cU.held HGW.out) BY) (i:=y) (by rw[HN1.out];exact hyo);rw[HN1.out]at y0;generalize hf2:(R.objs.getD y gr.obD).fmt=f2 at *;clear hf2 BY QY;generalize wr.alloc (pdb ⟨s,f,c,g,pb,mk,.slice (some ⟨b,off+j,none⟩) cn cn,(j:Int)⟩)=Y at *;have hq0Y:q0<Y.heap.size:=World.block_lt_of_cell? _ _ y1
    have HST:Hid (∀W,SS V W P U.heap.size g1 g2 g3 H.row.length H.roots.length H.a7.length H.row.length H.roots.length H.a7.length (.slice (some ⟨g4,0,none⟩) H.seen.length H.seen.length) (.slice none 0 0) H [] (n9 H OL (il R) y) H.roots H.a7→SS V (W.setCell ⟨g1,j,none⟩ (.int .i64 (pkd s f2 c g pb mk))) P U.heap.size g1 g2 g3 H.row.length H.roots.length H.a7.length H.row.length H.roots.length H.a7.length (.slice (some ⟨g4,0,none⟩) H.seen.length H.seen.length) (.slice none 0 0) H [] (n9 H OL (il R) (y+1)) H.roots H.a7):=fun W h=>by
     have e1:=HNX.out;rw[HHD.out,HFF.out]at e1;rw[←e1];exact h.setRow HDS.out j _
    have HBV:Hid (Below wr.heap.size wr (Y.setCell ⟨wr.heap.size,1,none⟩ (.int .i64 f2))):=HBY.out.setCell (p:=⟨wr.heap.size,1,none⟩) (Nat.le_refl _) _;have HPQ:Hid ((Y.setCell ⟨wr.heap.size,1,none⟩ (.int .i64 f2)).heap[wr.heap.size]? = some (pdb ⟨s,f2,c,g,pb,mk,.slice (some ⟨b,off+j,none⟩) cn cn,(j:Int)⟩)):=(bL HQY.out 1 _).trans (by simp)
    have hpne:¬wr.heap.size=PG:=by
     have:=gr.qW (gr.cU.held HGW.out)
     obtain⟨_,_,_,_,h1,_⟩:=this;omega
    have hyo':(y:Int)<(OL.length:Int):=by omega
    clear HNX HHD HFF;go_upto_region 12 with fail
    clear p0 p1 p2 p3 p4 p5 p6 p7 pf0 pf1 y0 y1;have HS9:Hid _:=HSW.out.below HBV.out;have HC9:Hid _:=HCW.out.trans (bu HBV.out);generalize Y.setCell ⟨wr.heap.size,1,none⟩ (.int .i64 f2)=V9 at *;have hpq:wr.heap.size<V9.heap.size:=lt_of_block HPQ.out;clear HSW HCW HBV HQY HBY HGW;generalize hA0:(Act.mk _ [])=A0;have e5:A0.tmps.getD 5 undef = .pointer (some ⟨P,0,none⟩):=by rw[←hA0];rfl
    have e10:A0.tmps.getD 10 undef = .pointer (some ⟨wr.heap.size,0,none⟩):=by rw[←hA0];rfl
    have sz:A0.tmps.size=90:=by rw[←hA0];rfl
    refine jS (by kernel_rfl) yJ (by simp) ?_ 9 rfl J6 DR (Jz H P g1 wr.heap.size j s f2 c g pb mk) ?_ ?_ ?_ ?_
    ·intro k o ho;have hk:k<10:=(Array.getElem?_eq_some_iff.1 ho).1;rcases (show k=0∨k=1∨k=2∨k=3∨k=4∨k=5∨k=6∨k=7∨k=8∨k=9 by omega) with rfl|rfl|rfl|rfl|rfl|rfl|rfl|rfl|rfl|rfl<;>(obtain rfl:=Option.some.inj ho;simp)
    ·intro k t W W' hb h;match k,h with
     |0,h=>exact h
     |1,h=>exact h
     |2,h=>exact h
     |3,h=>exact h
     |4,h=>exact h
     |5,h=>exact h
     |6,h=>exact h
     |7,h=>exact h
     |8,h=>exact h
     |_+9,h=>exact h.elim
    ·intro o ho kk hkk;obtain rfl:=Option.some.inj ho;rcases (show kk=0∨kk=1∨kk=2∨kk=3∨kk=4∨kk=5∨kk=6∨kk=7∨kk=8 by omega) with rfl|rfl|rfl|rfl|rfl|rfl|rfl|rfl|rfl<;>simp[Region.binds]
    ·intro k o u W hk ho hB hF;have ev:∀s,yJ s=true→s<90→(ovr yJ A0 u).tmps[s]?.getD undef=u s:=fun s h1 h2=>(af _ _).symm.trans (aS h1 (by omega))
     have o5:(ovr yJ A0 u).tmps[5]?.getD undef=_:=(af _ _).symm.trans ((ah (D:=yJ) (a0:=A0) (u:=u) (s:=5) rfl (by omega)).trans e5);have o10:(ovr yJ A0 u).tmps[10]?.getD undef=_:=(af _ _).symm.trans ((ah (D:=yJ) (a0:=A0) (u:=u) (s:=10) rfl (by omega)).trans e10);have SW:=HS9.out.below hB;obtain⟨⟨_,_,z2,_,_⟩,_,_⟩:=ag SW.nine;obtain⟨⟨p0,p1,p2,p3,p4,p5,p6,p7⟩,_⟩:=bk ((hB.block _ hpq).trans HPQ.out);simp only at p0 p1 p2 p3 p4 p5 p6 p7;clear SW;rcases (show k=0∨k=1∨k=2∨k=3∨k=4∨k=5∨k=6∨k=7∨k=8 by omega) with rfl|rfl|rfl|rfl|rfl|rfl|rfl|rfl|rfl
     all_goals obtain rfl:=Option.some.inj ho
     ·refine fI (v:=.pointer (some ⟨P,2,none⟩)) rfl rfl ?_ rfl;simp only[execOp];go_simp;try go_num
      try (rw[IntKind.wrap_i64];omega)
     ·have x0:=(ev 51 rfl (by decide)).trans (hF 0 (by decide) (by simp[Region.binds]));refine fI (v:=.slice (some ⟨g1,0,none⟩) H.row.length H.row.length) rfl rfl ?_ rfl;simp only[execOp];go_simp;try go_num
      try (rw[IntKind.wrap_i64];omega)
     ·refine fI (v:=.pointer (some ⟨wr.heap.size,7,none⟩)) rfl rfl ?_ rfl;simp only[execOp];go_simp;try go_num
      try (rw[IntKind.wrap_i64];omega)
     ·have x2:=(ev 53 rfl (by decide)).trans (hF 2 (by decide) (by simp[Region.binds]));refine fI (v:=.int .i64 (j:Int)) rfl rfl ?_ rfl;simp only[execOp];go_simp;try go_num
      try (rw[IntKind.wrap_i64];omega)
     ·refine fI (v:=.pointer (some ⟨wr.heap.size,0,none⟩)) rfl rfl ?_ rfl;simp only[execOp];go_simp;try go_num
      try (rw[IntKind.wrap_i64];omega)
     ·have x4:=(ev 55 rfl (by decide)).trans (hF 4 (by decide) (by simp[Region.binds]));refine fI (v:=.pointer (some ⟨wr.heap.size,0,none⟩)) rfl rfl ?_ rfl;simp only[execOp];go_simp;try go_num
      try (rw[IntKind.wrap_i64];omega)
     ·have x5:=(ev 56 rfl (by decide)).trans (hF 5 (by decide) (by simp[Region.binds]));refine fI (v:=hv s f2 c g pb mk) rfl rfl ?_ rfl;simp only[execOp];go_simp;try go_num
      try (rw[IntKind.wrap_i64];omega)
     ·have x6:=(ev 57 rfl (by decide)).trans (hF 6 (by decide) (by simp[Region.binds]));refine Fp (f:=24) (args:=#[hv s f2 c g pb mk]) rfl rfl ?_ ((nh s f2 c g pb mk W).mono ?_)
      ·simp only[execOp];go_simp
      ·rintro e w' ⟨rfl,rfl⟩;exact⟨_,rfl,((Below.refl _ _).alloc (Nat.le_refl _) _).alloc (by simp) _,rfl⟩
     ·have x1:=(ev 52 rfl (by decide)).trans (hF 1 (by decide) (by simp[Region.binds]));have x3:=(ev 54 rfl (by decide)).trans (hF 3 (by decide) (by simp[Region.binds]));refine fI (v:=.pointer (some ⟨g1,j,none⟩)) rfl rfl ?_ rfl;simp only[execOp];go_simp;try go_num
      try (rw[IntKind.wrap_i64];omega)
    ·intro o u W ho hB hF;obtain rfl:=Option.some.inj ho;have ev:∀s,yJ s=true→s<90→(ovr yJ A0 u).tmps[s]?.getD undef=u s:=fun s h1 h2=>(af _ _).symm.trans (aS h1 (by omega))
     have o5:(ovr yJ A0 u).tmps[5]?.getD undef=_:=(af _ _).symm.trans ((ah (D:=yJ) (a0:=A0) (u:=u) (s:=5) rfl (by omega)).trans e5);have o10:(ovr yJ A0 u).tmps[10]?.getD undef=_:=(af _ _).symm.trans ((ah (D:=yJ) (a0:=A0) (u:=u) (s:=10) rfl (by omega)).trans e10);have SW:=HS9.out.below hB;obtain⟨⟨_,_,z2,_,_⟩,_,_⟩:=ag SW.nine;obtain⟨⟨p0,p1,p2,p3,p4,p5,p6,p7⟩,_⟩:=bk ((hB.block _ hpq).trans HPQ.out);simp only at p0 p1 p2 p3 p4 p5 p6 p7;clear SW;obtain⟨cw,fw⟩:=(HS9.out.below hB).Df (q:=j) (by rw[(HS9.out.below hB).lr];omega);have x7:=(ev 58 rfl (by decide)).trans (hF 7 (by decide));have x8:=(ev 59 rfl (by decide)).trans (hF 8 (by decide));refine mj (W':=W.setCell ⟨g1,j,none⟩ (.int .i64 (pkd s f2 c g pb mk))) ?_ ?_ ?_
     ·exact rfl
     ·simp only[execOp];go_simp
     ·have HSW:Hid _:=HST.out W (HS9.out.below hB);have HCW:Hid _:=(HC9.out.trans (bu hB)).trans (aH W g1 j (.int .i64 (pkd s f2 c g pb mk)));clear z2 cw fw hF x7 x8 ev o5 o10 e5 e10 sz p0 p1 p2 p3 p4 p5 p6 p7;subst hA0;simp[ovr,yJ,List.range,List.range.loop];go_wp2;exact⟨⟨y+1,by omega,by go_num,HSW.out,HCW.out⟩,by simp[intOf];omega⟩
   ·have hlt':¬(y:Int)<(es.length:Int):=by omega
    have e:y=es.length:=by omega
    subst e;obtain⟨W0,hW0⟩:∃W0,W0=wr:=⟨_,rfl⟩
    subst hW0
    have HH0:Hid (HH W0 P U.heap.size (.slice (some ⟨g1,0,none⟩) H.row.length H.row.length) (.slice (some ⟨g2,0,none⟩) H.roots.length H.roots.length) (.slice (some ⟨g3,0,none⟩) H.a7.length H.a7.length) (.slice (some ⟨g4,0,none⟩) H.seen.length H.seen.length) (jG H R 0)):=by
     show HH _ _ _ _ _ _ _ _
     rw[HK0.out,←HEL.out];exact HH.Ik HSW.out HDS.out
    have HGW:Hid _:=gr.qV HG4.out (chG hC) (fun k hk=>by have e':k=g1:=(by simpa using hk);omega);have HPW:Hid (fg W0 V.heap.size (.slice va es.length vc) es):=aE HP4.out hC (fun k hk e=>by have:=(aM HP4.out k hk).1;have e':k=g1:=(by simpa using e);omega);have HUW0:Hid (Below U.heap.size U W0):=HUW.out.trans (bn hC (by omega) (fun k hk=>by have e':k=g1:=(by simpa using hk);omega));have hW0:=hC.size;have hPne:P≠g3:=HDS.out.pm;clear hS hC hlt hlt' hy HSW HCW HG4 HP4
    obtain⟨hPGb,hPGw⟩:V.heap.size≤PG∧PG<W0.heap.size:=by
     obtain⟨_,_,_,h1,h2,_⟩:=gr.qW (gr.cU.held HGW.out);exact⟨h1,h2⟩
    have hXU:=HXU.out.size;have hBXs:=HBX.out.size;have hUW:=HUW0.out.size;by_cases hno:R.a7.length=H.a7.length
    ·have HE:Hid (jG H R 0=xU H R):=HKE.out 0 (by rw[HML0.out];omega);have HNO:Hid _:=hno;clear hno;rcases gr.su (gr.cU.held HGW.out) with ⟨y2,hz⟩|⟨qb,qc,y2,hqc1,hqc2,hqb,hqw,hqc⟩
     ·have hm1:(H.a7.length:Int)=0:=by have:=HNO.out;omega
      clear hz;go_wp2_with fail;go_loopw [12,13,14,66] (fun _ _ _ v wz=>v = .int .i64 0∧∃v0,v0=v∧jo W0 wz P (.slice (some ⟨g3,0,none⟩) H.a7.length H.a7.length) (.slice (some ⟨g3,0,none⟩) H.a7.length H.a7.length)∧HH wz P U.heap.size (.slice (some ⟨g1,0,none⟩) H.row.length H.row.length) (.slice (some ⟨g2,0,none⟩) H.roots.length H.roots.length) (.slice (some ⟨g3,0,none⟩) H.a7.length H.a7.length) (.slice (some ⟨g4,0,none⟩) H.seen.length H.seen.length) (jG H R 0)) (fun _ _ _ _ _=>0);case atStart=>exact⟨rfl,_,rfl,jo.refl _ _ _,HH0.out⟩
      case round=>
       obtain⟨rfl,_,_,hMv,hH⟩:=hrel;have HMV:Hid _:=hMv;have HHH:Hid _:=hH;clear hMv hH HH0
       have HHT:Hid (HH wr P U.heap.size (.slice (some ⟨g1,0,none⟩) H.row.length H.row.length) (.slice (some ⟨g2,0,none⟩) H.roots.length H.roots.length) (.slice (some ⟨g3,0,none⟩) H.a7.length H.a7.length) (.slice (some ⟨g4,0,none⟩) H.seen.length H.seen.length) (xU H R)):=by
        show HH _ _ _ _ _ _ _ _
        rw[←HE.out];exact HHH.out
       have HMT:Hid (jo W0 wr P (.slice (some ⟨g3,0,none⟩) H.a7.length H.a7.length) (.slice (some ⟨g3,0,none⟩) H.a7.length H.a7.length)):=HMV.out;have HB6:Hid _:=(HBU.out.trans (HUW0.out.mono HBU.out.size)).trans (bn HMT.out.ch (by omega) (fun k hk=>by rw[cN]at hk;have e':k=P∨k=g3:=(by simpa using hk);omega));have HN6:Hid _:=cx (ai HT1.out (HXU.out.trans (HUW0.out.mono HXU.out.size))) HMT.out.ch (by rw[cN];simp;omega);have NN:eJ wr P 26 (.int .i64 H.half) (.int .i64 H.old) (.slice (some ⟨g1,0,none⟩) H.row.length H.row.length) (.int .i64 H.side) (.int .i64 H.top) (.slice (some ⟨g2,0,none⟩) H.roots.length H.roots.length) (.slice (some ⟨g3,0,none⟩) H.a7.length H.a7.length) (.slice (some ⟨g4,0,none⟩) H.seen.length H.seen.length) (.int .i64 H.seed):=HHT.out.nine;obtain⟨⟨z0,z1,z2,z3,z4⟩,⟨z5,z6,z7,z8⟩,_⟩:=ag NN;obtain⟨⟨y0,y1,y2,y3,y4⟩,⟨y5,y6,y7,y8⟩,yf⟩:=ag HN6.out;have f0:=yf 0;have f1:=yf 1;have f2:=yf 2;have f3:=yf 3;have f4:=yf 4;have f5:=yf 5;have f6:=yf 6;have f7:=yf 7;have f8:=yf 8;clear yf NN;go_wp2_with fail;refine bodyPost_ret (gK rfl rfl (fB HN6.out _ _ _ _ _ _ _ _ _)) rfl ⟨_,_,_,_,rfl,?_,dF HB6.out (Nat.le_succ _) _ _ _ _ _ _ _ _ _⟩;exact qF (lC HHT.out.own (c9 _ _ _ _ _ _ _ _ _) (fun k hk e=>by have:=(iH HHT.out.own k hk).1;have e':k=w.heap.size+1:=(by simpa using e);omega)) (by omega)
     ·rw[HNO.out]at y2 hqc1;clear hqc;go_wp2_with fail
      all_goals
       go_loopw [12,13,14,66] (fun _ _ _ v wz=>v = .int .i64 0∧∃v0,v0=v∧jo W0 wz P (.slice (some ⟨g3,0,none⟩) H.a7.length H.a7.length) (.slice (some ⟨g3,0,none⟩) H.a7.length H.a7.length)∧HH wz P U.heap.size (.slice (some ⟨g1,0,none⟩) H.row.length H.row.length) (.slice (some ⟨g2,0,none⟩) H.roots.length H.roots.length) (.slice (some ⟨g3,0,none⟩) H.a7.length H.a7.length) (.slice (some ⟨g4,0,none⟩) H.seen.length H.seen.length) (jG H R 0)) (fun _ _ _ _ _=>0);case atStart=>exact⟨rfl,_,rfl,jo.refl _ _ _,HH0.out⟩
       case round=>
        obtain⟨rfl,_,_,hMv,hH⟩:=hrel;have HMV:Hid _:=hMv;have HHH:Hid _:=hH;clear hMv hH HH0
        have HHT:Hid (HH wr P U.heap.size (.slice (some ⟨g1,0,none⟩) H.row.length H.row.length) (.slice (some ⟨g2,0,none⟩) H.roots.length H.roots.length) (.slice (some ⟨g3,0,none⟩) H.a7.length H.a7.length) (.slice (some ⟨g4,0,none⟩) H.seen.length H.seen.length) (xU H R)):=by
         show HH _ _ _ _ _ _ _ _
         rw[←HE.out];exact HHH.out
        have HMT:Hid (jo W0 wr P (.slice (some ⟨g3,0,none⟩) H.a7.length H.a7.length) (.slice (some ⟨g3,0,none⟩) H.a7.length H.a7.length)):=HMV.out;have HB6:Hid _:=(HBU.out.trans (HUW0.out.mono HBU.out.size)).trans (bn HMT.out.ch (by omega) (fun k hk=>by rw[cN]at hk;have e':k=P∨k=g3:=(by simpa using hk);omega));have HN6:Hid _:=cx (ai HT1.out (HXU.out.trans (HUW0.out.mono HXU.out.size))) HMT.out.ch (by rw[cN];simp;omega);have NN:eJ wr P 26 (.int .i64 H.half) (.int .i64 H.old) (.slice (some ⟨g1,0,none⟩) H.row.length H.row.length) (.int .i64 H.side) (.int .i64 H.top) (.slice (some ⟨g2,0,none⟩) H.roots.length H.roots.length) (.slice (some ⟨g3,0,none⟩) H.a7.length H.a7.length) (.slice (some ⟨g4,0,none⟩) H.seen.length H.seen.length) (.int .i64 H.seed):=HHT.out.nine;obtain⟨⟨z0,z1,z2,z3,z4⟩,⟨z5,z6,z7,z8⟩,_⟩:=ag NN;obtain⟨⟨y0,y1,y2,y3,y4⟩,⟨y5,y6,y7,y8⟩,yf⟩:=ag HN6.out;have f0:=yf 0;have f1:=yf 1;have f2:=yf 2;have f3:=yf 3;have f4:=yf 4;have f5:=yf 5;have f6:=yf 6;have f7:=yf 7;have f8:=yf 8;clear yf NN;go_wp2_with fail;refine bodyPost_ret (gK rfl rfl (fB HN6.out _ _ _ _ _ _ _ _ _)) rfl ⟨_,_,_,_,rfl,?_,dF HB6.out (Nat.le_succ _) _ _ _ _ _ _ _ _ _⟩;exact qF (lC HHT.out.own (c9 _ _ _ _ _ _ _ _ _) (fun k hk e=>by have:=(iH HHT.out.own k hk).1;have e':k=w.heap.size+1:=(by simpa using e);omega)) (by omega)
    ·rcases gr.su (gr.cU.held HGW.out) with ⟨y2,hz⟩|⟨qb,qc,y2,hqc1,hqc2,hqb,hqw,hqc⟩
     ·omega
     have HQC:Hid _:=hqc;have HY2:Hid _:=y2;have hn3:(H.a7.length:Int)≤(R.a7.length:Int):=by omega
     have hne:¬qc=H.a7.length:=by omega
     clear hqc hno;go_wp2_with fail;go_loopw [12,13,14,66] (fun _ _ _ v wz=>∃y:Nat,H.a7.length+y≤R.a7.length∧v = .int .i64 (y:Int)∧∃vm,HH wz P U.heap.size (.slice (some ⟨g1,0,none⟩) H.row.length H.row.length) (.slice (some ⟨g2,0,none⟩) H.roots.length H.roots.length) vm (.slice (some ⟨g4,0,none⟩) H.seen.length H.seen.length) (jG H R y)∧jo W0 wz P (.slice (some ⟨g3,0,none⟩) H.a7.length H.a7.length) vm) (fun _ _ _ v _=>R.a7.length-H.a7.length-(intOf v).toNat);case atStart=>exact⟨0,by omega,rfl,_,HH0.out,jo.refl _ _ _⟩
     case round=>
      obtain⟨y,hyR,rfl,vm,hH,hMv⟩:=hrel;clear HH0 y2;obtain⟨ma,mn,mc,rfl⟩:=bl (aj hH.own.1.2.2.1);have HHH:Hid _:=hH;have HMV:Hid _:=hMv;have KB0:∀b,b<W0.heap.size→b≠P→b≠g3→wr.heap[b]? = W0.heap[b]? := fun b h1 h2 h3=>hMv.ch.block b h1 (by rw[cN];simp;omega)
      have hsz:=hMv.ch.size;by_cases hlt:H.a7.length+y<R.a7.length
      case neg=>
       have hlt':¬(y:Int)<((R.a7.length-H.a7.length:Nat):Int):=by omega
       have HE:Hid (jG H R y=xU H R):=HKE.out y (by rw[HML0.out];omega);clear hH hMv KB0
       have HHT:Hid (HH wr P U.heap.size (.slice (some ⟨g1,0,none⟩) H.row.length H.row.length) (.slice (some ⟨g2,0,none⟩) H.roots.length H.roots.length) (.slice ma mn mc) (.slice (some ⟨g4,0,none⟩) H.seen.length H.seen.length) (xU H R)):=by
        show HH _ _ _ _ _ _ _ _
        rw[←HE.out];exact HHH.out
       have HMT:Hid (jo W0 wr P (.slice (some ⟨g3,0,none⟩) H.a7.length H.a7.length) (.slice ma mn mc)):=HMV.out;have HB6:Hid _:=(HBU.out.trans (HUW0.out.mono HBU.out.size)).trans (bn HMT.out.ch (by omega) (fun k hk=>by rw[cN]at hk;have e':k=P∨k=g3:=(by simpa using hk);omega));have HN6:Hid _:=cx (ai HT1.out (HXU.out.trans (HUW0.out.mono HXU.out.size))) HMT.out.ch (by rw[cN];simp;omega);have NN:eJ wr P 26 (.int .i64 H.half) (.int .i64 H.old) (.slice (some ⟨g1,0,none⟩) H.row.length H.row.length) (.int .i64 H.side) (.int .i64 H.top) (.slice (some ⟨g2,0,none⟩) H.roots.length H.roots.length) (.slice ma mn mc) (.slice (some ⟨g4,0,none⟩) H.seen.length H.seen.length) (.int .i64 H.seed):=HHT.out.nine;obtain⟨⟨z0,z1,z2,z3,z4⟩,⟨z5,z6,z7,z8⟩,_⟩:=ag NN;obtain⟨⟨y0,y1,y2,y3,y4⟩,⟨y5,y6,y7,y8⟩,yf⟩:=ag HN6.out;have f0:=yf 0;have f1:=yf 1;have f2:=yf 2;have f3:=yf 3;have f4:=yf 4;have f5:=yf 5;have f6:=yf 6;have f7:=yf 7;have f8:=yf 8;clear yf NN;go_wp2_with fail;refine bodyPost_ret (gK rfl rfl (fB HN6.out _ _ _ _ _ _ _ _ _)) rfl ⟨_,_,_,_,rfl,?_,dF HB6.out (Nat.le_succ _) _ _ _ _ _ _ _ _ _⟩;exact qF (lC HHT.out.own (c9 _ _ _ _ _ _ _ _ _) (fun k hk e=>by have:=(iH HHT.out.own k hk).1;have e':k=w.heap.size+1:=(by simpa using e);omega)) (by omega)
      have hlt':(y:Int)<((R.a7.length-H.a7.length:Nat):Int):=by omega
      obtain⟨q,hq,hr⟩:=HQ.out (H.a7.length+y) (by omega) hlt;have y34:=HQC.out (H.a7.length+y) hlt;rw[hr,show (H.a7.length+y)*2=H.a7.length*2+y*2 by omega]at y34;have y3:=(nz (i:=H.a7.length*2+y*2) (KB0 qb hqw (by omega) (by omega))).trans y34.1;have y4:=(nz (i:=H.a7.length*2+y*2+1) (KB0 qb hqw (by omega) (by omega))).trans y34.2;have hqe:q<es.length:=by rw[HEL.out];exact hq
      obtain⟨j,cn,hd,hoj,hjl⟩:=HES.out q hqe
      have HNX:Hid (jG H R (y+1) = { jG H R y with a7:=(jG H R y).a7++[((j:Int)+1)*4] }):=by
       have e:=HKN.out y q hlt hr;rw[hoj,show 4*(j:Int)+4=((j:Int)+1)*4 by omega]at e;exact e
      have HML:Hid ((jG H R y).a7.length≤1000000):=by
       show _≤_
       unfold jG;rw[List.length_append,List.length_take];omega
      obtain⟨_,_,ev,_,_,_,hcs⟩:=bx HPW.out;injection ev with ev1 _ ev3
      subst ev1 ev3;obtain⟨sb,so,ev4,hsb,hcell⟩:=hcs (by omega);subst ev4;have hcd:=(hcell q hqe).2.2.2.2.2.2.2;rw[hd]at hcd;simp only at hcd;have HSB:Hid _:=hcd;have hsbV:=(aM HPW.out sb (by simp[blk,Value.ownBlock])).1;have HGr:Hid _:=gr.qV HGW.out (chG hMv.ch) (fun k hk=>by rw[cN]at hk;have e':k=P∨k=g3:=(by simpa using hk);omega);clear hcs hcell hcd hd y34 hr hlt hH hMv;go_upto_region 17 with fail
      have BY:Below wr.heap.size wr (wr.alloc (gr.rb (2,(q:Int)+1))):=(Below.refl _ _).alloc (Nat.le_refl _) _;have QY:=heap_alloc_new wr (gr.rb (2,(q:Int)+1));have HBY:Hid _:=BY;obtain⟨r0,r1,_⟩:=gr.kM QY;obtain⟨ov,oms,⟨oa,on,oc,rfl⟩,x0,hor,hsl,hab⟩:=gr.BK (gr.eZ (gr.cU.held HGr.out) BY);have hol:oms.length=R.objs.length:=by rw[←hab,List.length_map]
      have LT:=gr.pM hor hsl hab (gr.G0 HN2.out) (by rw[hol,HN1.out];omega) (2,(q:Int)+1);have HLD:Hid _:=gr.Hq HN2.out (q:=q) (by rw[HN1.out];exact hq);clear BY QY hor hsl hab hol y3 y4;generalize wr.alloc (gr.rb (2,(q:Int)+1))=Y at *;go_upto_region 18 with (go_at_call 25;refine LT.mono ?_;clear LT r0 r1 x0;rintro e w5 ⟨kq,rfl,hkq,b5⟩;have hkq':=hkq HLD.out.1;rw[HLD.out.2]at hkq';replace hkq':=hkq'.symm;subst hkq';have HB5:Hid _:=HBY.out.trans (b5.mono HBY.out.size);clear hkq b5)
      obtain⟨VD,hVD⟩:∃VD,VD=w5.drew:=⟨_,rfl⟩
      have BVD:Below wr.heap.size wr VD:=by rw[hVD];exact HB5.out.drew
      have HXB:Hid (Below wr.heap.size wr (VD.alloc (.cells #[.int .i64 (((j:Int)+1)*4)] 2))):=BVD.alloc BVD.size _;have HXH:Hid ((VD.alloc (.cells #[.int .i64 (((j:Int)+1)*4)] 2)).heap[VD.heap.size]? = some (.cells #[.int .i64 (((j:Int)+1)*4)] 2 (0,0))):=heap_alloc_new VD _;have HHX:Hid _:=HHH.out.below HXB.out;have HMX:Hid _:=HMV.out.below HXB.out;have HOM:Hid _:=HHX.out.own.1.2.2.1
      have HXS:Hid (U.heap.size≤(VD.alloc (.cells #[.int .i64 (((j:Int)+1)*4)] 2)).heap.size):=by
       show _≤_
       have:=HXB.out.size
       omega
      have HCE:Hid (∀W,(Below wr.heap.size wr W∨Ch (blk (.slice ma mn mc)) (VD.alloc (.cells #[.int .i64 (((j:Int)+1)*4)] 2)) W)→eJ W P 26 (.int .i64 H.half) (.int .i64 H.old) (.slice (some ⟨g1,0,none⟩) H.row.length H.row.length) (.int .i64 H.side) (.int .i64 H.top) (.slice (some ⟨g2,0,none⟩) H.roots.length H.roots.length) (.slice ma mn mc) (.slice (some ⟨g4,0,none⟩) H.seen.length H.seen.length) (.int .i64 H.seed)∧W.cell? ⟨sb,so+q*8+7,none⟩=some (.int .i64 (j:Int))):=by
       intro W hW
       have hat:∀b,b≠g3→b<W0.heap.size→b ∉ blk (.slice ma mn mc):=fun b h1 h2 e=>by
        rcases HMV.out.at' b e with e|e
        ·rw[cN]at e;simp at e;omega
        ·omega
       have hPm:P ∉ blk (.slice ma mn mc):=fun e=>HHH.out.np (dV.2.2.1 _ e)
       have K:∀b,b<wr.heap.size→b ∉ blk (.slice ma mn mc)→W.heap[b]? = wr.heap[b]? := fun b h1 h2=>by
        rcases hW with h|h
        ·exact h.block b h1
        ·exact (h.block b (Nat.lt_of_lt_of_le h1 HXB.out.size) h2).trans (HXB.out.block b h1)
       exact⟨(K P (lt_of_block HHH.out.nine) hPm).trans HHH.out.nine,(nz ((K sb (by omega) (hat sb (by omega) hsb)).trans (KB0 sb hsb (by omega) (by omega)))).trans HSB.out⟩
      generalize hA0:(Act.mk _ [])=A0;have e5:A0.tmps.getD 5 undef = .pointer (some ⟨P,0,none⟩):=by rw[←hA0];rfl
      have e7:A0.tmps.getD 7 undef = .slice (some ⟨sb,so,none⟩) es.length vc:=by rw[←hA0];rfl
      have e13:A0.tmps.getD 13 undef = .int .i64 (q:Int):=by rw[←hA0];rfl
      have sz:A0.tmps.size=90:=by rw[←hA0];rfl
      refine fq (by kernel_rfl) iM (by simp) ?_ 11 7 8 9 rfl (by decide) (by decide) (by decide) (by decide) (by decide) (by decide) IV DS (JA P ma mn mc sb so es.length vc q j) (fun V=>V=VD) (fun t V=>t = .int .i64 (((j:Int)+1)*4)∧V=VD) (fun t V=>t = .slice (some ⟨VD.heap.size,0,none⟩) 1 1∧V=(VD.alloc (.cells #[.int .i64 (((j:Int)+1)*4)] 2))) (fun t V=>∃va vn vc,t = .slice va vn vc∧rows.Own V U.heap.size (.slice va vn vc) ((jG H R y).a7++[(((j:Int)+1)*4)])∧Ch (blk (.slice ma mn mc)) (VD.alloc (.cells #[.int .i64 (((j:Int)+1)*4)] 2)) V∧∀z ∈ blk (.slice va vn vc),z ∈ blk (.slice ma mn mc)∨(VD.alloc (.cells #[.int .i64 (((j:Int)+1)*4)] 2)).heap.size≤z) (hVD.symm) ?_ ?_ ?_ ?_ ?_ ?_ ?_ ?_
      ·intro k o ho;have hk:k<12:=(Array.getElem?_eq_some_iff.1 ho).1;rcases (show k=0∨k=1∨k=2∨k=3∨k=4∨k=5∨k=6∨k=7∨k=8∨k=9∨k=10∨k=11 by omega) with rfl|rfl|rfl|rfl|rfl|rfl|rfl|rfl|rfl|rfl|rfl|rfl<;>(obtain rfl:=Option.some.inj ho;simp[Region.binds])
      ·intro o ho kk hkk;obtain rfl:=Option.some.inj ho;rcases (show kk=0∨kk=1∨kk=2∨kk=3∨kk=4∨kk=5∨kk=6∨kk=7∨kk=8∨kk=9∨kk=10 by omega) with rfl|rfl|rfl|rfl|rfl|rfl|rfl|rfl|rfl|rfl|rfl<;>simp[Region.binds]
      ·intro o ho;obtain rfl:=Option.some.inj ho;simp[Region.binds]
      ·intro o ho;obtain rfl:=Option.some.inj ho;simp[Region.binds]
      ·intro k o u W hk hk1 hk2 hk3 ho hAB hF;have ev:∀s,iM s=true→s<90→(ovr iM A0 u).tmps[s]?.getD undef=u s:=fun s h1 h2=>(af _ _).symm.trans (aS h1 (by omega))
       have o5:(ovr iM A0 u).tmps[5]?.getD undef=_:=(af _ _).symm.trans ((ah (D:=iM) (a0:=A0) (u:=u) (s:=5) rfl (by omega)).trans e5);have o7:(ovr iM A0 u).tmps[7]?.getD undef=_:=(af _ _).symm.trans ((ah (D:=iM) (a0:=A0) (u:=u) (s:=7) rfl (by omega)).trans e7);have o13:(ovr iM A0 u).tmps[13]?.getD undef=_:=(af _ _).symm.trans ((ah (D:=iM) (a0:=A0) (u:=u) (s:=13) rfl (by omega)).trans e13)
       have hC:Below wr.heap.size wr W∨Ch (blk (.slice ma mn mc)) (VD.alloc (.cells #[.int .i64 (((j:Int)+1)*4)] 2)) W:=by
        rcases hAB with e|e|e|⟨_,_,_,_,_,q2,_⟩
        ·exact .inl (by rw[e];exact BVD)
        ·exact .inl (by rw[e.2];exact BVD)
        ·exact .inl (by rw[e.2];exact HXB.out)
        ·exact .inr q2
       obtain⟨hN9,y4⟩:=HCE.out W hC;obtain⟨⟨z0,z1,z2,z3,z4⟩,⟨z5,z6,z7,z8⟩,_⟩:=ag hN9;clear hAB hC hN9;rcases (show k=0∨k=1∨k=2∨k=3∨k=4∨k=5∨k=6∨k=7∨k=8∨k=9∨k=10 by omega) with rfl|rfl|rfl|rfl|rfl|rfl|rfl|rfl|rfl|rfl|rfl
       all_goals obtain rfl:=Option.some.inj ho
       ·refine bg (v:=.pointer (some ⟨P,6,none⟩)) rfl rfl ?_ rfl;simp only[execOp];go_simp;try go_num
        try (rw[IntKind.wrap_i64];omega)
       ·have x0:=(ev 77 rfl (by decide)).trans (hF 0 (by decide) (by simp[Region.binds]));refine bg (v:=.slice ma mn mc) rfl rfl ?_ rfl;simp only[execOp];go_simp;try go_num
        try (rw[IntKind.wrap_i64];omega)
       ·refine bg (v:=.slice (some ⟨sb,so,none⟩) es.length vc) rfl rfl ?_ rfl;simp only[execOp];go_simp;try go_num
        try (rw[IntKind.wrap_i64];omega)
       ·refine bg (v:=.int .i64 (q:Int)) rfl rfl ?_ rfl;simp only[execOp];go_simp;try go_num
        try (rw[IntKind.wrap_i64];omega)
       ·have x2:=(ev 79 rfl (by decide)).trans (hF 2 (by decide) (by simp[Region.binds]));have x3:=(ev 80 rfl (by decide)).trans (hF 3 (by decide) (by simp[Region.binds]));refine bg (v:=.pointer (some ⟨sb,so+q*8,none⟩)) rfl rfl ?_ rfl;simp only[execOp];go_simp;try go_num
        try (rw[IntKind.wrap_i64];omega)
       ·have x4:=(ev 81 rfl (by decide)).trans (hF 4 (by decide) (by simp[Region.binds]));refine bg (v:=.pointer (some ⟨sb,so+q*8+7,none⟩)) rfl rfl ?_ rfl;simp only[execOp];go_simp;try go_num
        try (rw[IntKind.wrap_i64];omega)
       ·have x5:=(ev 82 rfl (by decide)).trans (hF 5 (by decide) (by simp[Region.binds]));refine bg (v:=.int .i64 (j:Int)) rfl rfl ?_ rfl;simp only[execOp];go_simp;try go_num
        try (rw[IntKind.wrap_i64];omega)
       ·exact absurd rfl hk1
       ·exact absurd rfl hk2
       ·exact absurd rfl hk3
       ·refine bg (v:=.pointer (some ⟨P,6,none⟩)) rfl rfl ?_ rfl;simp only[execOp];go_simp;try go_num
        try (rw[IntKind.wrap_i64];omega)
      ·intro o u W ho hA hF;obtain rfl:=Option.some.inj ho;have ev:∀s,iM s=true→s<90→(ovr iM A0 u).tmps[s]?.getD undef=u s:=fun s h1 h2=>(af _ _).symm.trans (aS h1 (by omega))
       have o5:(ovr iM A0 u).tmps[5]?.getD undef=_:=(af _ _).symm.trans ((ah (D:=iM) (a0:=A0) (u:=u) (s:=5) rfl (by omega)).trans e5);have o7:(ovr iM A0 u).tmps[7]?.getD undef=_:=(af _ _).symm.trans ((ah (D:=iM) (a0:=A0) (u:=u) (s:=7) rfl (by omega)).trans e7);have o13:(ovr iM A0 u).tmps[13]?.getD undef=_:=(af _ _).symm.trans ((ah (D:=iM) (a0:=A0) (u:=u) (s:=13) rfl (by omega)).trans e13);have x6:=(ev 83 rfl (by decide)).trans (hF 6 (by decide) (by simp[Region.binds]));subst hA;refine oD (f:=26) (args:=#[.int .i64 (j:Int)]) rfl rfl ?_ ?_
       ·simp only[execOp];go_simp
       ·exact (AV (j:Int) (by omega) (by omega) W).mono fun e w' ⟨he,hw⟩=>⟨_,he,⟨rfl,hw⟩,trivial⟩
      ·intro o u W ho hA hF;obtain rfl:=Option.some.inj ho;have ev:∀s,iM s=true→s<90→(ovr iM A0 u).tmps[s]?.getD undef=u s:=fun s h1 h2=>(af _ _).symm.trans (aS h1 (by omega))
       have o5:(ovr iM A0 u).tmps[5]?.getD undef=_:=(af _ _).symm.trans ((ah (D:=iM) (a0:=A0) (u:=u) (s:=5) rfl (by omega)).trans e5);have o7:(ovr iM A0 u).tmps[7]?.getD undef=_:=(af _ _).symm.trans ((ah (D:=iM) (a0:=A0) (u:=u) (s:=7) rfl (by omega)).trans e7);have o13:(ovr iM A0 u).tmps[13]?.getD undef=_:=(af _ _).symm.trans ((ah (D:=iM) (a0:=A0) (u:=u) (s:=13) rfl (by omega)).trans e13);obtain⟨q3,q2⟩:=hA;subst q2;have x7:=(ev 84 rfl (by decide)).trans q3;refine gE (v:=.slice (some ⟨W.heap.size,0,none⟩) 1 1) (W':=(W.alloc (.cells #[.int .i64 (((j:Int)+1)*4)] 2))) rfl rfl ?_ ⟨rfl,rfl⟩ trivial;simp only[execOp];go_simp
      ·intro o u W ho hA hF;obtain rfl:=Option.some.inj ho;have ev:∀s,iM s=true→s<90→(ovr iM A0 u).tmps[s]?.getD undef=u s:=fun s h1 h2=>(af _ _).symm.trans (aS h1 (by omega))
       have o5:(ovr iM A0 u).tmps[5]?.getD undef=_:=(af _ _).symm.trans ((ah (D:=iM) (a0:=A0) (u:=u) (s:=5) rfl (by omega)).trans e5);have o7:(ovr iM A0 u).tmps[7]?.getD undef=_:=(af _ _).symm.trans ((ah (D:=iM) (a0:=A0) (u:=u) (s:=7) rfl (by omega)).trans e7);have o13:(ovr iM A0 u).tmps[13]?.getD undef=_:=(af _ _).symm.trans ((ah (D:=iM) (a0:=A0) (u:=u) (s:=13) rfl (by omega)).trans e13);have x1:=(ev 78 rfl (by decide)).trans (hF 1 (by decide) (by simp[Region.binds]));obtain⟨q3,q2⟩:=hA;subst q2;have x8:=(ev 85 rfl (by decide)).trans q3;obtain⟨va,vn,vc,w6,hr,h1,h2,h3⟩:=vO HOM.out HXH.out HML.out HXS.out 22;refine gE (v:=.slice va vn vc) (W':=w6) rfl rfl ?_ ⟨va,vn,vc,rfl,h1,h2,h3⟩ trivial;simp[execOp,resolve,invoke,builtin,Act.eval,x1,x8,hr,Result.andThen]
      ·intro o u W ho hA hF;obtain rfl:=Option.some.inj ho;have ev:∀s,iM s=true→s<90→(ovr iM A0 u).tmps[s]?.getD undef=u s:=fun s h1 h2=>(af _ _).symm.trans (aS h1 (by omega))
       have o5:(ovr iM A0 u).tmps[5]?.getD undef=_:=(af _ _).symm.trans ((ah (D:=iM) (a0:=A0) (u:=u) (s:=5) rfl (by omega)).trans e5);have o7:(ovr iM A0 u).tmps[7]?.getD undef=_:=(af _ _).symm.trans ((ah (D:=iM) (a0:=A0) (u:=u) (s:=7) rfl (by omega)).trans e7);have o13:(ovr iM A0 u).tmps[13]?.getD undef=_:=(af _ _).symm.trans ((ah (D:=iM) (a0:=A0) (u:=u) (s:=13) rfl (by omega)).trans e13);obtain⟨va,vn,vc,q0,h1,h2,h3⟩:=hA;have x9:=(ev 86 rfl (by decide)).trans q0;have x10:=(ev 87 rfl (by decide)).trans (hF 10 (by decide));obtain⟨u1,u2,u3,u4⟩:=HHX.out.GA h1 h2 h3;have HU3:Hid _:=u3;have HU4:Hid _:=HMX.out.next u4 h3;clear u3 u4 h1 h2 h3 hF;refine mj (W':=W.setCell ⟨P,6,none⟩ (.slice va vn vc)) ?_ ?_ ?_
       ·exact rfl
       ·simp only[execOp];go_simp
       ·subst hA0;clear ev o5 o7 o13 x9 x10 e5 e7 e13 sz;simp[ovr,iM,List.range,List.range.loop];go_wp2;exact⟨⟨y+1,by omega,by go_num,_,by rw[HNX.out];exact HU3.out,HU4.out⟩,by simp[intOf];omega⟩
end Go.Proofs.YtocidankimefpaaGreatDoor.hp
