/- Chapter 10 as the specification has it:  -/
import Derived.Test.YtocidankimefpaaGreatDoorM20
set_option linter.unusedSimpArgs false
set_option linter.unusedVariables false
set_option maxRecDepth 100000
namespace Go.Proofs.YtocidankimefpaaGreatDoor.hp
open Go.RowKit rows heads words walks region
theorem zQ {xs:List Int} {j:Nat} (h:chunk xs j≠0):0≤uS (xs.getD j 0)∧uS (xs.getD j 0)≤20:=cu _
theorem ji {H:Hp} {L A:List Int} {k:Nat} (hk:k<A.length):(A.map (cW H L)).take (k+1)=(A.map (cW H L)).take k++[cW H L (A.getD k 0)]:=by
 rw[List.take_add_one,List.getElem?_map,List.getElem?_eq_getElem hk,List.getD_eq_getElem?_getD,List.getElem?_eq_getElem hk];rfl
theorem zR {H:Hp} {L:List Int} (k:Nat):(List.range (k+1)).map (obS H L)=(List.range k).map (obS H L)++[obS H L k]:=by
 rw[List.range_succ,List.map_append];rfl
theorem jj {w:World} {base P:Nat} {G:gr.Gr} (h:gr.kZ w base P G):∃a1 n1 c1 a2 n2 c2 a3 n3 c3 ms,gr.fh w P 50 (.slice a1 n1 c1) (.slice a2 n2 c2) (.slice a3 n3 c3) (.int .i64 G.next) (.int .i64 G.seed)∧gr.ja w base (.slice a1 n1 c1) (.slice a2 n2 c2) (.slice a3 n3 c3) ms G∧P ∉ gr.cj (.slice a1 n1 c1) (.slice a2 n2 c2) (.slice a3 n3 c3) ms∧base≤P:=by
 obtain⟨o,r,m,ms,h1,h2,h3,h4⟩:=h;obtain⟨a1,n1,c1,a2,n2,c2,a3,n3,c3,rfl,rfl,rfl⟩:=gr.bq (gr.fM h2);exact⟨a1,n1,c1,a2,n2,c2,a3,n3,c3,ms,h1,h2,h3,h4⟩
def dR5 (k:Nat):Nat:=22+k
theorem FY:∀k,k<13→∀j,j<13→dR5 j=dR5 k→j=k:=fun k _ j _ e=>by unfold dR5 at e;omega
def DR5 (s:Nat):Bool:=decide (22≤s)&&decide (s≤34)
def FR5 (H:Hp) (w:World) (a1 a2 a3 a4:Option Addr) (c1 c2 c3 c4:Nat) (oa:Option Addr) (L:List Int) (oc:Nat) (ga2:Option Addr) (gn2 gc2:Nat) (rb' ro kz:Nat) (xx:Int) (k:Nat) (t:Value):Prop:=
 match k with
 |0=>t = .pointer (some ⟨w.heap.size+2,1,none⟩)
 |1=>t=(.slice ga2 gn2 gc2)
 |2=>t=hpv H (.slice a1 H.row.length c1) (.slice (some ⟨rb',ro,none⟩) H.roots.length c2) (.slice a3 H.a7.length c3) (.slice a4 H.seen.length c4)
 |3=>t = .slice oa L.length oc
 |4=>t = .pointer (some ⟨w.heap.size,5,none⟩)
 |5=>t = .slice (some ⟨rb',ro,none⟩) H.roots.length c2
 |6=>t = .int .i64 (kz:Int)
 |7=>t = .pointer (some ⟨rb',ro+kz,none⟩)
 |8=>t = .int .i64 xx
 |9=>True
 |10=>True
 |11=>True
 |12=>t = .pointer (some ⟨w.heap.size+2,1,none⟩)
 |_=>False
def dR9 (k:Nat):Nat:=42+k
theorem FZ:∀k,k<13→∀j,j<13→dR9 j=dR9 k→j=k:=fun k _ j _ e=>by unfold dR9 at e;omega
def DR9 (s:Nat):Bool:=decide (42≤s)&&decide (s≤54)
def FR9 (H:Hp) (w:World) (a1 a2 a3 a4:Option Addr) (c1 c2 c3 c4:Nat) (oa:Option Addr) (L:List Int) (oc:Nat) (ga3:Option Addr) (gn3 gc3:Nat) (rb' ro kz:Nat) (xx:Int) (k:Nat) (t:Value):Prop:=
 match k with
 |0=>t = .pointer (some ⟨w.heap.size+2,2,none⟩)
 |1=>t=(.slice ga3 gn3 gc3)
 |2=>t=hpv H (.slice a1 H.row.length c1) (.slice a2 H.roots.length c2) (.slice (some ⟨rb',ro,none⟩) H.a7.length c3) (.slice a4 H.seen.length c4)
 |3=>t = .slice oa L.length oc
 |4=>t = .pointer (some ⟨w.heap.size,6,none⟩)
 |5=>t = .slice (some ⟨rb',ro,none⟩) H.a7.length c3
 |6=>t = .int .i64 (kz:Int)
 |7=>t = .pointer (some ⟨rb',ro+kz,none⟩)
 |8=>t = .int .i64 xx
 |9=>True
 |10=>True
 |11=>True
 |12=>t = .pointer (some ⟨w.heap.size+2,2,none⟩)
 |_=>False
def IU (k:Nat):Nat:=83+k
theorem DQ:∀k,k<19→∀j,j<19→IU j=IU k→j=k:=fun k _ j _ e=>by unfold IU at e;omega
def fa (s:Nat):Bool:=decide (83≤s)&&decide (s≤101)
def Jy (H:Hp) (w:World) (a2 a3 a4:Option Addr) (c1 c2 c3 c4:Nat) (L:List Int) (oc lb lo kz:Nat) (sa:Option Addr) (sq sc Bo rb' ro j i:Nat) (xx:Int) (k:Nat) (t:Value):Prop:=
 match k with
 |0=>t = .pointer (some ⟨Bo,4,none⟩)
 |1=>t=(.slice sa sq sc)
 |2=>t=hpv H (.slice (some ⟨rb',ro,none⟩) H.row.length c1) (.slice a2 H.roots.length c2) (.slice a3 H.a7.length c3) (.slice a4 H.seen.length c4)
 |3=>t = .slice (some ⟨lb,lo,none⟩) L.length oc
 |4=>t = .pointer (some ⟨w.heap.size,2,none⟩)
 |5=>t = .slice (some ⟨rb',ro,none⟩) H.row.length c1
 |6=>t = .slice (some ⟨lb,lo,none⟩) L.length oc
 |7=>t = .int .i64 (kz:Int)
 |8=>t = .pointer (some ⟨lb,lo+kz,none⟩)
 |9=>t = .int .i64 (j:Int)
 |10=>t = .int .i64 ((j:Int)+1)
 |11=>t = .int .i64 (i:Int)
 |12=>t = .int .i64 ((j:Int)+1+(i:Int))
 |13=>t = .pointer (some ⟨rb',ro+(j+1+i),none⟩)
 |14=>t = .int .i64 xx
 |15=>True
 |16=>True
 |17=>True
 |18=>t = .pointer (some ⟨Bo,4,none⟩)
 |_=>False
set_option maxHeartbeats 64000000 in
theorem uV {w:World} {vr vo vm vs:Value} {H:Hp} (h:eW w vr vo vm vs H) {ps:List Int} (R:Rt H ps) {oa:Option Addr} {oc:Nat} {L:List Int} (hL:au w (.slice oa L.length oc) L) (hl:L.length≤500) (hob:∀a ∈ L,pg H ps a) (hrt:∀x ∈ H.roots++H.a7,∀a,tgt H x=some a→a ∈ L) (hst:∀t,t<L.length→∀x ∈ slotsOf H (L.getD t 0),∀a,tgt H x=some a→a ∈ L) :
    Calls Tryz.prog 43 #[hpv H vr vo vm vs,.slice oa L.length oc] w fun e w'=>∃o r m ms,e = .returned (gr.gv o r m (grS H L).next (grS H L).seed)∧gr.ja w' w.heap.size o r m ms (grS H L)∧Below w.heap.size w w':=by
 obtain⟨a1,c1,a2,c2,a3,c3,a4,c4,e1,e2,e3,e4⟩:=aK h;subst e1 e2 e3 e4;have N:=(bQ R.some').1;have hro:H.roots.length=6:=N.roots;have hmo:=N.a7;have hrl:H.row.length≤1000:=R.len;have HRE:Hid (∀V x,Below w.heap.size w V→aP H ps x=true→(∀a,tgt H x=some a→a ∈ L)→Calls Tryz.prog 92 #[hpv H (.slice a1 H.row.length c1) (.slice a2 H.roots.length c2) (.slice a3 H.a7.length c3) (.slice a4 H.seen.length c4),.slice oa L.length oc,.int .i64 x] V fun e w'=>e = .returned (gr.rv (cW H L x))∧Below V.heap.size V w'):=fun V x hV hx ht=>Ah (aD h hV) R (aa hL hV) (by omega) x hx ht
 have HRO:Hid (∀k,k<H.roots.length→aP H ps (H.roots.getD k 0)=true∧∀a,tgt H (H.roots.getD k 0)=some a→a ∈ L):=fun k hk=>by
  have hm:H.roots.getD k 0 ∈ H.roots++H.a7:=List.mem_append_left _ (by rw[List.getD_eq_getElem?_getD,List.getElem?_eq_getElem hk];exact List.getElem_mem hk);exact⟨R.km hm,hrt _ hm⟩
 have HMO:Hid (∀k,k<H.a7.length→aP H ps (H.a7.getD k 0)=true∧∀a,tgt H (H.a7.getD k 0)=some a→a ∈ L):=fun k hk=>by
  have hm:H.a7.getD k 0 ∈ H.roots++H.a7:=List.mem_append_right _ (by rw[List.getD_eq_getElem?_getD,List.getElem?_eq_getElem hk];exact List.getElem_mem hk);exact⟨R.km hm,hrt _ hm⟩
 have HH:Hid _:=h;have HL:Hid _:=hL;have HR:Hid _:=R;have HOB:Hid _:=hob;have HSL:Hid _:=hst;have H6:Hid _:=hro;have B0:Below w.heap.size w (w.alloc (hpb H (.slice a1 H.row.length c1) (.slice a2 H.roots.length c2) (.slice a3 H.a7.length c3) (.slice a4 H.seen.length c4))):=(Below.refl _ _).alloc (Nat.le_refl _) _;have B1:=B0.alloc B0.size (gr.gb (.slice none 0 0) (.slice none 0 0) (.slice none 0 0) 0 0);have B2:=B1.alloc B1.size (gr.gb (.slice none 0 0) (.slice none 0 0) (.slice none 0 0) ((L.length:Int)+1) H.seed)
 have HALL:Hid (∃X,X=((w.alloc (hpb H (.slice a1 H.row.length c1) (.slice a2 H.roots.length c2) (.slice a3 H.a7.length c3) (.slice a4 H.seen.length c4))).alloc (gr.gb (.slice none 0 0) (.slice none 0 0) (.slice none 0 0) 0 0)).alloc (gr.gb (.slice none 0 0) (.slice none 0 0) (.slice none 0 0) ((L.length:Int)+1) H.seed)∧X.heap[w.heap.size]? = some (hpb H (.slice a1 H.row.length c1) (.slice a2 H.roots.length c2) (.slice a3 H.a7.length c3) (.slice a4 H.seen.length c4))∧gr.fh X (w.heap.size+1) 50 (.slice none 0 0) (.slice none 0 0) (.slice none 0 0) (.int .i64 0) (.int .i64 0)∧gr.kZ X (w.heap.size+2) (w.heap.size+2) ⟨[],[],[],(L.length:Int)+1,H.seed⟩∧Below w.heap.size w X∧X.heap.size=w.heap.size+3):=by
  have e1:(w.alloc (hpb H (.slice a1 H.row.length c1) (.slice a2 H.roots.length c2) (.slice a3 H.a7.length c3) (.slice a4 H.seen.length c4))).heap.size=w.heap.size+1:=by simp
  have e2:((w.alloc (hpb H (.slice a1 H.row.length c1) (.slice a2 H.roots.length c2) (.slice a3 H.a7.length c3) (.slice a4 H.seen.length c4))).alloc (gr.gb (.slice none 0 0) (.slice none 0 0) (.slice none 0 0) 0 0)).heap.size=w.heap.size+2:=by simp
  have q2:=heap_alloc_new ((w.alloc (hpb H (.slice a1 H.row.length c1) (.slice a2 H.roots.length c2) (.slice a3 H.a7.length c3) (.slice a4 H.seen.length c4))).alloc (gr.gb (.slice none 0 0) (.slice none 0 0) (.slice none 0 0) 0 0)) (gr.gb (.slice none 0 0) (.slice none 0 0) (.slice none 0 0) ((L.length:Int)+1) H.seed);rw[e2]at q2;have bb:Below (w.heap.size+2) ((w.alloc (hpb H (.slice a1 H.row.length c1) (.slice a2 H.roots.length c2) (.slice a3 H.a7.length c3) (.slice a4 H.seen.length c4))).alloc (gr.gb (.slice none 0 0) (.slice none 0 0) (.slice none 0 0) 0 0)) (((w.alloc (hpb H (.slice a1 H.row.length c1) (.slice a2 H.roots.length c2) (.slice a3 H.a7.length c3) (.slice a4 H.seen.length c4))).alloc (gr.gb (.slice none 0 0) (.slice none 0 0) (.slice none 0 0) 0 0)).alloc (gr.gb (.slice none 0 0) (.slice none 0 0) (.slice none 0 0) ((L.length:Int)+1) H.seed)):=(Below.refl _ _).alloc (by rw[e2];exact Nat.le_refl _) _;refine⟨_,rfl,(bb.block _ (by omega)).trans (heap_alloc2_old _ _ _),(bb.block _ (by omega)).trans (heap_alloc2_new _ _ _),⟨_,_,_,[],q2,⟨rfl,⟨World.ownsRow_nil _ _ _ _,fun m hm=>(by cases hm),(by simp[gr.blk,gr.gD,Value.ownBlock])⟩,gr.kK _ _,gr.kK _ _,by simp[gr.cj,gr.blk,gr.gD,Value.ownBlock]⟩,by simp[gr.cj,gr.blk,gr.gD,Value.ownBlock],Nat.le_refl _⟩,B2,by simp⟩
 obtain⟨G,hG⟩:∃G,grS H L=G:=⟨_,rfl⟩
 have HG:Hid (G=⟨(List.range L.length).map (obS H L),(H.roots.map (cW H L)),(H.a7.map (cW H L)),(L.length:Int)+1,H.seed⟩):=by show _=_;rw[←hG];rfl
 rw[hG];have hnx:IntKind.i64.wrap ((L.length:Int)+1)=(L.length:Int)+1:=by rw[IntKind.wrap_i64];omega
 clear B0 B1 B2 h R hL hob hrt hst N hro hG;go_enter Tryz.func43,Tryz.ntmps43;go_upto_region 3 with fail
 obtain⟨X,hX,q0,q1,hHe,BX,sX⟩:=HALL.out;rw[←hX];clear hX HALL;have HBX:Hid _:=BX;have HQ1:Hid _:=q1;have HQ0:Hid (eJ X w.heap.size 26 (.int .i64 H.half) (.int .i64 H.old) (.slice a1 H.row.length c1) (.int .i64 H.side) (.int .i64 H.top) (.slice a2 H.roots.length c2) (.slice a3 H.a7.length c3) (.slice a4 H.seen.length c4) (.int .i64 H.seed)):=q0;have HSX:Hid _:=sX;have HHE:Hid _:=hHe
 have HLOW:Hid (∀V,Below (w.heap.size+2) X V→eJ V w.heap.size 26 (.int .i64 H.half) (.int .i64 H.old) (.slice a1 H.row.length c1) (.int .i64 H.side) (.int .i64 H.top) (.slice a2 H.roots.length c2) (.slice a3 H.a7.length c3) (.slice a4 H.seen.length c4) (.int .i64 H.seed)∧gr.fh V (w.heap.size+1) 50 (.slice none 0 0) (.slice none 0 0) (.slice none 0 0) (.int .i64 0) (.int .i64 0)∧Below w.heap.size w V):=fun V hV=>⟨(hV.block _ (by omega)).trans HQ0.out,(hV.block _ (by omega)).trans HQ1.out,HBX.out.trans ⟨hV.os,hV.tape,hV.output,hV.size,fun k hk=>hV.block k (by have:=HSX.out;omega)⟩⟩
 have HGR:Hid (∀V V',Below (w.heap.size+2) X V→Below V.heap.size V V'→Below (w.heap.size+2) X V'):=fun V V' h1 h2=>h1.trans ⟨h2.os,h2.tape,h2.output,h2.size,fun k hk=>h2.block k (by have:=h1.size;have:=HSX.out;omega)⟩
 clear q0 q1 BX hHe HQ0 HQ1 HBX;generalize hRR:H.roots.map (cW H L)=RR at *;generalize hMM:H.a7.map (cW H L)=MM at *;have HRN:Hid (∀k,k<H.roots.length→RR.take (k+1)=RR.take k++[cW H L (H.roots.getD k 0)]):=fun k hk=>by rw[←hRR];exact ji hk
 have HMN:Hid (∀k,k<H.a7.length→MM.take (k+1)=MM.take k++[cW H L (H.a7.getD k 0)]):=fun k hk=>by rw[←hMM];exact ji hk
 have HRL:Hid (RR.length=6):=by show _=_;rw[←hRR,List.length_map];exact H6.out
 have HML:Hid (MM.length=H.a7.length):=by show _=_;rw[←hMM,List.length_map]
 clear hRR hMM;go_wp2_with fail;go_loopw [6] (fun q wz=>∃k:Nat,k≤6∧q = .int .i64 (k:Int)∧gr.kZ wz (w.heap.size+2) (w.heap.size+2) ⟨[],RR.take k,[],(L.length:Int)+1,H.seed⟩∧Below (w.heap.size+2) X wz) (fun q _=>6-(intOf q).toNat);case atStart=>exact⟨0,Nat.zero_le _,rfl,HHE.out,Below.refl _ _⟩
 case round=>
  obtain⟨k,hk,rfl,hHe,hB⟩:=hrel;clear HHE;have HB:Hid _:=hB;obtain⟨kN,_,kB⟩:=HLOW.out wr hB;by_cases hlt:k<6
  ·have hlt0:k<H.roots.length:=by rw[H6.out];exact hlt
   obtain⟨hwi,hti⟩:=HRO.out k hlt0;obtain⟨ga1,gn1,gc1,ga2,gn2,gc2,ga3,gn3,gc3,ms,T5,OG,NP,_⟩:=jj hHe;obtain⟨rb',ro,erb,hrb0,y0⟩:=bp HH.out.2.1 hlt0;have hrb:rb'<wr.heap.size:=Nat.lt_of_lt_of_le hrb0 kB.size;have y0:wr.cell? ⟨rb',ro+k,none⟩=_:=(kB.cell (p:=⟨rb',ro+k,none⟩) hrb0).trans y0;subst erb;have HHX:Hid (∀V,Below wr.heap.size wr V→gr.fh V (w.heap.size+2) 50 (.slice ga1 gn1 gc1) (.slice ga2 gn2 gc2) (.slice ga3 gn3 gc3) (.int .i64 ((L.length:Int)+1)) (.int .i64 H.seed)∧gr.ja V (w.heap.size+2) (.slice ga1 gn1 gc1) (.slice ga2 gn2 gc2) (.slice ga3 gn3 gc3) ms ⟨[],RR.take k,[],(L.length:Int)+1,H.seed⟩):=fun V hV=>⟨gr.aJ T5 hV,gr.cI OG hV⟩
   have HNP:Hid _:=NP;have HNX:Hid _:=HRN.out k hlt0;have REF:=HRE.out wr.drew _ (kB.drew) hwi hti;obtain⟨e0,he0⟩:∃e0,cW H L (H.roots.getD k 0)=e0:=⟨_,rfl⟩
   rw[he0]at HNX REF;clear he0 hwi hti;obtain⟨ek,en⟩:=e0;obtain⟨⟨z0,z1,z2,z3,z4⟩,⟨z5,z6,z7,z8⟩,_⟩:=ag kN;obtain⟨p0,p1,p2,p3,p4,_⟩:=gr.ak T5;have szr:=hB.size;have hlt':(k:Int)<6:=by omega
   have hlt6:(k:Int)<(H.roots.length:Int):=by omega
   have HRL2:Hid ((RR.take k).length≤1000000):=by show _≤_;rw[List.length_take];have:=HRL.out;omega
   have HAFT:Hid (∀w1,Below wr.heap.size wr w1→(w1.cell? ⟨w.heap.size+2,1,none⟩=some (.slice ga2 gn2 gc2)∧(w1.alloc (gr.rb (ek,en))).cell? ⟨w.heap.size+2,1,none⟩=some (.slice ga2 gn2 gc2))∧gr.fJ (w1.alloc (gr.rb (ek,en))) (w.heap.size+2) (.slice ga2 gn2 gc2) (RR.take k)∧(w1.alloc (gr.rb (ek,en))).heap[w1.heap.size]? = some (gr.rb (ek,en))∧w.heap.size+2≤(w1.alloc (gr.rb (ek,en))).heap.size∧∀va vn vc w6,gr.fJ w6 (w.heap.size+2) (.slice va vn vc) (RR.take k++[(ek,en)])→gr.Ch (gr.blk (.slice ga2 gn2 gc2)) (w1.alloc (gr.rb (ek,en))) w6→(∀j ∈ gr.blk (.slice va vn vc),j ∈ gr.blk (.slice ga2 gn2 gc2)∨(w1.alloc (gr.rb (ek,en))).heap.size≤j)→w6.cell? ⟨w.heap.size+2,1,none⟩=some (.slice ga2 gn2 gc2)∧w6.frozen? ⟨w.heap.size+2,1,none⟩=false∧gr.kZ (w6.setCell ⟨w.heap.size+2,1,none⟩ (.slice va vn vc)) (w.heap.size+2) (w.heap.size+2) ⟨[],RR.take (k+1),[],(L.length:Int)+1,H.seed⟩∧Below (w.heap.size+2) X (w6.setCell ⟨w.heap.size+2,1,none⟩ (.slice va vn vc))):=fun w1 b1=>by
    have B1:Below wr.heap.size wr w1:=b1;have B2:Below wr.heap.size wr (w1.alloc (gr.rb (ek,en))):=B1.alloc B1.size _;obtain⟨t1,g1⟩:=HHX.out _ B1;obtain⟨t2,g2⟩:=HHX.out _ B2;refine⟨⟨(gr.ak t1).2.1,(gr.ak t2).2.1⟩,g2.2.2.1,heap_alloc_new _ _,by have:=B2.size;have:=HSX.out;omega,fun va vn vc w6 r1 r2 r3 => ?_⟩
    obtain⟨u1,u2,u3,u4⟩:=gr.CI t2 g2 HNP.out (Nat.le_refl _) r1 r2 r3;refine⟨u1,u2,?_,(HGR.out _ _ HB.out B2).trans u4⟩
    rw[HNX.out];exact u3
   have HCE:Hid (∀W,(Below wr.heap.size wr W∨∃V,Below wr.heap.size wr V∧gr.Ch (gr.blk (.slice ga2 gn2 gc2)) V W)→eJ W w.heap.size 26 (.int .i64 H.half) (.int .i64 H.old) (.slice a1 H.row.length c1) (.int .i64 H.side) (.int .i64 H.top) (.slice (some ⟨rb',ro,none⟩) H.roots.length c2) (.slice a3 H.a7.length c3) (.slice a4 H.seen.length c4) (.int .i64 H.seed)∧gr.fh W (w.heap.size+2) 50 (.slice ga1 gn1 gc1) (.slice ga2 gn2 gc2) (.slice ga3 gn3 gc3) (.int .i64 ((L.length:Int)+1)) (.int .i64 H.seed)∧W.cell? ⟨rb',ro+k,none⟩=some (.int .i64 (H.roots.getD k 0))):=by
    have hce:∀W:World,W.heap[rb']? = wr.heap[rb']? → W.cell? ⟨rb',ro+k,none⟩=some (.int .i64 (H.roots.getD k 0)):=fun W h3=>by
     rw[←y0];unfold World.cell?;simp only;rw[h3]
    have hrw:rb'<w.heap.size:=hrb0;rintro W (hW|⟨V,hV,hc⟩)
    ·exact⟨(hW.block _ (lt_of_block kN)).trans kN,(HHX.out W hW).1,hce W (hW.block _ hrb)⟩
    ·have hlo:∀q ∈ gr.blk (.slice ga2 gn2 gc2),w.heap.size+2≤q:=fun q hq=>(gr.aM OG.2.2.1 q hq).1
     have hn0:w.heap.size ∉ gr.blk (.slice ga2 gn2 gc2):=fun hq=>by have:=hlo _ hq;omega
     have hnP:w.heap.size+2 ∉ gr.blk (.slice ga2 gn2 gc2):=fun hq=>NP (by simp only[gr.cj,List.mem_append];exact .inl (.inr hq))
     have hnr:rb' ∉ gr.blk (.slice ga2 gn2 gc2):=fun hq=>by have:=hlo _ hq;omega
     exact⟨(hc.block _ (Nat.lt_of_lt_of_le (lt_of_block kN) hV.size) hn0).trans ((hV.block _ (lt_of_block kN)).trans kN),gr.eV (HHX.out V hV).1 hc hnP,hce W ((hc.block _ (Nat.lt_of_lt_of_le hrb hV.size) hnr).trans (hV.block _ hrb))⟩
   clear hHe hB kN kB T5 OG NP HHX p0 p1 p2 p3 p4;generalize H.roots.getD k 0=xx at *;go_upto_region 5 with fail
   clear z0 z1 z2 z3 z4 z5 z6 z7 z8;generalize hA0:(Act.mk _ [])=A0;have e1:A0.tmps.getD 1 undef = .slice oa L.length oc:=by rw[←hA0];rfl
   have e2:A0.tmps.getD 2 undef = .pointer (some ⟨w.heap.size,0,none⟩):=by rw[←hA0];rfl
   have e5:A0.tmps.getD 5 undef = .pointer (some ⟨w.heap.size+2,0,none⟩):=by rw[←hA0];rfl
   have e6:A0.tmps.getD 6 undef = .int .i64 (k:Int):=by rw[←hA0];rfl
   have sz:A0.tmps.size=109:=by rw[←hA0];rfl
   refine fq (by kernel_rfl) DR5 (by simp) ?_ 13 9 10 11 rfl (by decide) (by decide) (by decide) (by decide) (by decide) (by decide) dR5 FY (FR5 H w a1 (some ⟨rb',ro,none⟩) a3 a4 c1 c2 c3 c4 oa L oc ga2 gn2 gc2 rb' ro k xx) (fun V=>V=wr.drew) (fun t V=>t=gr.rv (ek,en)∧Below wr.heap.size wr V) (fun t V=>∃w1,Below wr.heap.size wr w1∧V=w1.alloc (gr.rb (ek,en))∧t = .slice (some ⟨w1.heap.size,0,none⟩) 1 1) (fun t V=>∃w1 va vn vc,t = .slice va vn vc∧Below wr.heap.size wr w1∧gr.fJ V (w.heap.size+2) (.slice va vn vc) (RR.take k++[(ek,en)])∧gr.Ch (gr.blk (.slice ga2 gn2 gc2)) (w1.alloc (gr.rb (ek,en))) V∧∀j ∈ gr.blk (.slice va vn vc),j ∈ gr.blk (.slice ga2 gn2 gc2)∨(w1.alloc (gr.rb (ek,en))).heap.size≤j) (rfl) ?_ ?_ ?_ ?_ ?_ ?_ ?_ ?_
   ·intro k o ho;have hk:k<14:=(Array.getElem?_eq_some_iff.1 ho).1;rcases (show k=0∨k=1∨k=2∨k=3∨k=4∨k=5∨k=6∨k=7∨k=8∨k=9∨k=10∨k=11∨k=12∨k=13 by omega) with rfl|rfl|rfl|rfl|rfl|rfl|rfl|rfl|rfl|rfl|rfl|rfl|rfl|rfl<;>(obtain rfl:=Option.some.inj ho;simp[Region.binds])
   ·intro o ho kk hkk;obtain rfl:=Option.some.inj ho;rcases (show kk=0∨kk=1∨kk=2∨kk=3∨kk=4∨kk=5∨kk=6∨kk=7∨kk=8∨kk=9∨kk=10∨kk=11∨kk=12 by omega) with rfl|rfl|rfl|rfl|rfl|rfl|rfl|rfl|rfl|rfl|rfl|rfl|rfl<;>simp[Region.binds]
   ·intro o ho;obtain rfl:=Option.some.inj ho;simp[Region.binds]
   ·intro o ho;obtain rfl:=Option.some.inj ho;simp[Region.binds]
   ·intro k o u W hk hk1 hk2 hk3 ho hAB hF;have ev:∀s,DR5 s=true→s<109→(ovr DR5 A0 u).tmps[s]?.getD undef=u s:=fun s h1 h2=>(af _ _).symm.trans (aS h1 (by omega))
    have o1:(ovr DR5 A0 u).tmps[1]?.getD undef=_:=(af _ _).symm.trans ((ah (D:=DR5) (a0:=A0) (u:=u) (s:=1) rfl (by omega)).trans e1);have o2:(ovr DR5 A0 u).tmps[2]?.getD undef=_:=(af _ _).symm.trans ((ah (D:=DR5) (a0:=A0) (u:=u) (s:=2) rfl (by omega)).trans e2);have o5:(ovr DR5 A0 u).tmps[5]?.getD undef=_:=(af _ _).symm.trans ((ah (D:=DR5) (a0:=A0) (u:=u) (s:=5) rfl (by omega)).trans e5);have o6:(ovr DR5 A0 u).tmps[6]?.getD undef=_:=(af _ _).symm.trans ((ah (D:=DR5) (a0:=A0) (u:=u) (s:=6) rfl (by omega)).trans e6)
    have hC:Below wr.heap.size wr W∨∃V,Below wr.heap.size wr V∧gr.Ch (gr.blk (.slice ga2 gn2 gc2)) V W:=by
     rcases hAB with e|e|⟨w1,q1,q2,_⟩|⟨w1,_,_,_,_,q1,_,q2,_⟩
     ·exact .inl (by rw[e];exact (Below.refl _ _).drew)
     ·exact .inl e.2
     ·exact .inl (by rw[q2];exact q1.alloc q1.size _)
     ·exact .inr ⟨_,q1.alloc q1.size _,q2⟩
    obtain⟨hN9,hF5,y0⟩:=HCE.out W hC;obtain⟨⟨z0,z1,z2,z3,z4⟩,⟨z5,z6,z7,z8⟩,_⟩:=ag hN9;obtain⟨p0,p1,p2,_,_,_⟩:=gr.ak hF5;clear hAB hC hN9 hF5;rcases (show k=0∨k=1∨k=2∨k=3∨k=4∨k=5∨k=6∨k=7∨k=8∨k=9∨k=10∨k=11∨k=12 by omega) with rfl|rfl|rfl|rfl|rfl|rfl|rfl|rfl|rfl|rfl|rfl|rfl|rfl
    all_goals obtain rfl:=Option.some.inj ho
    ·refine bg (v:=.pointer (some ⟨w.heap.size+2,1,none⟩)) rfl rfl ?_ rfl;simp only[execOp];go_simp;try go_num
     try (rw[IntKind.wrap_i64];omega)
    ·have x0:=(ev 22 rfl (by decide)).trans (hF 0 (by decide) (by simp[Region.binds]));refine bg (v:=(.slice ga2 gn2 gc2)) rfl rfl ?_ rfl;simp only[execOp];go_simp;try go_num
     try (rw[IntKind.wrap_i64];omega)
    ·refine bg (v:=hpv H (.slice a1 H.row.length c1) (.slice (some ⟨rb',ro,none⟩) H.roots.length c2) (.slice a3 H.a7.length c3) (.slice a4 H.seen.length c4)) rfl rfl ?_ rfl;simp only[execOp];go_simp;try go_num
     try (rw[IntKind.wrap_i64];omega)
    ·refine bg (v:=.slice oa L.length oc) rfl rfl ?_ rfl;simp only[execOp];go_simp;try go_num
     try (rw[IntKind.wrap_i64];omega)
    ·refine bg (v:=.pointer (some ⟨w.heap.size,5,none⟩)) rfl rfl ?_ rfl;simp only[execOp];go_simp;try go_num
     try (rw[IntKind.wrap_i64];omega)
    ·have x4:=(ev 26 rfl (by decide)).trans (hF 4 (by decide) (by simp[Region.binds]));refine bg (v:=.slice (some ⟨rb',ro,none⟩) H.roots.length c2) rfl rfl ?_ rfl;simp only[execOp];go_simp;try go_num
     try (rw[IntKind.wrap_i64];omega)
    ·refine bg (v:=.int .i64 (k:Int)) rfl rfl ?_ rfl;simp only[execOp];go_simp;try go_num
     try (rw[IntKind.wrap_i64];omega)
    ·have x5:=(ev 27 rfl (by decide)).trans (hF 5 (by decide) (by simp[Region.binds]));have x6:=(ev 28 rfl (by decide)).trans (hF 6 (by decide) (by simp[Region.binds]));refine bg (v:=.pointer (some ⟨rb',ro+k,none⟩)) rfl rfl ?_ rfl;simp only[execOp];go_simp;try go_num
     try (rw[IntKind.wrap_i64];omega)
    ·have x7:=(ev 29 rfl (by decide)).trans (hF 7 (by decide) (by simp[Region.binds]));refine bg (v:=.int .i64 xx) rfl rfl ?_ rfl;simp only[execOp];go_simp;try go_num
     try (rw[IntKind.wrap_i64];omega)
    ·exact absurd rfl hk1
    ·exact absurd rfl hk2
    ·exact absurd rfl hk3
    ·refine bg (v:=.pointer (some ⟨w.heap.size+2,1,none⟩)) rfl rfl ?_ rfl;simp only[execOp];go_simp;try go_num
     try (rw[IntKind.wrap_i64];omega)
   ·intro o u W ho hA hF;obtain rfl:=Option.some.inj ho;have ev:∀s,DR5 s=true→s<109→(ovr DR5 A0 u).tmps[s]?.getD undef=u s:=fun s h1 h2=>(af _ _).symm.trans (aS h1 (by omega))
    have o1:(ovr DR5 A0 u).tmps[1]?.getD undef=_:=(af _ _).symm.trans ((ah (D:=DR5) (a0:=A0) (u:=u) (s:=1) rfl (by omega)).trans e1);have o2:(ovr DR5 A0 u).tmps[2]?.getD undef=_:=(af _ _).symm.trans ((ah (D:=DR5) (a0:=A0) (u:=u) (s:=2) rfl (by omega)).trans e2);have o5:(ovr DR5 A0 u).tmps[5]?.getD undef=_:=(af _ _).symm.trans ((ah (D:=DR5) (a0:=A0) (u:=u) (s:=5) rfl (by omega)).trans e5);have o6:(ovr DR5 A0 u).tmps[6]?.getD undef=_:=(af _ _).symm.trans ((ah (D:=DR5) (a0:=A0) (u:=u) (s:=6) rfl (by omega)).trans e6);have x2:=(ev 24 rfl (by decide)).trans (hF 2 (by decide) (by simp[Region.binds]));have x3:=(ev 25 rfl (by decide)).trans (hF 3 (by decide) (by simp[Region.binds]));have x8:=(ev 30 rfl (by decide)).trans (hF 8 (by decide) (by simp[Region.binds]));subst hA;refine oD (f:=92) (args:=#[hpv H (.slice a1 H.row.length c1) (.slice (some ⟨rb',ro,none⟩) H.roots.length c2) (.slice a3 H.a7.length c3) (.slice a4 H.seen.length c4),.slice oa L.length oc,.int .i64 xx]) rfl rfl ?_ ?_
    ·simp only[execOp];go_simp
    ·exact REF.mono fun e w' ⟨he,hb⟩=>⟨_,he,⟨rfl,⟨hb.os,hb.tape,hb.output,hb.size,hb.block⟩⟩,trivial⟩
   ·intro o u W ho hA hF;obtain rfl:=Option.some.inj ho;have ev:∀s,DR5 s=true→s<109→(ovr DR5 A0 u).tmps[s]?.getD undef=u s:=fun s h1 h2=>(af _ _).symm.trans (aS h1 (by omega))
    have o1:(ovr DR5 A0 u).tmps[1]?.getD undef=_:=(af _ _).symm.trans ((ah (D:=DR5) (a0:=A0) (u:=u) (s:=1) rfl (by omega)).trans e1);have o2:(ovr DR5 A0 u).tmps[2]?.getD undef=_:=(af _ _).symm.trans ((ah (D:=DR5) (a0:=A0) (u:=u) (s:=2) rfl (by omega)).trans e2);have o5:(ovr DR5 A0 u).tmps[5]?.getD undef=_:=(af _ _).symm.trans ((ah (D:=DR5) (a0:=A0) (u:=u) (s:=5) rfl (by omega)).trans e5);have o6:(ovr DR5 A0 u).tmps[6]?.getD undef=_:=(af _ _).symm.trans ((ah (D:=DR5) (a0:=A0) (u:=u) (s:=6) rfl (by omega)).trans e6);have x9:=(ev 31 rfl (by decide)).trans hA.1;refine gE (v:=.slice (some ⟨W.heap.size,0,none⟩) 1 1) (W':=W.alloc (gr.rb (ek,en))) rfl rfl ?_ ⟨W,hA.2,rfl,rfl⟩ trivial;simp only[execOp];go_simp
   ·intro o u W ho hA hF;obtain rfl:=Option.some.inj ho;have ev:∀s,DR5 s=true→s<109→(ovr DR5 A0 u).tmps[s]?.getD undef=u s:=fun s h1 h2=>(af _ _).symm.trans (aS h1 (by omega))
    have o1:(ovr DR5 A0 u).tmps[1]?.getD undef=_:=(af _ _).symm.trans ((ah (D:=DR5) (a0:=A0) (u:=u) (s:=1) rfl (by omega)).trans e1);have o2:(ovr DR5 A0 u).tmps[2]?.getD undef=_:=(af _ _).symm.trans ((ah (D:=DR5) (a0:=A0) (u:=u) (s:=2) rfl (by omega)).trans e2);have o5:(ovr DR5 A0 u).tmps[5]?.getD undef=_:=(af _ _).symm.trans ((ah (D:=DR5) (a0:=A0) (u:=u) (s:=5) rfl (by omega)).trans e5);have o6:(ovr DR5 A0 u).tmps[6]?.getD undef=_:=(af _ _).symm.trans ((ah (D:=DR5) (a0:=A0) (u:=u) (s:=6) rfl (by omega)).trans e6);have x1:=(ev 23 rfl (by decide)).trans (hF 1 (by decide) (by simp[Region.binds]));obtain⟨w1,q1,q2,q3⟩:=hA;subst q2;have x10:=(ev 32 rfl (by decide)).trans q3;obtain⟨_,s3,s4,s5,_⟩:=HAFT.out w1 q1;obtain⟨va,vn,vc,w6,hr,h1,h2,h3⟩:=gr.mK s3 s4 HRL2.out s5 48;refine gE (v:=.slice va vn vc) (W':=w6) rfl rfl ?_ ⟨w1,va,vn,vc,rfl,q1,h1,h2,h3⟩ trivial;simp[execOp,resolve,invoke,builtin,Act.eval,x1,x10,hr,Result.andThen]
   ·intro o u W ho hA hF;obtain rfl:=Option.some.inj ho;have ev:∀s,DR5 s=true→s<109→(ovr DR5 A0 u).tmps[s]?.getD undef=u s:=fun s h1 h2=>(af _ _).symm.trans (aS h1 (by omega))
    have o1:(ovr DR5 A0 u).tmps[1]?.getD undef=_:=(af _ _).symm.trans ((ah (D:=DR5) (a0:=A0) (u:=u) (s:=1) rfl (by omega)).trans e1);have o2:(ovr DR5 A0 u).tmps[2]?.getD undef=_:=(af _ _).symm.trans ((ah (D:=DR5) (a0:=A0) (u:=u) (s:=2) rfl (by omega)).trans e2);have o5:(ovr DR5 A0 u).tmps[5]?.getD undef=_:=(af _ _).symm.trans ((ah (D:=DR5) (a0:=A0) (u:=u) (s:=5) rfl (by omega)).trans e5);have o6:(ovr DR5 A0 u).tmps[6]?.getD undef=_:=(af _ _).symm.trans ((ah (D:=DR5) (a0:=A0) (u:=u) (s:=6) rfl (by omega)).trans e6);obtain⟨w1,va,vn,vc,q0,q1,h1,h2,h3⟩:=hA;have x11:=(ev 33 rfl (by decide)).trans q0;have x12:=(ev 34 rfl (by decide)).trans (hF 12 (by decide));obtain⟨_,_,_,_,s6⟩:=HAFT.out w1 q1;obtain⟨u1,u2,u3,u4⟩:=s6 va vn vc W h1 h2 h3;have HU3:Hid _:=u3;have HU4:Hid _:=u4;clear s6 u3 u4 h1 h2 h3 hF;refine mj (W':=W.setCell ⟨w.heap.size+2,1,none⟩ (.slice va vn vc)) ?_ ?_ ?_
    ·exact rfl
    ·simp only[execOp];go_simp
    ·subst hA0;clear ev o1 o2 o5 o6 x11 x12 e1 e2 e5 e6 sz;simp[ovr,DR5,List.range,List.range.loop];go_wp2;exact⟨⟨k+1,by omega,by go_num,HU3.out,HU4.out⟩,by simp[intOf];omega⟩
  ·have e:k=6:=by omega
   subst e;have HHE:Hid (gr.kZ wr (w.heap.size+2) (w.heap.size+2) ⟨[],RR,[],(L.length:Int)+1,H.seed⟩):=by have:=hHe;rwa [List.take_of_length_le (by rw[HRL.out];exact Nat.le_refl _)]at this
   obtain⟨⟨z0,z1,z2,z3,z4⟩,⟨z5,z6,z7,z8⟩,_⟩:=ag kN;clear hHe hB kN kB HRN HRO;go_wp2_with fail;go_loopw [7] (fun q wz=>∃k:Nat,k≤H.a7.length∧q = .int .i64 (k:Int)∧gr.kZ wz (w.heap.size+2) (w.heap.size+2) ⟨[],RR,MM.take k,(L.length:Int)+1,H.seed⟩∧Below (w.heap.size+2) X wz) (fun q _=>H.a7.length-(intOf q).toNat);case atStart=>exact⟨0,Nat.zero_le _,rfl,HHE.out,HB.out⟩
   case round=>
    obtain⟨k,hk,rfl,hHe,hB⟩:=hrel;clear HHE HB;have HB:Hid _:=hB;obtain⟨kN,_,kB⟩:=HLOW.out wr hB;obtain⟨⟨z0,z1,z2,z3,z4⟩,⟨z5,z6,z7,z8⟩,_⟩:=ag kN;by_cases hlt:k<H.a7.length
    ·have hlt0:k<H.a7.length:=hlt;obtain⟨hwi,hti⟩:=HMO.out k hlt0;obtain⟨ga1,gn1,gc1,ga2,gn2,gc2,ga3,gn3,gc3,ms,T5,OG,NP,_⟩:=jj hHe;obtain⟨rb',ro,erb,hrb0,y0⟩:=bp HH.out.2.2.1 hlt0;have hrb:rb'<wr.heap.size:=Nat.lt_of_lt_of_le hrb0 kB.size;have y0:wr.cell? ⟨rb',ro+k,none⟩=_:=(kB.cell (p:=⟨rb',ro+k,none⟩) hrb0).trans y0;subst erb;have HHX:Hid (∀V,Below wr.heap.size wr V→gr.fh V (w.heap.size+2) 50 (.slice ga1 gn1 gc1) (.slice ga2 gn2 gc2) (.slice ga3 gn3 gc3) (.int .i64 ((L.length:Int)+1)) (.int .i64 H.seed)∧gr.ja V (w.heap.size+2) (.slice ga1 gn1 gc1) (.slice ga2 gn2 gc2) (.slice ga3 gn3 gc3) ms ⟨[],RR,MM.take k,(L.length:Int)+1,H.seed⟩):=fun V hV=>⟨gr.aJ T5 hV,gr.cI OG hV⟩
     have HNP:Hid _:=NP;have HNX:Hid _:=HMN.out k hlt0;have REF:=HRE.out wr.drew _ (kB.drew) hwi hti;obtain⟨e0,he0⟩:∃e0,cW H L (H.a7.getD k 0)=e0:=⟨_,rfl⟩
     rw[he0]at HNX REF;clear he0 hwi hti;obtain⟨ek,en⟩:=e0;obtain⟨p0,p1,p2,p3,p4,_⟩:=gr.ak T5;have szr:=hB.size;have hlt':(k:Int)<(H.a7.length:Int):=by omega
     have HRL2:Hid ((MM.take k).length≤1000000):=by show _≤_;rw[List.length_take];have:=HML.out;omega
     have HAFT:Hid (∀w1,Below wr.heap.size wr w1→(w1.cell? ⟨w.heap.size+2,2,none⟩=some (.slice ga3 gn3 gc3)∧(w1.alloc (gr.rb (ek,en))).cell? ⟨w.heap.size+2,2,none⟩=some (.slice ga3 gn3 gc3))∧gr.fJ (w1.alloc (gr.rb (ek,en))) (w.heap.size+2) (.slice ga3 gn3 gc3) (MM.take k)∧(w1.alloc (gr.rb (ek,en))).heap[w1.heap.size]? = some (gr.rb (ek,en))∧w.heap.size+2≤(w1.alloc (gr.rb (ek,en))).heap.size∧∀va vn vc w6,gr.fJ w6 (w.heap.size+2) (.slice va vn vc) (MM.take k++[(ek,en)])→gr.Ch (gr.blk (.slice ga3 gn3 gc3)) (w1.alloc (gr.rb (ek,en))) w6→(∀j ∈ gr.blk (.slice va vn vc),j ∈ gr.blk (.slice ga3 gn3 gc3)∨(w1.alloc (gr.rb (ek,en))).heap.size≤j)→w6.cell? ⟨w.heap.size+2,2,none⟩=some (.slice ga3 gn3 gc3)∧w6.frozen? ⟨w.heap.size+2,2,none⟩=false∧gr.kZ (w6.setCell ⟨w.heap.size+2,2,none⟩ (.slice va vn vc)) (w.heap.size+2) (w.heap.size+2) ⟨[],RR,MM.take (k+1),(L.length:Int)+1,H.seed⟩∧Below (w.heap.size+2) X (w6.setCell ⟨w.heap.size+2,2,none⟩ (.slice va vn vc))):=fun w1 b1=>by
      have B1:Below wr.heap.size wr w1:=b1;have B2:Below wr.heap.size wr (w1.alloc (gr.rb (ek,en))):=B1.alloc B1.size _;obtain⟨t1,g1⟩:=HHX.out _ B1;obtain⟨t2,g2⟩:=HHX.out _ B2;refine⟨⟨(gr.ak t1).2.2.1,(gr.ak t2).2.2.1⟩,g2.2.2.2.1,heap_alloc_new _ _,by have:=B2.size;have:=HSX.out;omega,fun va vn vc w6 r1 r2 r3 => ?_⟩
      obtain⟨u1,u2,u3,u4⟩:=gr.CJ t2 g2 HNP.out (Nat.le_refl _) r1 r2 r3;refine⟨u1,u2,?_,(HGR.out _ _ HB.out B2).trans u4⟩
      rw[HNX.out];exact u3
     have HCE:Hid (∀W,(Below wr.heap.size wr W∨∃V,Below wr.heap.size wr V∧gr.Ch (gr.blk (.slice ga3 gn3 gc3)) V W)→eJ W w.heap.size 26 (.int .i64 H.half) (.int .i64 H.old) (.slice a1 H.row.length c1) (.int .i64 H.side) (.int .i64 H.top) (.slice a2 H.roots.length c2) (.slice (some ⟨rb',ro,none⟩) H.a7.length c3) (.slice a4 H.seen.length c4) (.int .i64 H.seed)∧gr.fh W (w.heap.size+2) 50 (.slice ga1 gn1 gc1) (.slice ga2 gn2 gc2) (.slice ga3 gn3 gc3) (.int .i64 ((L.length:Int)+1)) (.int .i64 H.seed)∧W.cell? ⟨rb',ro+k,none⟩=some (.int .i64 (H.a7.getD k 0))):=by
      have hce:∀W:World,W.heap[rb']? = wr.heap[rb']? → W.cell? ⟨rb',ro+k,none⟩=some (.int .i64 (H.a7.getD k 0)):=fun W h3=>by
       rw[←y0];unfold World.cell?;simp only;rw[h3]
      have hrw:rb'<w.heap.size:=hrb0;rintro W (hW|⟨V,hV,hc⟩)
      ·exact⟨(hW.block _ (lt_of_block kN)).trans kN,(HHX.out W hW).1,hce W (hW.block _ hrb)⟩
      ·have hlo:∀q ∈ gr.blk (.slice ga3 gn3 gc3),w.heap.size+2≤q:=fun q hq=>(gr.aM OG.2.2.2.1 q hq).1
       have hn0:w.heap.size ∉ gr.blk (.slice ga3 gn3 gc3):=fun hq=>by have:=hlo _ hq;omega
       have hnP:w.heap.size+2 ∉ gr.blk (.slice ga3 gn3 gc3):=fun hq=>NP (by simp only[gr.cj,List.mem_append];exact .inr hq)
       have hnr:rb' ∉ gr.blk (.slice ga3 gn3 gc3):=fun hq=>by have:=hlo _ hq;omega
       exact⟨(hc.block _ (Nat.lt_of_lt_of_le (lt_of_block kN) hV.size) hn0).trans ((hV.block _ (lt_of_block kN)).trans kN),gr.eV (HHX.out V hV).1 hc hnP,hce W ((hc.block _ (Nat.lt_of_lt_of_le hrb hV.size) hnr).trans (hV.block _ hrb))⟩
     clear hHe hB kN kB T5 OG NP HHX p0 p1 p2 p3 p4;generalize H.a7.getD k 0=xx at *;go_upto_region 9 with fail
     clear z0 z1 z2 z3 z4 z5 z6 z7 z8;generalize hA0:(Act.mk _ [])=A0;have e1:A0.tmps.getD 1 undef = .slice oa L.length oc:=by rw[←hA0];rfl
     have e2:A0.tmps.getD 2 undef = .pointer (some ⟨w.heap.size,0,none⟩):=by rw[←hA0];rfl
     have e5:A0.tmps.getD 5 undef = .pointer (some ⟨w.heap.size+2,0,none⟩):=by rw[←hA0];rfl
     have e7:A0.tmps.getD 7 undef = .int .i64 (k:Int):=by rw[←hA0];rfl
     have sz:A0.tmps.size=109:=by rw[←hA0];rfl
     refine fq (by kernel_rfl) DR9 (by simp) ?_ 13 9 10 11 rfl (by decide) (by decide) (by decide) (by decide) (by decide) (by decide) dR9 FZ (FR9 H w a1 a2 (some ⟨rb',ro,none⟩) a4 c1 c2 c3 c4 oa L oc ga3 gn3 gc3 rb' ro k xx) (fun V=>V=wr.drew) (fun t V=>t=gr.rv (ek,en)∧Below wr.heap.size wr V) (fun t V=>∃w1,Below wr.heap.size wr w1∧V=w1.alloc (gr.rb (ek,en))∧t = .slice (some ⟨w1.heap.size,0,none⟩) 1 1) (fun t V=>∃w1 va vn vc,t = .slice va vn vc∧Below wr.heap.size wr w1∧gr.fJ V (w.heap.size+2) (.slice va vn vc) (MM.take k++[(ek,en)])∧gr.Ch (gr.blk (.slice ga3 gn3 gc3)) (w1.alloc (gr.rb (ek,en))) V∧∀j ∈ gr.blk (.slice va vn vc),j ∈ gr.blk (.slice ga3 gn3 gc3)∨(w1.alloc (gr.rb (ek,en))).heap.size≤j) (rfl) ?_ ?_ ?_ ?_ ?_ ?_ ?_ ?_
     ·intro k o ho;have hk:k<14:=(Array.getElem?_eq_some_iff.1 ho).1;rcases (show k=0∨k=1∨k=2∨k=3∨k=4∨k=5∨k=6∨k=7∨k=8∨k=9∨k=10∨k=11∨k=12∨k=13 by omega) with rfl|rfl|rfl|rfl|rfl|rfl|rfl|rfl|rfl|rfl|rfl|rfl|rfl|rfl<;>(obtain rfl:=Option.some.inj ho;simp[Region.binds])
     ·intro o ho kk hkk;obtain rfl:=Option.some.inj ho;rcases (show kk=0∨kk=1∨kk=2∨kk=3∨kk=4∨kk=5∨kk=6∨kk=7∨kk=8∨kk=9∨kk=10∨kk=11∨kk=12 by omega) with rfl|rfl|rfl|rfl|rfl|rfl|rfl|rfl|rfl|rfl|rfl|rfl|rfl<;>simp[Region.binds]
     ·intro o ho;obtain rfl:=Option.some.inj ho;simp[Region.binds]
     ·intro o ho;obtain rfl:=Option.some.inj ho;simp[Region.binds]
     ·intro k o u W hk hk1 hk2 hk3 ho hAB hF;have ev:∀s,DR9 s=true→s<109→(ovr DR9 A0 u).tmps[s]?.getD undef=u s:=fun s h1 h2=>(af _ _).symm.trans (aS h1 (by omega))
      have o1:(ovr DR9 A0 u).tmps[1]?.getD undef=_:=(af _ _).symm.trans ((ah (D:=DR9) (a0:=A0) (u:=u) (s:=1) rfl (by omega)).trans e1);have o2:(ovr DR9 A0 u).tmps[2]?.getD undef=_:=(af _ _).symm.trans ((ah (D:=DR9) (a0:=A0) (u:=u) (s:=2) rfl (by omega)).trans e2);have o5:(ovr DR9 A0 u).tmps[5]?.getD undef=_:=(af _ _).symm.trans ((ah (D:=DR9) (a0:=A0) (u:=u) (s:=5) rfl (by omega)).trans e5);have o7:(ovr DR9 A0 u).tmps[7]?.getD undef=_:=(af _ _).symm.trans ((ah (D:=DR9) (a0:=A0) (u:=u) (s:=7) rfl (by omega)).trans e7)
      have hC:Below wr.heap.size wr W∨∃V,Below wr.heap.size wr V∧gr.Ch (gr.blk (.slice ga3 gn3 gc3)) V W:=by
       rcases hAB with e|e|⟨w1,q1,q2,_⟩|⟨w1,_,_,_,_,q1,_,q2,_⟩
       ·exact .inl (by rw[e];exact (Below.refl _ _).drew)
       ·exact .inl e.2
       ·exact .inl (by rw[q2];exact q1.alloc q1.size _)
       ·exact .inr ⟨_,q1.alloc q1.size _,q2⟩
      obtain⟨hN9,hF5,y0⟩:=HCE.out W hC;obtain⟨⟨z0,z1,z2,z3,z4⟩,⟨z5,z6,z7,z8⟩,_⟩:=ag hN9;obtain⟨p0,p1,p2,_,_,_⟩:=gr.ak hF5;clear hAB hC hN9 hF5;rcases (show k=0∨k=1∨k=2∨k=3∨k=4∨k=5∨k=6∨k=7∨k=8∨k=9∨k=10∨k=11∨k=12 by omega) with rfl|rfl|rfl|rfl|rfl|rfl|rfl|rfl|rfl|rfl|rfl|rfl|rfl
      all_goals obtain rfl:=Option.some.inj ho
      ·refine bg (v:=.pointer (some ⟨w.heap.size+2,2,none⟩)) rfl rfl ?_ rfl;simp only[execOp];go_simp;try go_num
       try (rw[IntKind.wrap_i64];omega)
      ·have x0:=(ev 42 rfl (by decide)).trans (hF 0 (by decide) (by simp[Region.binds]));refine bg (v:=(.slice ga3 gn3 gc3)) rfl rfl ?_ rfl;simp only[execOp];go_simp;try go_num
       try (rw[IntKind.wrap_i64];omega)
      ·refine bg (v:=hpv H (.slice a1 H.row.length c1) (.slice a2 H.roots.length c2) (.slice (some ⟨rb',ro,none⟩) H.a7.length c3) (.slice a4 H.seen.length c4)) rfl rfl ?_ rfl;simp only[execOp];go_simp;try go_num
       try (rw[IntKind.wrap_i64];omega)
      ·refine bg (v:=.slice oa L.length oc) rfl rfl ?_ rfl;simp only[execOp];go_simp;try go_num
       try (rw[IntKind.wrap_i64];omega)
      ·refine bg (v:=.pointer (some ⟨w.heap.size,6,none⟩)) rfl rfl ?_ rfl;simp only[execOp];go_simp;try go_num
       try (rw[IntKind.wrap_i64];omega)
      ·have x4:=(ev 46 rfl (by decide)).trans (hF 4 (by decide) (by simp[Region.binds]));refine bg (v:=.slice (some ⟨rb',ro,none⟩) H.a7.length c3) rfl rfl ?_ rfl;simp only[execOp];go_simp;try go_num
       try (rw[IntKind.wrap_i64];omega)
      ·refine bg (v:=.int .i64 (k:Int)) rfl rfl ?_ rfl;simp only[execOp];go_simp;try go_num
       try (rw[IntKind.wrap_i64];omega)
      ·have x5:=(ev 47 rfl (by decide)).trans (hF 5 (by decide) (by simp[Region.binds]));have x6:=(ev 48 rfl (by decide)).trans (hF 6 (by decide) (by simp[Region.binds]));refine bg (v:=.pointer (some ⟨rb',ro+k,none⟩)) rfl rfl ?_ rfl;simp only[execOp];go_simp;try go_num
       try (rw[IntKind.wrap_i64];omega)
      ·have x7:=(ev 49 rfl (by decide)).trans (hF 7 (by decide) (by simp[Region.binds]));refine bg (v:=.int .i64 xx) rfl rfl ?_ rfl;simp only[execOp];go_simp;try go_num
       try (rw[IntKind.wrap_i64];omega)
      ·exact absurd rfl hk1
      ·exact absurd rfl hk2
      ·exact absurd rfl hk3
      ·refine bg (v:=.pointer (some ⟨w.heap.size+2,2,none⟩)) rfl rfl ?_ rfl;simp only[execOp];go_simp;try go_num
       try (rw[IntKind.wrap_i64];omega)
     ·intro o u W ho hA hF;obtain rfl:=Option.some.inj ho;have ev:∀s,DR9 s=true→s<109→(ovr DR9 A0 u).tmps[s]?.getD undef=u s:=fun s h1 h2=>(af _ _).symm.trans (aS h1 (by omega))
      have o1:(ovr DR9 A0 u).tmps[1]?.getD undef=_:=(af _ _).symm.trans ((ah (D:=DR9) (a0:=A0) (u:=u) (s:=1) rfl (by omega)).trans e1);have o2:(ovr DR9 A0 u).tmps[2]?.getD undef=_:=(af _ _).symm.trans ((ah (D:=DR9) (a0:=A0) (u:=u) (s:=2) rfl (by omega)).trans e2);have o5:(ovr DR9 A0 u).tmps[5]?.getD undef=_:=(af _ _).symm.trans ((ah (D:=DR9) (a0:=A0) (u:=u) (s:=5) rfl (by omega)).trans e5);have o7:(ovr DR9 A0 u).tmps[7]?.getD undef=_:=(af _ _).symm.trans ((ah (D:=DR9) (a0:=A0) (u:=u) (s:=7) rfl (by omega)).trans e7);have x2:=(ev 44 rfl (by decide)).trans (hF 2 (by decide) (by simp[Region.binds]));have x3:=(ev 45 rfl (by decide)).trans (hF 3 (by decide) (by simp[Region.binds]));have x8:=(ev 50 rfl (by decide)).trans (hF 8 (by decide) (by simp[Region.binds]));subst hA;refine oD (f:=92) (args:=#[hpv H (.slice a1 H.row.length c1) (.slice a2 H.roots.length c2) (.slice (some ⟨rb',ro,none⟩) H.a7.length c3) (.slice a4 H.seen.length c4),.slice oa L.length oc,.int .i64 xx]) rfl rfl ?_ ?_
      ·simp only[execOp];go_simp
      ·exact REF.mono fun e w' ⟨he,hb⟩=>⟨_,he,⟨rfl,⟨hb.os,hb.tape,hb.output,hb.size,hb.block⟩⟩,trivial⟩
     ·intro o u W ho hA hF;obtain rfl:=Option.some.inj ho;have ev:∀s,DR9 s=true→s<109→(ovr DR9 A0 u).tmps[s]?.getD undef=u s:=fun s h1 h2=>(af _ _).symm.trans (aS h1 (by omega))
      have o1:(ovr DR9 A0 u).tmps[1]?.getD undef=_:=(af _ _).symm.trans ((ah (D:=DR9) (a0:=A0) (u:=u) (s:=1) rfl (by omega)).trans e1);have o2:(ovr DR9 A0 u).tmps[2]?.getD undef=_:=(af _ _).symm.trans ((ah (D:=DR9) (a0:=A0) (u:=u) (s:=2) rfl (by omega)).trans e2);have o5:(ovr DR9 A0 u).tmps[5]?.getD undef=_:=(af _ _).symm.trans ((ah (D:=DR9) (a0:=A0) (u:=u) (s:=5) rfl (by omega)).trans e5);have o7:(ovr DR9 A0 u).tmps[7]?.getD undef=_:=(af _ _).symm.trans ((ah (D:=DR9) (a0:=A0) (u:=u) (s:=7) rfl (by omega)).trans e7);have x9:=(ev 51 rfl (by decide)).trans hA.1;refine gE (v:=.slice (some ⟨W.heap.size,0,none⟩) 1 1) (W':=W.alloc (gr.rb (ek,en))) rfl rfl ?_ ⟨W,hA.2,rfl,rfl⟩ trivial;simp only[execOp];go_simp
     ·intro o u W ho hA hF;obtain rfl:=Option.some.inj ho;have ev:∀s,DR9 s=true→s<109→(ovr DR9 A0 u).tmps[s]?.getD undef=u s:=fun s h1 h2=>(af _ _).symm.trans (aS h1 (by omega))
      have o1:(ovr DR9 A0 u).tmps[1]?.getD undef=_:=(af _ _).symm.trans ((ah (D:=DR9) (a0:=A0) (u:=u) (s:=1) rfl (by omega)).trans e1);have o2:(ovr DR9 A0 u).tmps[2]?.getD undef=_:=(af _ _).symm.trans ((ah (D:=DR9) (a0:=A0) (u:=u) (s:=2) rfl (by omega)).trans e2);have o5:(ovr DR9 A0 u).tmps[5]?.getD undef=_:=(af _ _).symm.trans ((ah (D:=DR9) (a0:=A0) (u:=u) (s:=5) rfl (by omega)).trans e5);have o7:(ovr DR9 A0 u).tmps[7]?.getD undef=_:=(af _ _).symm.trans ((ah (D:=DR9) (a0:=A0) (u:=u) (s:=7) rfl (by omega)).trans e7);have x1:=(ev 43 rfl (by decide)).trans (hF 1 (by decide) (by simp[Region.binds]));obtain⟨w1,q1,q2,q3⟩:=hA;subst q2;have x10:=(ev 52 rfl (by decide)).trans q3;obtain⟨_,s3,s4,s5,_⟩:=HAFT.out w1 q1;obtain⟨va,vn,vc,w6,hr,h1,h2,h3⟩:=gr.mK s3 s4 HRL2.out s5 48;refine gE (v:=.slice va vn vc) (W':=w6) rfl rfl ?_ ⟨w1,va,vn,vc,rfl,q1,h1,h2,h3⟩ trivial;simp[execOp,resolve,invoke,builtin,Act.eval,x1,x10,hr,Result.andThen]
     ·intro o u W ho hA hF;obtain rfl:=Option.some.inj ho;have ev:∀s,DR9 s=true→s<109→(ovr DR9 A0 u).tmps[s]?.getD undef=u s:=fun s h1 h2=>(af _ _).symm.trans (aS h1 (by omega))
      have o1:(ovr DR9 A0 u).tmps[1]?.getD undef=_:=(af _ _).symm.trans ((ah (D:=DR9) (a0:=A0) (u:=u) (s:=1) rfl (by omega)).trans e1);have o2:(ovr DR9 A0 u).tmps[2]?.getD undef=_:=(af _ _).symm.trans ((ah (D:=DR9) (a0:=A0) (u:=u) (s:=2) rfl (by omega)).trans e2);have o5:(ovr DR9 A0 u).tmps[5]?.getD undef=_:=(af _ _).symm.trans ((ah (D:=DR9) (a0:=A0) (u:=u) (s:=5) rfl (by omega)).trans e5);have o7:(ovr DR9 A0 u).tmps[7]?.getD undef=_:=(af _ _).symm.trans ((ah (D:=DR9) (a0:=A0) (u:=u) (s:=7) rfl (by omega)).trans e7);obtain⟨w1,va,vn,vc,q0,q1,h1,h2,h3⟩:=hA;have x11:=(ev 53 rfl (by decide)).trans q0;have x12:=(ev 54 rfl (by decide)).trans (hF 12 (by decide));obtain⟨_,_,_,_,s6⟩:=HAFT.out w1 q1;obtain⟨u1,u2,u3,u4⟩:=s6 va vn vc W h1 h2 h3;have HU3:Hid _:=u3;have HU4:Hid _:=u4;clear s6 u3 u4 h1 h2 h3 hF;refine mj (W':=W.setCell ⟨w.heap.size+2,2,none⟩ (.slice va vn vc)) ?_ ?_ ?_
      ·exact rfl
      ·simp only[execOp];go_simp
      ·subst hA0;clear ev o1 o2 o5 o7 x11 x12 e1 e2 e5 e7 sz;simp[ovr,DR9,List.range,List.range.loop];go_wp2;exact⟨⟨k+1,by omega,by go_num,HU3.out,HU4.out⟩,by simp[intOf];omega⟩
    ·have e:k=H.a7.length:=by omega
     subst e;have hlt':¬(H.a7.length:Int)<(H.a7.length:Int):=by omega
     have HHE:Hid (gr.kZ wr (w.heap.size+2) (w.heap.size+2) ⟨[],RR,MM,(L.length:Int)+1,H.seed⟩):=by have:=hHe;rwa [List.take_of_length_le (by rw[HML.out];exact Nat.le_refl _)]at this
     clear hHe hB kN kB HMN HMO;go_wp2_with fail;go_loopw [8,9,10,11] (fun q _ _ _ wz=>∃k:Nat,k≤L.length∧q = .int .i64 (k:Int)∧gr.kZ wz (w.heap.size+2) (w.heap.size+2) ⟨(List.range k).map (obS H L),RR,MM,(L.length:Int)+1,H.seed⟩∧Below (w.heap.size+2) X wz) (fun q _ _ _ _=>L.length-(intOf q).toNat);case atStart=>exact⟨0,Nat.zero_le _,rfl,HHE.out,HB.out⟩
     case round=>
      obtain⟨k,hk,rfl,hHe,hB⟩:=hrel;clear HHE HB;have HB:Hid _:=hB;obtain⟨kN,kR,kB⟩:=HLOW.out wr hB;by_cases hlt:k<L.length
      ·have hlt':(k:Int)<(L.length:Int):=by omega
       obtain⟨lb,lo,ea,hlb0,x00⟩:=bp HL.out hlt;subst ea;have hlb:lb<wr.heap.size:=Nat.lt_of_lt_of_le hlb0 kB.size;have x0:wr.cell? ⟨lb,lo+k,none⟩=_:=(kB.cell (p:=⟨lb,lo+k,none⟩) hlb0).trans x00;obtain⟨hpp,h6,h7⟩:=HOB.out (L.getD k 0) (by rw[List.getD_eq_getElem?_getD,List.getElem?_eq_getElem hlt];exact List.getElem_mem hlt);obtain⟨j,hj,hjl,hch⟩:=HR.out.plc _ hpp;have hsk:=HSL.out k hlt;have HOS:Hid (obS H L k=⟨(k:Int)+1,uC (H.row.getD j 0),uF (H.row.getD j 0),uH (H.row.getD j 0),(slotsOf H (j:Int)).map (cW H L)⟩):=by show _=_;unfold obS;rw[hj,Int.toNat_natCast]
       rw[hj]at x0 x00 hpp h6 h7 hsk;unfold fm at h6 h7;rw[Int.toNat_natCast]at h6 h7;obtain⟨hs0,hs20⟩:=zQ hch;have qq:=ee hch;obtain⟨sn,hsn⟩:∃sn:Nat,uS (H.row.getD j 0)=(sn:Int):=⟨(uS (H.row.getD j 0)).toNat,by omega⟩
       have hso:slotsOf H (j:Int)=(H.row.drop (j+1)).take sn:=by
        unfold slotsOf cnS;rw[Int.toNat_natCast,if_neg h7,if_neg h6,hsn,Int.toNat_natCast]
       have hjs:j+1+sn≤H.row.length:=by
        have:=qq.2
        unfold cnS at this;rw[if_neg h7,if_neg h6,hsn]at this;omega
       have HTL:Hid ((slotsOf H (j:Int)).length=sn):=by show _=_;rw[hso,List.length_take,List.length_drop];omega
       have HTG:Hid (∀i,i<sn→(slotsOf H (j:Int)).getD i 0=H.row.getD (j+1+i) 0):=fun i hi=>by
        rw[hso,List.getD_eq_getElem?_getD,List.getElem?_take,if_pos hi,List.getElem?_drop,←List.getD_eq_getElem?_getD]
       have HTM:Hid (∀i,i<sn→(slotsOf H (j:Int)).getD i 0 ∈ slotsOf H (j:Int)):=fun i hi=>by
        have:=HTL.out
        rw[List.getD_eq_getElem?_getD,List.getElem?_eq_getElem (by omega)];exact List.getElem_mem _
       have HTW:Hid (∀i,i<sn→aP H ps (H.row.getD (j+1+i) 0)=true∧∀b,tgt H (H.row.getD (j+1+i) 0)=some b→b ∈ L):=fun i hi=>by
        rw[←HTG.out i hi];exact⟨HR.out.uh hpp (HTM.out i hi),hsk _ (HTM.out i hi)⟩
       have HTN:Hid (∀i,i<sn→((slotsOf H (j:Int)).map (cW H L)).take (i+1)=((slotsOf H (j:Int)).map (cW H L)).take i++[cW H L (H.row.getD (j+1+i) 0)]):=fun i hi=>by rw[ji (by rw[HTL.out];exact hi),HTG.out i hi]
       have HTS:Hid (((slotsOf H (j:Int)).map (cW H L)).take sn=(slotsOf H (j:Int)).map (cW H L)):=List.take_of_length_le (by rw[List.length_map,HTL.out];exact Nat.le_refl _)
       have HL4:Hid (∀W,Below wr.heap.size wr W→Calls Tryz.prog 45 #[(.slice a1 H.row.length c1),.int .i64 (j:Int)] W fun e w'=>e = .returned (hv (sn:Int) (uF (H.row.getD j 0)) (uC (H.row.getD j 0)) (uH (H.row.getD j 0)) (uP (H.row.getD j 0)) (uM (H.row.getD j 0)))∧Below W.heap.size W w'):=fun W hW=>by
        have:=eD (aa (aD HH.out kB).1 hW) j hjl
        unfold hw at this;rw[hsn]at this;exact this
       have BA:=(Below.refl wr.heap.size wr).alloc (Nat.le_refl _) (hb 0 0 0 0 false false);obtain⟨⟨z0,z1,z2,z3,z4⟩,⟨z5,z6,z7,z8⟩,_⟩:=ag kN;have z2':=(BA.cell (p:=⟨w.heap.size,2,none⟩) (World.block_lt_of_cell? _ _ z2)).trans z2;have x0':=(BA.cell (p:=⟨lb,lo+k,none⟩) hlb).trans x0;have HA:Hid (∀W,Below (wr.alloc (hb 0 0 0 0 false false)).heap.size (wr.alloc (hb 0 0 0 0 false false)) W→bK W wr.heap.size 0 0 0 0 false false):=fun W hW=>bG (cH wr 0 0 0 0 false false) hW
       have HBA:Hid _:=BA;have HHE:Hid _:=hHe;have hsn20:sn≤1000:=by omega
       have hjl1:j<1000:=by omega
       have HSZW:Hid (w.heap.size+3≤wr.heap.size):=by show _≤_;have:=hB.size;have:=HSX.out;omega
       clear hHe hB kN kR kB hpp h6 h7 hj hch hs0 hs20 qq hsn hso hsk BA HTM;generalize uF (H.row.getD j 0)=f at *;generalize uC (H.row.getD j 0)=c at *;generalize uH (H.row.getD j 0)=g at *;generalize uP (H.row.getD j 0)=p at *;generalize uM (H.row.getD j 0)=m at *;obtain⟨TR,hTR⟩:∃TR,(slotsOf H (j:Int)).map (cW H L)=TR:=⟨_,rfl⟩
       rw[hTR]at HOS HTS;simp only[hTR]at HTN;clear hTR HTL HTG;go_upto_region 13 with fail
       go_cut [8,9] from 55 to 107 (fun i q wy=>i = .int .i64 (k:Int)∧∃B,q = .pointer (some ⟨B,0,none⟩)∧bK wy B (sn:Int) f c g p m∧Below wr.heap.size wr wy)
       case first=>
        go_region_law (first
         |(go_simp;go_at_call 45;refine (HL4.out _ HBA.out.drew).mono ?_;clear HL4;rintro e w6 ⟨rfl,b6⟩;have b7:Below (wr.alloc (hb 0 0 0 0 false false)).heap.size (wr.alloc (hb 0 0 0 0 false false)) w6:=⟨b6.os,b6.tape,b6.output,b6.size,b6.block⟩;have TA:=HA.out w6 b7;obtain⟨t0',t1',t2',t3',t4',t5',tf⟩:=aO TA;have f0:=tf 0;have f1:=tf 1;have f2:=tf 2;have f3:=tf 3;have f4:=tf 4;have f5:=tf 5;have HEnd:Hid _:=And.intro (jK TA (sn:Int) f c g p m) (fk (HBA.out.trans (b7.mono HBA.out.size)) (Nat.le_refl wr.heap.size) (sn:Int) f c g p m);clear b6 b7 TA tf)
         |(go_simp;go_at_call 45;refine (HL4.out _ (Below.refl _ _).drew).mono ?_;clear HL4;rintro e w6 ⟨rfl,b6⟩;have b7:Below wr.heap.size wr w6:=⟨b6.os,b6.tape,b6.output,b6.size,b6.block⟩;have HEnd:Hid _:=And.intro (cH w6 (sn:Int) f c g p m) (b7.alloc b7.size (hb (sn:Int) f c g p m));clear b6 b7))
        all_goals (go_wp2_with fail)
        all_goals go_meet
        all_goals exact⟨rfl,_,rfl,HEnd.out.1,HEnd.out.2⟩
       obtain⟨rfl,B,rfl,hHd,hBy⟩:=hcut;have hB7:=HGR.out _ _ HB.out hBy;have hHe7:=gr.eZ HHE.out hBy;obtain⟨t0,t1,t2,t3,t4,t5,_⟩:=aO hHd;have hkw:IntKind.i64.wrap ((k:Int)+1)=(k:Int)+1:=by rw[IntKind.wrap_i64];omega
       obtain⟨ga1,gn1,gc1,ga2,gn2,gc2,ga3,gn3,gc3,ms,T5,OG,NP,_⟩:=jj hHe7;have hml:ms.length=k:=by have:=congrArg List.length OG.1;simpa using this
       have hGl:=gr.dz OG;have hPl:=lt_of_block T5;have hBl:=lt_of_block hHd
       have BO:Below wc.heap.size wc (wc.alloc (.cells #[.int .i64 ((k:Int)+1),.int .i64 c,.int .i64 f,.int .i64 g,.slice none 0 0] 60)):=(Below.refl _ _).alloc (Nat.le_refl _) _;have HF8:Hid (gr.fh (wc.alloc (.cells #[.int .i64 ((k:Int)+1),.int .i64 c,.int .i64 f,.int .i64 g,.slice none 0 0] 60)) wc.heap.size 60 (.int .i64 ((k:Int)+1)) (.int .i64 c) (.int .i64 f) (.int .i64 g) (.slice none 0 0)):=heap_alloc_new wc _;have h8X:=HGR.out _ _ hB7 BO;obtain⟨kN8,kR8,kB8⟩:=HLOW.out _ h8X;have hP3:w.heap.size+3≤wc.heap.size:=by have:=HSZW.out;have:=hBy.size;omega
       have hs8:wc.heap.size<(wc.alloc (.cells #[.int .i64 ((k:Int)+1),.int .i64 c,.int .i64 f,.int .i64 g,.slice none 0 0] 60)).heap.size:=by simp
       -- what stands while the object's Slots are told
       have HST:Hid (∀V,gr.Ch [wc.heap.size] (wc.alloc (.cells #[.int .i64 ((k:Int)+1),.int .i64 c,.int .i64 f,.int .i64 g,.slice none 0 0] 60)) V→eJ V w.heap.size 26 (.int .i64 H.half) (.int .i64 H.old) (.slice a1 H.row.length c1) (.int .i64 H.side) (.int .i64 H.top) (.slice a2 H.roots.length c2) (.slice a3 H.a7.length c3) (.slice a4 H.seen.length c4) (.int .i64 H.seed)∧bK V B (sn:Int) f c g p m∧gr.fh V (w.heap.size+2) 50 (.slice ga1 gn1 gc1) (.slice ga2 gn2 gc2) (.slice ga3 gn3 gc3) (.int .i64 ((L.length:Int)+1)) (.int .i64 H.seed)∧gr.ja V (w.heap.size+2) (.slice ga1 gn1 gc1) (.slice ga2 gn2 gc2) (.slice ga3 gn3 gc3) ms ⟨(List.range k).map (obS H L),RR,MM,(L.length:Int)+1,H.seed⟩∧Below (w.heap.size+2) X V∧Below w.heap.size w V):=fun V hV=>by
        have hlt8:∀q,q<wc.heap.size→V.heap[q]? = wc.heap[q]? := fun q hq=>(hV.block q (by omega) (by simp;omega)).trans (BO.block q hq)
        refine⟨(hlt8 _ (by omega)).trans (HLOW.out _ hB7).1,(hlt8 B hBl).trans hHd,(hlt8 _ (by omega)).trans T5,gr.fN (gr.cI OG BO) hV (fun q hq hc=>by have:=(hGl q hq).2;have e:q=wc.heap.size:=(by simpa using hc);omega),?_,?_⟩
        ·exact h8X.trans ⟨hV.os,hV.tape,hV.output,hV.size,fun q hq=>hV.block q (by omega) (by simp;omega)⟩
        ·exact kB8.trans ⟨hV.os,hV.tape,hV.output,hV.size,fun q hq=>hV.block q (by omega) (by simp;omega)⟩
       have HNP:Hid _:=NP;have HGL:Hid (∀q ∈ gr.cj (.slice ga1 gn1 gc1) (.slice ga2 gn2 gc2) (.slice ga3 gn3 gc3) ms,q<wc.heap.size):=fun q hq=>(hGl q hq).2
       clear z0 z1 z2 z3 z4 z5 z6 z7 z8 z2' x0' HL4 HA HBA hHd hBy HB HHE T5 OG NP hHe7 hB7 BO hGl h8X kN8 kR8 kB8;go_wp2_with fail;generalize (wc.alloc (.cells #[.int .i64 ((k:Int)+1),.int .i64 c,.int .i64 f,.int .i64 g,.slice none 0 0] 60))=W8 at *;generalize wc.heap.size=Bo at *;go_loopw [11] (fun q wz=>∃(i:Nat) (sv:Value),i≤sn∧q = .int .i64 (i:Int)∧gr.fh wz Bo 60 (.int .i64 ((k:Int)+1)) (.int .i64 c) (.int .i64 f) (.int .i64 g) sv∧gr.fJ wz (w.heap.size+2) sv (TR.take i)∧(∀z ∈ gr.blk sv,W8.heap.size≤z)∧gr.Ch [Bo] W8 wz) (fun q _=>sn-(intOf q).toNat);case atStart=>exact⟨0,_,Nat.zero_le _,rfl,HF8.out,gr.kK _ _,fun z hz=>by simp[gr.blk,Value.ownBlock]at hz,gr.Ch.refl _ _⟩
       case round=>
        obtain⟨i,sv,hi,rfl,hF,hO,hK,hC⟩:=hrel;clear HF8 t0 t1 t2 t3 t4 t5;obtain⟨sa,sq,sc,hsv⟩:=gr.cO (gr.cB hO);subst hsv;obtain⟨kN,kD,kT,kG,kX,kB⟩:=HST.out wr hC;obtain⟨t0,t1,t2,t3,t4,t5,_⟩:=aO kD;obtain⟨⟨z0,z1,z2,z3,z4⟩,⟨z5,z6,z7,z8⟩,_⟩:=ag kN;have hF':=lt_of_block hF;have szw:=hC.size;by_cases hil:i<sn
        ·have hil':(i:Int)<(sn:Int):=by omega
         obtain⟨hwi,hti⟩:=HTW.out i hil;obtain⟨rb',ro,erb,hrb0,y0⟩:=bp HH.out.1 (k:=j+1+i) (by omega);subst erb;have hrb:rb'<wr.heap.size:=Nat.lt_of_lt_of_le hrb0 kB.size;have y0:wr.cell? ⟨rb',ro+(j+1+i),none⟩=_:=(kB.cell (p:=⟨rb',ro+(j+1+i),none⟩) hrb0).trans y0;have l0:wr.cell? ⟨lb,lo+k,none⟩=some (.int .i64 (j:Int)):=(kB.cell (p:=⟨lb,lo+k,none⟩) hlb0).trans x00;have hlbw:lb<wr.heap.size:=Nat.lt_of_lt_of_le hlb0 kB.size;have HNX:Hid _:=HTN.out i hil;have REF:=HRE.out wr.drew _ (kB.drew) hwi hti
         have HCE:Hid (∀W,(Below wr.heap.size wr W∨∃V,Below wr.heap.size wr V∧gr.Ch (gr.blk (.slice sa sq sc)) V W)→eJ W w.heap.size 26 (.int .i64 H.half) (.int .i64 H.old) (.slice (some ⟨rb',ro,none⟩) H.row.length c1) (.int .i64 H.side) (.int .i64 H.top) (.slice a2 H.roots.length c2) (.slice a3 H.a7.length c3) (.slice a4 H.seen.length c4) (.int .i64 H.seed)∧gr.fh W Bo 60 (.int .i64 ((k:Int)+1)) (.int .i64 c) (.int .i64 f) (.int .i64 g) (.slice sa sq sc)∧W.cell? ⟨rb',ro+(j+1+i),none⟩=some (.int .i64 (H.row.getD (j+1+i) 0))∧W.cell? ⟨lb,lo+k,none⟩=some (.int .i64 (j:Int))):=by
          have hce:∀(W:World) (q z:Nat) (x:Value),wr.cell? ⟨q,z,none⟩=some x→W.heap[q]? = wr.heap[q]? → W.cell? ⟨q,z,none⟩=some x:=fun W q z x h3 h4=>by
           rw[←h3];unfold World.cell?;simp only;rw[h4]
          rintro W (hW|⟨V,hV,hc⟩)
          ·exact⟨(hW.block _ (lt_of_block kN)).trans kN,(hW.block _ hF').trans hF,hce W _ _ _ y0 (hW.block _ hrb),hce W _ _ _ l0 (hW.block _ hlbw)⟩
          ·have nn:∀q,q<W8.heap.size→q<wr.heap.size→W.heap[q]? = wr.heap[q]? := fun q h3 h4=>(hc.block q (Nat.lt_of_lt_of_le h4 hV.size) (fun hq=>by have:=hK q hq;omega)).trans (hV.block q h4)
           exact⟨(nn _ (by omega) (lt_of_block kN)).trans kN,(nn Bo (by omega) hF').trans hF,hce W _ _ _ y0 (nn rb' (by omega) hrb),hce W _ _ _ l0 (nn lb (by omega) hlbw)⟩
         obtain⟨e0,he0⟩:∃e0,cW H L (H.row.getD (j+1+i) 0)=e0:=⟨_,rfl⟩
         rw[he0]at HNX REF;clear he0 hwi hti;obtain⟨ek,en⟩:=e0;have HRL2:Hid ((TR.take i).length≤1000000):=by show _≤_;rw[List.length_take];omega
         have HAFT:Hid (∀w1,Below wr.heap.size wr w1→True∧gr.fJ (w1.alloc (gr.rb (ek,en))) (w.heap.size+2) (.slice sa sq sc) (TR.take i)∧(w1.alloc (gr.rb (ek,en))).heap[w1.heap.size]? = some (gr.rb (ek,en))∧w.heap.size+2≤(w1.alloc (gr.rb (ek,en))).heap.size∧∀va vn vc w6,gr.fJ w6 (w.heap.size+2) (.slice va vn vc) (TR.take i++[(ek,en)])→gr.Ch (gr.blk (.slice sa sq sc)) (w1.alloc (gr.rb (ek,en))) w6→(∀z ∈ gr.blk (.slice va vn vc),z ∈ gr.blk (.slice sa sq sc)∨(w1.alloc (gr.rb (ek,en))).heap.size≤z)→w6.cell? ⟨Bo,4,none⟩=some (.slice sa sq sc)∧w6.frozen? ⟨Bo,4,none⟩=false∧gr.fh (w6.setCell ⟨Bo,4,none⟩ (.slice va vn vc)) Bo 60 (.int .i64 ((k:Int)+1)) (.int .i64 c) (.int .i64 f) (.int .i64 g) (.slice va vn vc)∧gr.fJ (w6.setCell ⟨Bo,4,none⟩ (.slice va vn vc)) (w.heap.size+2) (.slice va vn vc) (TR.take (i+1))∧(∀z ∈ gr.blk (.slice va vn vc),W8.heap.size≤z)∧gr.Ch [Bo] W8 (w6.setCell ⟨Bo,4,none⟩ (.slice va vn vc))):=fun w1 b1=>by
          have B2:Below wr.heap.size wr (w1.alloc (gr.rb (ek,en))):=b1.alloc b1.size _;refine⟨trivial,gr.fc hO B2,heap_alloc_new _ _,by have:=B2.size;omega,fun va vn vc w6 r1 r2 r3 => ?_⟩
          have nB:Bo ∉ gr.blk (.slice sa sq sc):=fun hq=>by have:=hK _ hq;omega
          have F6:gr.fh w6 Bo 60 (.int .i64 ((k:Int)+1)) (.int .i64 c) (.int .i64 f) (.int .i64 g) (.slice sa sq sc):=gr.eV (gr.aJ hF B2) r2 nB
          have hz:∀z ∈ gr.blk (.slice va vn vc),W8.heap.size≤z:=fun z hq=>by
           rcases r3 z hq with e|e
           ·exact hK z e
           ·have:=B2.size;omega
          obtain⟨_,_,_,_,u4,uf⟩:=gr.ak F6;refine⟨u4,uf 4,gr.uI F6 _,?_,hz,?_⟩
          ·rw[HNX.out];exact gr.aE r1 (gr.aH w6 Bo 4 _) (fun z hq hc=>by have:=hz z hq;have e:z=Bo:=(by simpa using hc);omega)
          ·have c1:gr.Ch [Bo] W8 w6:=⟨r2.os.trans (B2.os.trans hC.os),r2.tape.trans (B2.tape.trans hC.tape),r2.output.trans (B2.output.trans hC.output),Nat.le_trans hC.size (Nat.le_trans B2.size r2.size),fun q hq hn=>(r2.block q (Nat.lt_of_lt_of_le (Nat.lt_of_lt_of_le hq hC.size) B2.size) (fun hc=>by have:=hK q hc;omega)).trans ((B2.block q (Nat.lt_of_lt_of_le hq hC.size)).trans (hC.block q hq hn))⟩;exact c1.trans (gr.aH w6 Bo 4 _)
         have i1:((j:Int)+1+(i:Int)).toNat=j+1+i:=by omega
         have i2:(0:Int)≤(j:Int)+1+(i:Int):=by omega
         have i3:(j:Int)+1+(i:Int)<(H.row.length:Int):=by omega
         have hlt':(k:Int)<(L.length:Int):=by omega
         clear hF hO hK hC kN kD kT kG kX kB;generalize H.row.getD (j+1+i) 0=xx at *;go_upto_region 18 with fail
         clear z0 z1 z2 z3 z4 z5 z6 z7 z8 t0 t1 t2 t3 t4 t5 y0 l0;generalize hA0:(Act.mk _ [])=A0;have e1:A0.tmps.getD 1 undef = .slice (some ⟨lb,lo,none⟩) L.length oc:=by rw[←hA0];rfl
         have e2:A0.tmps.getD 2 undef = .pointer (some ⟨w.heap.size,0,none⟩):=by rw[←hA0];rfl
         have e8:A0.tmps.getD 8 undef = .int .i64 (k:Int):=by rw[←hA0];rfl
         have e10:A0.tmps.getD 10 undef = .pointer (some ⟨Bo,0,none⟩):=by rw[←hA0];rfl
         have e11:A0.tmps.getD 11 undef = .int .i64 (i:Int):=by rw[←hA0];rfl
         have sz:A0.tmps.size=109:=by rw[←hA0];rfl
         refine fq (by kernel_rfl) fa (by simp) ?_ 19 15 16 17 rfl (by decide) (by decide) (by decide) (by decide) (by decide) (by decide) IU DQ (Jy H w a2 a3 a4 c1 c2 c3 c4 L oc lb lo k sa sq sc Bo rb' ro j i xx) (fun V=>V=wr.drew) (fun t V=>t=gr.rv (ek,en)∧Below wr.heap.size wr V) (fun t V=>∃w1,Below wr.heap.size wr w1∧V=w1.alloc (gr.rb (ek,en))∧t = .slice (some ⟨w1.heap.size,0,none⟩) 1 1) (fun t V=>∃w1 va vn vc,t = .slice va vn vc∧Below wr.heap.size wr w1∧gr.fJ V (w.heap.size+2) (.slice va vn vc) (TR.take i++[(ek,en)])∧gr.Ch (gr.blk (.slice sa sq sc)) (w1.alloc (gr.rb (ek,en))) V∧∀z ∈ gr.blk (.slice va vn vc),z ∈ gr.blk (.slice sa sq sc)∨(w1.alloc (gr.rb (ek,en))).heap.size≤z) (rfl) ?_ ?_ ?_ ?_ ?_ ?_ ?_ ?_
         ·intro k o ho;have hk:k<20:=(Array.getElem?_eq_some_iff.1 ho).1;rcases (show k=0∨k=1∨k=2∨k=3∨k=4∨k=5∨k=6∨k=7∨k=8∨k=9∨k=10∨k=11∨k=12∨k=13∨k=14∨k=15∨k=16∨k=17∨k=18∨k=19 by omega) with rfl|rfl|rfl|rfl|rfl|rfl|rfl|rfl|rfl|rfl|rfl|rfl|rfl|rfl|rfl|rfl|rfl|rfl|rfl|rfl<;>(obtain rfl:=Option.some.inj ho;simp[Region.binds])
         ·intro o ho kk hkk;obtain rfl:=Option.some.inj ho;rcases (show kk=0∨kk=1∨kk=2∨kk=3∨kk=4∨kk=5∨kk=6∨kk=7∨kk=8∨kk=9∨kk=10∨kk=11∨kk=12∨kk=13∨kk=14∨kk=15∨kk=16∨kk=17∨kk=18 by omega) with rfl|rfl|rfl|rfl|rfl|rfl|rfl|rfl|rfl|rfl|rfl|rfl|rfl|rfl|rfl|rfl|rfl|rfl|rfl<;>simp[Region.binds]
         ·intro o ho;obtain rfl:=Option.some.inj ho;simp[Region.binds]
         ·intro o ho;obtain rfl:=Option.some.inj ho;simp[Region.binds]
         ·intro k o u W hk hk1 hk2 hk3 ho hAB hF;have ev:∀s,fa s=true→s<109→(ovr fa A0 u).tmps[s]?.getD undef=u s:=fun s h1 h2=>(af _ _).symm.trans (aS h1 (by omega))
          have o1:(ovr fa A0 u).tmps[1]?.getD undef=_:=(af _ _).symm.trans ((ah (D:=fa) (a0:=A0) (u:=u) (s:=1) rfl (by omega)).trans e1);have o2:(ovr fa A0 u).tmps[2]?.getD undef=_:=(af _ _).symm.trans ((ah (D:=fa) (a0:=A0) (u:=u) (s:=2) rfl (by omega)).trans e2);have o8:(ovr fa A0 u).tmps[8]?.getD undef=_:=(af _ _).symm.trans ((ah (D:=fa) (a0:=A0) (u:=u) (s:=8) rfl (by omega)).trans e8);have o10:(ovr fa A0 u).tmps[10]?.getD undef=_:=(af _ _).symm.trans ((ah (D:=fa) (a0:=A0) (u:=u) (s:=10) rfl (by omega)).trans e10);have o11:(ovr fa A0 u).tmps[11]?.getD undef=_:=(af _ _).symm.trans ((ah (D:=fa) (a0:=A0) (u:=u) (s:=11) rfl (by omega)).trans e11)
          have hC:Below wr.heap.size wr W∨∃V,Below wr.heap.size wr V∧gr.Ch (gr.blk (.slice sa sq sc)) V W:=by
           rcases hAB with e|e|⟨w1,q1,q2,_⟩|⟨w1,_,_,_,_,q1,_,q2,_⟩
           ·exact .inl (by rw[e];exact (Below.refl _ _).drew)
           ·exact .inl e.2
           ·exact .inl (by rw[q2];exact q1.alloc q1.size _)
           ·exact .inr ⟨_,q1.alloc q1.size _,q2⟩
          obtain⟨hN9,hF5,y0,l0⟩:=HCE.out W hC;obtain⟨⟨z0,z1,z2,z3,z4⟩,⟨z5,z6,z7,z8⟩,_⟩:=ag hN9;obtain⟨_,_,_,_,p4,_⟩:=gr.ak hF5;clear hAB hC hN9 hF5;rcases (show k=0∨k=1∨k=2∨k=3∨k=4∨k=5∨k=6∨k=7∨k=8∨k=9∨k=10∨k=11∨k=12∨k=13∨k=14∨k=15∨k=16∨k=17∨k=18 by omega) with rfl|rfl|rfl|rfl|rfl|rfl|rfl|rfl|rfl|rfl|rfl|rfl|rfl|rfl|rfl|rfl|rfl|rfl|rfl
          all_goals obtain rfl:=Option.some.inj ho
          ·refine bg (v:=.pointer (some ⟨Bo,4,none⟩)) rfl rfl ?_ rfl;simp only[execOp];go_simp;try go_num
           try (rw[IntKind.wrap_i64];omega)
          ·have x0:=(ev 83 rfl (by decide)).trans (hF 0 (by decide) (by simp[Region.binds]));refine bg (v:=(.slice sa sq sc)) rfl rfl ?_ rfl;simp only[execOp];go_simp;try go_num
           try (rw[IntKind.wrap_i64];omega)
          ·refine bg (v:=hpv H (.slice (some ⟨rb',ro,none⟩) H.row.length c1) (.slice a2 H.roots.length c2) (.slice a3 H.a7.length c3) (.slice a4 H.seen.length c4)) rfl rfl ?_ rfl;simp only[execOp];go_simp;try go_num
           try (rw[IntKind.wrap_i64];omega)
          ·refine bg (v:=.slice (some ⟨lb,lo,none⟩) L.length oc) rfl rfl ?_ rfl;simp only[execOp];go_simp;try go_num
           try (rw[IntKind.wrap_i64];omega)
          ·refine bg (v:=.pointer (some ⟨w.heap.size,2,none⟩)) rfl rfl ?_ rfl;simp only[execOp];go_simp;try go_num
           try (rw[IntKind.wrap_i64];omega)
          ·have x4:=(ev 87 rfl (by decide)).trans (hF 4 (by decide) (by simp[Region.binds]));refine bg (v:=.slice (some ⟨rb',ro,none⟩) H.row.length c1) rfl rfl ?_ rfl;simp only[execOp];go_simp;try go_num
           try (rw[IntKind.wrap_i64];omega)
          ·refine bg (v:=.slice (some ⟨lb,lo,none⟩) L.length oc) rfl rfl ?_ rfl;simp only[execOp];go_simp;try go_num
           try (rw[IntKind.wrap_i64];omega)
          ·refine bg (v:=.int .i64 (k:Int)) rfl rfl ?_ rfl;simp only[execOp];go_simp;try go_num
           try (rw[IntKind.wrap_i64];omega)
          ·have x6:=(ev 89 rfl (by decide)).trans (hF 6 (by decide) (by simp[Region.binds]));have x7:=(ev 90 rfl (by decide)).trans (hF 7 (by decide) (by simp[Region.binds]));refine bg (v:=.pointer (some ⟨lb,lo+k,none⟩)) rfl rfl ?_ rfl;simp only[execOp];go_simp;try go_num
           try (rw[IntKind.wrap_i64];omega)
          ·have x8:=(ev 91 rfl (by decide)).trans (hF 8 (by decide) (by simp[Region.binds]));refine bg (v:=.int .i64 (j:Int)) rfl rfl ?_ rfl;simp only[execOp];go_simp;try go_num
           try (rw[IntKind.wrap_i64];omega)
          ·have x9:=(ev 92 rfl (by decide)).trans (hF 9 (by decide) (by simp[Region.binds]));refine bg (v:=.int .i64 ((j:Int)+1)) rfl rfl ?_ rfl;simp only[execOp];go_simp;try go_num
           try (rw[IntKind.wrap_i64];omega)
          ·refine bg (v:=.int .i64 (i:Int)) rfl rfl ?_ rfl;simp only[execOp];go_simp;try go_num
           try (rw[IntKind.wrap_i64];omega)
          ·have x10:=(ev 93 rfl (by decide)).trans (hF 10 (by decide) (by simp[Region.binds]));have x11:=(ev 94 rfl (by decide)).trans (hF 11 (by decide) (by simp[Region.binds]));refine bg (v:=.int .i64 ((j:Int)+1+(i:Int))) rfl rfl ?_ rfl;simp only[execOp];go_simp;try go_num
           try (rw[IntKind.wrap_i64];omega)
          ·have x5:=(ev 88 rfl (by decide)).trans (hF 5 (by decide) (by simp[Region.binds]));have x12:=(ev 95 rfl (by decide)).trans (hF 12 (by decide) (by simp[Region.binds]));refine bg (v:=.pointer (some ⟨rb',ro+(j+1+i),none⟩)) rfl rfl ?_ rfl;simp only[execOp];go_simp;try go_num
           try (rw[IntKind.wrap_i64];omega)
          ·have x13:=(ev 96 rfl (by decide)).trans (hF 13 (by decide) (by simp[Region.binds]));refine bg (v:=.int .i64 xx) rfl rfl ?_ rfl;simp only[execOp];go_simp;try go_num
           try (rw[IntKind.wrap_i64];omega)
          ·exact absurd rfl hk1
          ·exact absurd rfl hk2
          ·exact absurd rfl hk3
          ·refine bg (v:=.pointer (some ⟨Bo,4,none⟩)) rfl rfl ?_ rfl;simp only[execOp];go_simp;try go_num
           try (rw[IntKind.wrap_i64];omega)
         ·intro o u W ho hA hF;obtain rfl:=Option.some.inj ho;have ev:∀s,fa s=true→s<109→(ovr fa A0 u).tmps[s]?.getD undef=u s:=fun s h1 h2=>(af _ _).symm.trans (aS h1 (by omega))
          have o1:(ovr fa A0 u).tmps[1]?.getD undef=_:=(af _ _).symm.trans ((ah (D:=fa) (a0:=A0) (u:=u) (s:=1) rfl (by omega)).trans e1);have o2:(ovr fa A0 u).tmps[2]?.getD undef=_:=(af _ _).symm.trans ((ah (D:=fa) (a0:=A0) (u:=u) (s:=2) rfl (by omega)).trans e2);have o8:(ovr fa A0 u).tmps[8]?.getD undef=_:=(af _ _).symm.trans ((ah (D:=fa) (a0:=A0) (u:=u) (s:=8) rfl (by omega)).trans e8);have o10:(ovr fa A0 u).tmps[10]?.getD undef=_:=(af _ _).symm.trans ((ah (D:=fa) (a0:=A0) (u:=u) (s:=10) rfl (by omega)).trans e10);have o11:(ovr fa A0 u).tmps[11]?.getD undef=_:=(af _ _).symm.trans ((ah (D:=fa) (a0:=A0) (u:=u) (s:=11) rfl (by omega)).trans e11);have x2:=(ev 85 rfl (by decide)).trans (hF 2 (by decide) (by simp[Region.binds]));have x3:=(ev 86 rfl (by decide)).trans (hF 3 (by decide) (by simp[Region.binds]));have x14:=(ev 97 rfl (by decide)).trans (hF 14 (by decide) (by simp[Region.binds]));subst hA;refine oD (f:=92) (args:=#[hpv H (.slice (some ⟨rb',ro,none⟩) H.row.length c1) (.slice a2 H.roots.length c2) (.slice a3 H.a7.length c3) (.slice a4 H.seen.length c4),.slice (some ⟨lb,lo,none⟩) L.length oc,.int .i64 xx]) rfl rfl ?_ ?_
          ·simp only[execOp];go_simp
          ·exact REF.mono fun e w' ⟨he,hb⟩=>⟨_,he,⟨rfl,⟨hb.os,hb.tape,hb.output,hb.size,hb.block⟩⟩,trivial⟩
         ·intro o u W ho hA hF;obtain rfl:=Option.some.inj ho;have ev:∀s,fa s=true→s<109→(ovr fa A0 u).tmps[s]?.getD undef=u s:=fun s h1 h2=>(af _ _).symm.trans (aS h1 (by omega))
          have o1:(ovr fa A0 u).tmps[1]?.getD undef=_:=(af _ _).symm.trans ((ah (D:=fa) (a0:=A0) (u:=u) (s:=1) rfl (by omega)).trans e1);have o2:(ovr fa A0 u).tmps[2]?.getD undef=_:=(af _ _).symm.trans ((ah (D:=fa) (a0:=A0) (u:=u) (s:=2) rfl (by omega)).trans e2);have o8:(ovr fa A0 u).tmps[8]?.getD undef=_:=(af _ _).symm.trans ((ah (D:=fa) (a0:=A0) (u:=u) (s:=8) rfl (by omega)).trans e8);have o10:(ovr fa A0 u).tmps[10]?.getD undef=_:=(af _ _).symm.trans ((ah (D:=fa) (a0:=A0) (u:=u) (s:=10) rfl (by omega)).trans e10);have o11:(ovr fa A0 u).tmps[11]?.getD undef=_:=(af _ _).symm.trans ((ah (D:=fa) (a0:=A0) (u:=u) (s:=11) rfl (by omega)).trans e11);have x15:=(ev 98 rfl (by decide)).trans hA.1;refine gE (v:=.slice (some ⟨W.heap.size,0,none⟩) 1 1) (W':=W.alloc (gr.rb (ek,en))) rfl rfl ?_ ⟨W,hA.2,rfl,rfl⟩ trivial;simp only[execOp];go_simp
         ·intro o u W ho hA hF;obtain rfl:=Option.some.inj ho;have ev:∀s,fa s=true→s<109→(ovr fa A0 u).tmps[s]?.getD undef=u s:=fun s h1 h2=>(af _ _).symm.trans (aS h1 (by omega))
          have o1:(ovr fa A0 u).tmps[1]?.getD undef=_:=(af _ _).symm.trans ((ah (D:=fa) (a0:=A0) (u:=u) (s:=1) rfl (by omega)).trans e1);have o2:(ovr fa A0 u).tmps[2]?.getD undef=_:=(af _ _).symm.trans ((ah (D:=fa) (a0:=A0) (u:=u) (s:=2) rfl (by omega)).trans e2);have o8:(ovr fa A0 u).tmps[8]?.getD undef=_:=(af _ _).symm.trans ((ah (D:=fa) (a0:=A0) (u:=u) (s:=8) rfl (by omega)).trans e8);have o10:(ovr fa A0 u).tmps[10]?.getD undef=_:=(af _ _).symm.trans ((ah (D:=fa) (a0:=A0) (u:=u) (s:=10) rfl (by omega)).trans e10);have o11:(ovr fa A0 u).tmps[11]?.getD undef=_:=(af _ _).symm.trans ((ah (D:=fa) (a0:=A0) (u:=u) (s:=11) rfl (by omega)).trans e11);have x1:=(ev 84 rfl (by decide)).trans (hF 1 (by decide) (by simp[Region.binds]));obtain⟨w1,q1,q2,q3⟩:=hA;subst q2;have x16:=(ev 99 rfl (by decide)).trans q3;obtain⟨_,s3,s4,s5,_⟩:=HAFT.out w1 q1;obtain⟨va,vn,vc,w6,hr,h1,h2,h3⟩:=gr.mK s3 s4 HRL2.out s5 48;refine gE (v:=.slice va vn vc) (W':=w6) rfl rfl ?_ ⟨w1,va,vn,vc,rfl,q1,h1,h2,h3⟩ trivial;simp[execOp,resolve,invoke,builtin,Act.eval,x1,x16,hr,Result.andThen]
         ·intro o u W ho hA hF;obtain rfl:=Option.some.inj ho;have ev:∀s,fa s=true→s<109→(ovr fa A0 u).tmps[s]?.getD undef=u s:=fun s h1 h2=>(af _ _).symm.trans (aS h1 (by omega))
          have o1:(ovr fa A0 u).tmps[1]?.getD undef=_:=(af _ _).symm.trans ((ah (D:=fa) (a0:=A0) (u:=u) (s:=1) rfl (by omega)).trans e1);have o2:(ovr fa A0 u).tmps[2]?.getD undef=_:=(af _ _).symm.trans ((ah (D:=fa) (a0:=A0) (u:=u) (s:=2) rfl (by omega)).trans e2);have o8:(ovr fa A0 u).tmps[8]?.getD undef=_:=(af _ _).symm.trans ((ah (D:=fa) (a0:=A0) (u:=u) (s:=8) rfl (by omega)).trans e8);have o10:(ovr fa A0 u).tmps[10]?.getD undef=_:=(af _ _).symm.trans ((ah (D:=fa) (a0:=A0) (u:=u) (s:=10) rfl (by omega)).trans e10);have o11:(ovr fa A0 u).tmps[11]?.getD undef=_:=(af _ _).symm.trans ((ah (D:=fa) (a0:=A0) (u:=u) (s:=11) rfl (by omega)).trans e11);obtain⟨w1,va,vn,vc,q0,q1,h1,h2,h3⟩:=hA;have x17:=(ev 100 rfl (by decide)).trans q0;have x18:=(ev 101 rfl (by decide)).trans (hF 18 (by decide));obtain⟨_,_,_,_,s6⟩:=HAFT.out w1 q1;obtain⟨u1,u2,u3⟩:=s6 va vn vc W h1 h2 h3;have HU3:Hid _:=u3;clear s6 u3 h1 h2 h3 hF;refine mj (W':=W.setCell ⟨Bo,4,none⟩ (.slice va vn vc)) ?_ ?_ ?_
          ·exact rfl
          ·simp only[execOp];go_simp
          ·subst hA0;clear ev o1 o2 o8 o10 o11 x17 x18 e1 e2 e8 e10 e11 sz;simp[ovr,fa,List.range,List.range.loop];go_wp2;exact⟨⟨i+1,_,by omega,by go_num,HU3.out.1,HU3.out.2.1,HU3.out.2.2.1,HU3.out.2.2.2⟩,by simp[intOf];omega⟩
        ·have hil':¬(i:Int)<(sn:Int):=by omega
         have ei:i=sn:=by omega
         rw[ei,HTS.out]at hO;have B2:Below wr.heap.size wr (wr.alloc (gr.ob ⟨(k:Int)+1,c,f,g,.slice sa sq sc,TR⟩)):=(Below.refl _ _).alloc (Nat.le_refl _) _
         have HADD:Hid (∀va vn vc w6,w6.ownsRow (w.heap.size+2) 60 5 (.slice va vn vc) (ms.length+1) (gr.cellsO ms++gr.cellsO [⟨(k:Int)+1,c,f,g,.slice sa sq sc,TR⟩])→(wr.alloc (gr.ob ⟨(k:Int)+1,c,f,g,.slice sa sq sc,TR⟩)).grownBy w6 (Value.slice ga1 gn1 gc1).ownBlock→((Value.slice va vn vc).ownBlock=(Value.slice ga1 gn1 gc1).ownBlock∨(Value.slice va vn vc).ownBlock=some (wr.alloc (gr.ob ⟨(k:Int)+1,c,f,g,.slice sa sq sc,TR⟩)).heap.size)→w6.cell? ⟨w.heap.size+2,0,none⟩=some (.slice ga1 gn1 gc1)∧w6.frozen? ⟨w.heap.size+2,0,none⟩=false∧gr.kZ (w6.setCell ⟨w.heap.size+2,0,none⟩ (.slice va vn vc)) (w.heap.size+2) (w.heap.size+2) ⟨(List.range (k+1)).map (obS H L),RR,MM,(L.length:Int)+1,H.seed⟩∧Below (w.heap.size+2) X (w6.setCell ⟨w.heap.size+2,0,none⟩ (.slice va vn vc))):=fun va vn vc w6 r1 r2 r3=>by
          obtain⟨u1,u2,u3,u4⟩:=gr.CM (m1:=⟨(k:Int)+1,c,f,g,.slice sa sq sc,TR⟩) (gr.aJ kT B2) (gr.cI kG B2) HNP.out (Nat.le_refl _) (gr.fc hO B2) (fun z hz hc=>by have:=HGL.out z hc;have:=hK z hz;omega) (fun hz=>by have:=hK _ hz;omega) r1 r2 r3;refine⟨u1,u2,?_,(HGR.out _ _ kX B2).trans u4⟩
          rw[zR,HOS.out];exact u3
         obtain⟨f0,f1,f2,f3,f4,_⟩:=gr.ak hF;obtain⟨p0,p1,p2,p3,p4,_⟩:=gr.ak kT;obtain⟨q0,_⟩:=gr.ak (gr.aJ kT B2);have HROW:Hid _:=(gr.cI kG B2).2.1.1;have HVB:Hid ((wr.alloc (gr.ob ⟨(k:Int)+1,c,f,g,.slice sa sq sc,TR⟩)).heap[wr.heap.size]? = some (gr.ob ⟨(k:Int)+1,c,f,g,.slice sa sq sc,TR⟩)):=heap_alloc_new wr _;have hbs:w.heap.size+2≤(wr.alloc (gr.ob ⟨(k:Int)+1,c,f,g,.slice sa sq sc,TR⟩)).heap.size:=by have:=B2.size;omega
         clear hF hO hK hC kN kD kT kG kX kB B2 ei;go_wp2_with (at_builtin;refine gr.vE rfl _ _ rfl (w.heap.size+2) (.slice ga1 gn1 gc1) ms rfl HROW.out wr.heap.size ⟨(k:Int)+1,c,f,g,.slice sa sq sc,TR⟩ ⟨_,_,_,rfl⟩ rfl HVB.out (by omega) hbs ?_;intro va vn vc w6 r1 r2 r3;obtain⟨u1,u2,u3,u4⟩:=HADD.out va vn vc w6 r1 r2 r3;have HU3:Hid _:=u3;have HU4:Hid _:=u4;clear r1 r2 r3 u3 u4);exact⟨⟨k+1,by omega,by go_num,HU3.out,HU4.out⟩,by simp[intOf];omega⟩
      ·have e:k=L.length:=by omega
       subst e;have hlt':¬(L.length:Int)<(L.length:Int):=by omega
       obtain⟨ga1,gn1,gc1,ga2,gn2,gc2,ga3,gn3,gc3,ms,T5,OG,NP,_⟩:=jj hHe;obtain⟨p0,p1,p2,p3,p4,_⟩:=gr.ak T5;obtain⟨r0,r1,r2,r3,r4,rf⟩:=gr.ak kR;have rf0:=rf 0;have rf1:=rf 1;have rf2:=rf 2;have rf3:=rf 3;have rf4:=rf 4;have HKR:Hid _:=kR;have HOG:Hid (gr.ja wr (w.heap.size+2) (.slice ga1 gn1 gc1) (.slice ga2 gn2 gc2) (.slice ga3 gn3 gc3) ms G):=by show gr.ja _ _ _ _ _ _ _;rw[HG.out];exact OG
       have HGN:Hid (G.next=(L.length:Int)+1∧G.seed=H.seed):=by show _∧_;rw[HG.out];exact⟨rfl,rfl⟩
       have HGL:Hid (∀z ∈ gr.cj (.slice ga1 gn1 gc1) (.slice ga2 gn2 gc2) (.slice ga3 gn3 gc3) ms,w.heap.size+2≤z):=fun z hz=>(gr.dz OG z hz).1
       have HBW:Hid _:=kB;clear hHe hB kN kR kB T5 OG NP rf;go_wp2_with fail;refine bodyPost_ret (gr.Hk rfl rfl (gr.pT HKR.out _ _ _ _ _)) rfl ⟨.slice ga1 gn1 gc1,.slice ga2 gn2 gc2,.slice ga3 gn3 gc3,?_,⟨ms,?_⟩,?_⟩
       ·rw[HGN.out.1,HGN.out.2]
       ·exact gr.uJ (gr.fN HOG.out (gr.nj _ _ _ _ _) (fun z hz hc=>by have:=HGL.out z hz;have e:z=w.heap.size+1:=(by simpa using hc);omega)) (by omega)
       ·exact gr.wZ HBW.out (Nat.le_succ _) _ _ _ _ _
end Go.Proofs.YtocidankimefpaaGreatDoor.hp
