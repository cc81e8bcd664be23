/- Chapter 14 as the specification has it:  -/
import Derived.Test.YtocidankimefpaaGreatDoorM25
import Derived.Test.YtocidankimefpaaGreatDoorReachS8
set_option linter.unusedSimpArgs false
set_option linter.unusedVariables false
set_option maxRecDepth 100000
namespace Go.Proofs.YtocidankimefpaaGreatDoor.hp
open Go.RowKit rows heads words walks region
theorem mL {W W':World} {b i:Nat} (h:W'.heap[b]? = W.heap[b]?):W'.cell? ⟨b,i,none⟩=W.cell? ⟨b,i,none⟩:=by unfold World.cell?; rw[h]
theorem lE (W:World) (p q:Addr) (v:Value) (h:p.block≠q.block):(W.setCell q v).cell? p=W.cell? p:=by
 unfold World.cell?;rw[Below.heap_setCell _ _ _ _ h]
def GvA (w:World) (P base:Nat) (S:List Nat) (vr vo vs:Value) (H:Hp) (e:Ending) (w':World):Prop:=∃vm,e = .returned (.tuple #[])∧HH w' P base vr vo vm vs H∧Ch S w w'
def Jk (k:Nat):Nat:=match k with
 |0=>52
 |1=>53
 |2=>54
 |3=>55
 |4=>56
 |5=>57
 |6=>58
 |7=>59
 |8=>60
 |9=>61
 |10=>62
 |_=>2000
theorem EE:∀k,k<11→∀j,j<11→Jk j=Jk k→j=k:=by decide
def rD (s:Nat):Bool:=s==52 || s==53 || s==54 || s==55 || s==56 || s==57 || s==58 || s==59 || s==60 || s==61 || s==62
def JD (H:Hp) (OL:List Int) (P g1 cr lb lo lc yz j:Nat) (s f2 c g:Int) (p m:Bool) (k:Nat) (t:Value) (_:World):Prop:=
 match k with
 |0=>t = .pointer (some ⟨P,0,none⟩)
 |1=>t = .pointer (some ⟨P,0,none⟩)
 |2=>t = .pointer (some ⟨P,2,none⟩)
 |3=>t = .slice (some ⟨g1,0,none⟩) H.row.length cr
 |4=>t = .slice (some ⟨lb,lo,none⟩) OL.length lc
 |5=>t = .int .i64 (yz:Int)
 |6=>t = .pointer (some ⟨lb,lo+yz,none⟩)
 |7=>t = .int .i64 (j:Int)
 |8=>t=hv s f2 c g p m
 |9=>t = .int .i64 (pk s f2 c g p m)
 |10=>t = .pointer (some ⟨g1,j,none⟩)
 |_=>False
def J1 (k:Nat):Nat:=71+k
theorem EF:∀k,k<21→∀j,j<21→J1 j=J1 k→j=k:=fun k _ j _ e=>by unfold J1 at e;omega
def iN (s:Nat):Bool:=decide (71≤s)&&decide (s≤91)
def JE (H:Hp) (OL:List Int) (R:gr.Gr) (P PG:Nat) (ma:Option Addr) (mn mc lb lo lc qb qo pc iz q j:Nat) (k:Nat) (t:Value):Prop:=
 match k with
 |0=>t = .pointer (some ⟨P,0,none⟩)
 |1=>t = .pointer (some ⟨P,0,none⟩)
 |2=>t = .pointer (some ⟨P,0,none⟩)
 |3=>t = .pointer (some ⟨P,6,none⟩)
 |4=>t = .slice ma mn mc
 |5=>t = .slice (some ⟨lb,lo,none⟩) OL.length lc
 |6=>t = .pointer (some ⟨PG,2,none⟩)
 |7=>t = .slice (some ⟨qb,qo,none⟩) R.a7.length pc
 |8=>t = .int .i64 ((iz:Nat):Int)
 |9=>t = .pointer (some ⟨qb,qo+iz*2,none⟩)
 |10=>t = .pointer (some ⟨qb,qo+iz*2+1,none⟩)
 |11=>t = .int .i64 ((q:Int)+1)
 |12=>t = .int .i64 (q:Int)
 |13=>t = .pointer (some ⟨lb,lo+q,none⟩)
 |14=>t = .int .i64 (j:Int)
 |15=>t = .int .i64 (4*(j:Int))
 |16=>t = .int .i64 (4*(j:Int)+4)
 |17=>True
 |18=>True
 |19=>t = .pointer (some ⟨P,0,none⟩)
 |20=>t = .pointer (some ⟨P,6,none⟩)
 |_=>False
set_option maxHeartbeats 64000000 in
theorem tR {w:World} {P base g1 g2 g3 cr co cm:Nat} {vs:Value} {H:Hp} {ps:List Int} {R:gr.Gr} (RR:Rt H ps) (hM:gr.fe (grS H (bN H)) R) (d:Dst w P base g1 g2 g3 vs)
    (hS:SS w w P base g1 g2 g3 cr co cm H.row.length H.roots.length H.a7.length vs (.slice none 0 0) H [] H.row H.roots H.a7) (hbs:base≤w.heap.size) :
    Calls Tryz.prog 17 #[.pointer (some ⟨P,0,none⟩)] w fun e w'=>GvA w P base [P,g1,g2,g3] (.slice (some ⟨g1,0,none⟩) H.row.length cr) (.slice (some ⟨g2,0,none⟩) H.roots.length co) vs (xU H R) e w':=by
 obtain⟨sa,sn,sc,rfl⟩:=bl (aj hS.seen);have OG:=RR.uk;have hle:(bN H).length≤500:=OG.len RR;have hrl:=RR.len;have OR:=vX (show eW w _ _ _ _ H from hS.hp) RR;have HSH:Hid (∀V oa oc,eW V (.slice (some ⟨g1,0,none⟩) H.row.length cr) (.slice (some ⟨g2,0,none⟩) H.roots.length co) (.slice (some ⟨g3,0,none⟩) H.a7.length cm) (.slice sa sn sc) H→au V (.slice oa (bN H).length oc) (bN H)→Calls Tryz.prog 43 #[hpv H (.slice (some ⟨g1,0,none⟩) H.row.length cr) (.slice (some ⟨g2,0,none⟩) H.roots.length co) (.slice (some ⟨g3,0,none⟩) H.a7.length cm) (.slice sa sn sc),.slice oa (bN H).length oc] V fun e w'=>∃o r m ms,e = .returned (gr.gv o r m (grS H (bN H)).next (grS H (bN H)).seed)∧gr.ja w' V.heap.size o r m ms (grS H (bN H))∧Below V.heap.size V w'):=fun V oa oc hV hL=>uV hV RR hL (OG.len RR) OG.2 (fun x hx a ha=>rA hx ha) (fun t ht=>RR.wm ht)
 have HGR:Hid (gr.gG (grS H (bN H))):=mT RR;have hGM:(grS H (bN H)).a7.length=H.a7.length:=by simp[grS]
 obtain⟨n1,_,n3,n4⟩:=yY hM;have HN1:Hid _:=n1;have HN4:Hid _:=n4;have hR40:R.a7.length≤40:=(gr.ko (gr.ke HGR.out hM).head).2.2.1
 have HFM:Hid (∀i,i<(bN H).length→(R.objs.getD i gr.obD).fmt=uF (H.row.getD ((bN H).getD i 0).toNat 0)∨(R.objs.getD i gr.obD).fmt=0):=fun i hi=>by
  have e:=gr.Ag hM i;rw[show (grS H (bN H)).objs.getD i gr.obD=obS H (bN H) i from ju hi]at e;exact e
 have HPL:Hid (∀i,i<(bN H).length→∃j:Nat,(bN H).getD i 0=(j:Int)∧j<H.row.length∧chunk H.row j≠0∧uF (H.row.getD j 0)≠6):=fun i hi=>by
  have hm:(bN H).getD i 0 ∈ bN H:=by rw[List.getD_eq_getElem?_getD,List.getElem?_eq_getElem hi];exact List.getElem_mem hi
  obtain⟨h1,h6,_⟩:=OG.2 _ hm;obtain⟨j,ej,hjl,hc⟩:=RR.plc _ h1;rw[ej]at h6;unfold fm at h6;rw[Int.toNat_natCast]at h6;exact⟨j,ej,hjl,hc,h6⟩
 have HND:Hid ((bN H).Nodup):=OG.1
 have HFS:Hid (∀i,i<(bN H).length→(il R).getD i 0=(R.objs.getD i gr.obD).fmt):=fun i hi=>by
  unfold il;rw[List.getD_eq_getElem?_getD,List.getElem?_map,List.getElem?_eq_getElem (by omega),List.getD_eq_getElem?_getD,List.getElem?_eq_getElem (by omega)];rfl
 have HMM:Hid _:=hM;have HDS:Hid _:=d;have HS0:Hid _:=hS;have hPl:=d.lt;obtain⟨⟨z0,z1,z2,z3,z4⟩,⟨z5,z6,z7,z8⟩,_⟩:=ag hS.nine
 have HQ:Hid (∀i,H.a7.length≤i→i<R.a7.length→∃q:Nat,q<(bN H).length∧R.a7.getD i gr.bU=(2,(q:Int)+1)):=fun i h1 h2=>by
  refine HN4.out _ ?_;rw[List.getD_eq_getElem?_getD,List.getElem?_eq_getElem h2,Option.getD_some];have e:R.a7[i]=(R.a7.drop H.a7.length)[i-H.a7.length]'(by rw[List.length_drop];omega):=by rw[List.getElem_drop];congr 1;omega
  rw[e];exact List.getElem_mem _
 clear RR hM d hS OG n4 n1 HN4;generalize hGS:grS H (bN H)=GS at *;have HK0:Hid _:=vL H R;have HKE:Hid (∀k,(rU H R).length≤k→jG H R k=xU H R):=fun k h=>yZ h
 have HKN:Hid (∀k p:Nat,H.a7.length+k<R.a7.length→R.a7.getD (H.a7.length+k) gr.bU=(2,(p:Int)+1)→jG H R (k+1) = { jG H R k with a7:=(jG H R k).a7++[4*(bN H).getD p 0+4] }):=fun k p h1 h2=>vM h1 h2
 have HML0:Hid _:=qU H R;generalize hOL:bN H=OL at *;clear hGS hOL;go_enter Tryz.func17,Tryz.ntmps17;go_upto_region 1 with (go_at_call 42;refine OR.mono ?_;clear OR z0 z1 z2 z3 z4 z5 z6 z7 z8;rintro e w1 ⟨vl,rfl,O1,b1⟩;have HS1:Hid (SS w w1 P base g1 g2 g3 cr co cm H.row.length H.roots.length H.a7.length (.slice sa sn sc) vl H OL H.row H.roots H.a7):=(HS0.out.below b1).G9 O1;obtain⟨la,lc,ela,_,_,_,_⟩:=aj O1;subst ela;have hw1:=b1.size;clear O1 b1 HS0)
 obtain⟨⟨z0,z1,z2,z3,z4⟩,⟨z5,z6,z7,z8⟩,_⟩:=ag HS1.out.nine;have SH:=HSH.out w1 la lc (show eW w1 _ _ _ _ H from HS1.out.hp) (aj HS1.out.list);go_upto_region 2 with (go_at_call 43;refine SH.mono ?_;clear SH z0 z1 z2 z3 z4 z5 z6 z7 z8;rintro e w2 ⟨o,r,m,ms,rfl,O2,b2⟩;obtain⟨k1,n1',d1,k2,n2',d2,k3,n3',d3,rfl,rfl,rfl⟩:=gr.bq (gr.fM O2);have HO2:Hid _:=O2;have HB2:Hid _:=b2;clear O2 b2)
 have en3:n3'=H.a7.length:=by
  obtain⟨_,_,e2,_⟩:=gr.cB HO2.out.2.2.2.1;injection e2 with _ e2 _
  omega
 subst en3;clear hGM;have B3:Below w2.heap.size w2 (w2.alloc (gr.gb (.slice k1 n1' d1) (.slice k2 n2' d2) (.slice k3 H.a7.length d3) GS.next GS.seed)):=(Below.refl _ _).alloc (Nat.le_refl _) _;have T3:=gr.fX w2 50 (.slice k1 n1' d1) (.slice k2 n2' d2) (.slice k3 H.a7.length d3) (.int .i64 GS.next) (.int .i64 GS.seed);have HE3:Hid (gr.kZ (w2.alloc (gr.gb (.slice k1 n1' d1) (.slice k2 n2' d2) (.slice k3 H.a7.length d3) GS.next GS.seed)) w1.heap.size w2.heap.size GS):=⟨_,_,_,ms,T3,gr.cI HO2.out B3,fun e=>by have:=(gr.dz HO2.out _ e).2;omega,HB2.out.size⟩;have HB3:Hid _:=HB2.out.trans (B3.mono HB2.out.size);obtain⟨t0,t1,t2,t3,t4,_⟩:=gr.ak T3;have hw2:=HB2.out.size;clear B3 T3 HO2 HB2;generalize w2.alloc (gr.gb (.slice k1 n1' d1) (.slice k2 n2' d2) (.slice k3 H.a7.length d3) GS.next GS.seed)=Y at *;have LM:=gr.yw HE3.out HGR.out HMM.out;generalize w2.heap.size=PG at *;go_upto_region 4 with (go_at_call 44;refine LM.mono ?_;clear LM;rintro e w4 ⟨rfl,h4,b4⟩;have HG4:Hid _:=h4;have HB4:Hid _:=HB3.out.trans b4;clear h4 b4)
 have HS4:Hid _:=HS1.out.below HB4.out;clear HS1 HB3 HE3 t0 t1 t2 t3 t4 HB4;go_wp2_with fail;go_loopw [5,6] (fun q _ wr=>∃y:Nat,y≤OL.length∧q = .int .i64 (y:Int)∧SS w wr P base g1 g2 g3 cr co cm H.row.length H.roots.length H.a7.length (.slice sa sn sc) (.slice la OL.length lc) H OL (n9 H OL (il R) y) H.roots H.a7∧gr.kZ wr w1.heap.size PG R) (fun q _ _=>OL.length-(intOf q).toNat);case atStart=>exact⟨0,Nat.zero_le _,rfl,by rw[wq];exact HS4.out,HG4.out⟩
 case round=>
  obtain⟨y,hy,rfl,hS,hG⟩:=hrel;clear HS4 HG4;have HS:Hid _:=hS;have HG:Hid _:=hG;by_cases hlt:y<OL.length
  ·have hlt':(y:Int)<(OL.length:Int):=by omega
   obtain⟨j,hj,hjl,hch,h6⟩:=HPL.out y hlt;obtain⟨lb,lo,ev,hlb,x0⟩:=bp (aj hS.list) hlt;subst ev;rw[hj]at x0;have HOK:Hid _:=wo hch;have hif:pj OL (j:Int)=y:=by rw[←hj];exact oh HND.out hlt
   have hrj:(n9 H OL (il R) y).getD j 0=H.row.getD j 0:=by rw[mV hjl,if_neg (by omega)]
   have HNX:Hid _:=rB (fs:=il R) HND.out hlt hj hjl;have HSY:Hid _:=Di (fs:=il R) HND.out hlt hj hjl;have HFF:Hid _:=HFS.out y hlt;have HFN:Hid _:=HFM.out y hlt;rw[hj,Int.toNat_natCast]at HFN;obtain⟨⟨z0,z1,z2,z3,z4⟩,⟨z5,z6,z7,z8⟩,_⟩:=ag HS.out.nine;have BA:=(Below.refl wr.heap.size wr).alloc (Nat.le_refl _) (hb 0 0 0 0 false false);have z2':=(BA.cell (p:=⟨P,2,none⟩) (World.block_lt_of_cell? _ _ z2)).trans z2;have x0':=(BA.cell (p:=⟨lb,lo+y,none⟩) hlb).trans x0
   have HL4:Hid (∀W,Below wr.heap.size wr W→Calls Tryz.prog 45 #[(.slice (some ⟨g1,0,none⟩) H.row.length cr),.int .i64 (j:Int)] W fun e w'=>e = .returned (hv (uS (H.row.getD j 0)) (uF (H.row.getD j 0)) (uC (H.row.getD j 0)) (uH (H.row.getD j 0)) (uP (H.row.getD j 0)) (uM (H.row.getD j 0)))∧Below W.heap.size W w'):=fun W hW=>by
    have S':=HS.out.below hW;have L':=eD (show au W _ (n9 H OL (il R) y) from S'.hp.1) j (by rw[iC];exact hjl);rw[S'.lr]at L';unfold hw at L';rw[hrj]at L';exact L'
   have HA:Hid (∀W,Below (wr.alloc (hb 0 0 0 0 false false)).heap.size (wr.alloc (hb 0 0 0 0 false false)) W→bK W wr.heap.size 0 0 0 0 false false):=fun W hW=>bG (cH wr 0 0 0 0 false false) hW
   have HBA:Hid _:=BA;have hgw:g1<wr.heap.size:=by have:=HS.out.ch.size;omega
   have hlbw:w.heap.size≤lb:=(aM HS.out.list lb (by simp[blk,Value.ownBlock])).1;have HHD:Hid (∀f,hdW (H.row.getD j 0) f=pkd (uS (H.row.getD j 0)) f (uC (H.row.getD j 0)) (uH (H.row.getD j 0)) (uP (H.row.getD j 0)) (uM (H.row.getD j 0))):=fun _=>rfl
   have HOO:Hid (ok (H.row.getD j 0)=true):=by
    show _=_
    unfold chunk at hch;split at hch
    ·rename_i h0
     rw[Bool.and_eq_true]at h0;exact h0.1
    ·exact absurd rfl hch
   clear BA hS hG hj hch hif hrj;generalize hRJ:H.row.getD j 0=rj at *;clear hRJ;generalize hF:uF rj=f at *;generalize hS':uS rj=s at *;generalize uC rj=c at *;generalize uH rj=g at *;generalize uP rj=p at *;generalize uM rj=m at *;clear hF hS';generalize hf2:(R.objs.getD y gr.obD).fmt=f2 at *;go_upto_region 7 with fail
   go_cut [5,6] from 21 to 62 (fun i' q wy=>i' = .int .i64 (y:Int)∧∃B,q = .pointer (some ⟨B,0,none⟩)∧bK wy B s f c g p m∧wr.heap.size≤B∧Below wr.heap.size wr wy)
   case first=>
    go_region_law (first
     |(go_simp;go_at_call 45;refine (HL4.out _ HBA.out.drew).mono ?_;clear HL4;rintro e w6 ⟨rfl,b6⟩;have b7:Below (wr.alloc (hb 0 0 0 0 false false)).heap.size (wr.alloc (hb 0 0 0 0 false false)) w6:=⟨b6.os,b6.tape,b6.output,b6.size,b6.block⟩;have TA:=HA.out w6 b7;obtain⟨t0',t1',t2',t3',t4',t5',tf⟩:=aO TA;have f0:=tf 0;have f1:=tf 1;have f2':=tf 2;have f3:=tf 3;have f4:=tf 4;have f5:=tf 5;have HEnd:Hid (bK (((((((w6.setCell ⟨wr.heap.size,0,none⟩ (.int .i64 s)).setCell ⟨wr.heap.size,1,none⟩ (.int .i64 f)).setCell ⟨wr.heap.size,2,none⟩ (.int .i64 c)).setCell ⟨wr.heap.size,3,none⟩ (.int .i64 g)).setCell ⟨wr.heap.size,4,none⟩ (.bool p)).setCell ⟨wr.heap.size,5,none⟩ (.bool m))) wr.heap.size s f c g p m∧wr.heap.size≤wr.heap.size∧Below wr.heap.size wr (((((((w6.setCell ⟨wr.heap.size,0,none⟩ (.int .i64 s)).setCell ⟨wr.heap.size,1,none⟩ (.int .i64 f)).setCell ⟨wr.heap.size,2,none⟩ (.int .i64 c)).setCell ⟨wr.heap.size,3,none⟩ (.int .i64 g)).setCell ⟨wr.heap.size,4,none⟩ (.bool p)).setCell ⟨wr.heap.size,5,none⟩ (.bool m)))):=⟨jK TA s f c g p m,Nat.le_refl _,fk (HBA.out.trans (b7.mono HBA.out.size)) (Nat.le_refl _) s f c g p m⟩;clear b6 b7 TA tf)
     |(go_simp;go_at_call 45;refine (HL4.out _ (Below.refl _ _).drew).mono ?_;clear HL4;rintro e w6 ⟨rfl,b6⟩;have b7:Below wr.heap.size wr w6:=⟨b6.os,b6.tape,b6.output,b6.size,b6.block⟩;have HEnd:Hid (bK (w6.alloc (hb s f c g p m)) w6.heap.size s f c g p m∧wr.heap.size≤w6.heap.size∧Below wr.heap.size wr (w6.alloc (hb s f c g p m))):=⟨cH w6 s f c g p m,b7.size,b7.alloc b7.size (hb s f c g p m)⟩;clear b6 b7))
    all_goals (go_wp2_with fail)
    all_goals go_meet
    all_goals exact⟨rfl,_,rfl,HEnd.out.1,HEnd.out.2.1,HEnd.out.2.2⟩
   obtain⟨rfl,B,rfl,hHd,hBw,hBy⟩:=hcut;have HHd:Hid _:=hHd;have HSc:Hid _:=HS.out.below hBy;have HGc:Hid _:=gr.eZ HG.out hBy;have x0c:=(hBy.cell (p:=⟨lb,lo+y,none⟩) hlb).trans x0;have hlbc:lb<wc.heap.size:=Nat.lt_of_lt_of_le hlb hBy.size;obtain⟨q0,c0,y0,y1,hq0⟩:=gr.nT HGc.out (i:=y) (by rw[HN1.out];exact hlt);rw[hf2]at y1;rw[HN1.out]at y0;obtain⟨t0,t1,t2,t3,t4,t5,tf⟩:=aO hHd;have tf1:=tf 1;have hBs:B<wc.heap.size:=lt_of_block hHd;have hws:=HSc.out.ch.size;have HBY:Hid _:=hBy
   have HLO:Hid (∀k ∈ [g1],k<w1.heap.size):=by
    intro k hk;have e:k=g1:=by simpa using hk
    omega
   clear z0 z1 z2 z3 z4 z5 z6 z7 z8 z2' x0 x0' HL4 HA HBA hHd hBy tf;by_cases hff:f=f2
   ·subst hff;have HE:Hid (n9 H OL (il R) (y+1)=n9 H OL (il R) y):=HSY.out HOO.out HFF.out;go_upto_region 8 with fail
    go_quiet (fail);go_wp2;exact⟨⟨y+1,by omega,by go_num,by rw[HE.out];exact HSc.out.below (br ⟨_,rfl⟩),gr.eZ HGc.out (br ⟨_,rfl⟩)⟩,by simp[intOf];omega⟩
   ·have hff':(f==f2)=false:=by simpa using hff
    have hf0:f2=0:=by
     rcases HFN.out with e|e
     ·exact absurd e.symm hff
     ·exact e
    have HHK:Hid (hok s f2 c g p m=true):=by rw[hf0];exact qK HOK.out h6
    have HST:Hid (∀W,SS w W P base g1 g2 g3 cr co cm H.row.length H.roots.length H.a7.length (.slice sa sn sc) (.slice (some ⟨lb,lo,none⟩) OL.length lc) H OL (n9 H OL (il R) y) H.roots H.a7→SS w (W.setCell ⟨g1,j,none⟩ (.int .i64 (pk s f2 c g p m))) P base g1 g2 g3 cr co cm H.row.length H.roots.length H.a7.length (.slice sa sn sc) (.slice (some ⟨lb,lo,none⟩) OL.length lc) H OL (n9 H OL (il R) (y+1)) H.roots H.a7):=fun W h=>by
     have e1:=HNX.out;rw[HHD.out,HFF.out]at e1;rw[←e1,Il HHK.out];exact h.setRow HDS.out j _
    clear HSY HNX HFF HFN HOO HOK HHD hf0;go_upto_region 8 with fail
    go_quiet (fail);clear t0 t1 t2 t3 t4 t5 tf1 y0 y1 hBs hlbc;generalize hwd:wc.drewN _=wd at *;have BQ:Below wc.heap.size wc wd:=by rw[←hwd];exact br ⟨_,rfl⟩
    clear hwd;have HHe:Hid _:=bG HHd.out BQ;obtain⟨t0,t1,t2,t3,t4,t5,tf⟩:=aO HHe.out;have tf1:=tf 1;obtain⟨q0,c0,y0,y1,_⟩:=gr.nT (gr.eZ HGc.out BQ) (i:=y) (by rw[HN1.out];exact hlt);rw[hf2]at y1;rw[HN1.out]at y0;have HBV:Hid (Below wr.heap.size wr (wd.setCell ⟨B,1,none⟩ (.int .i64 f2))):=(HBY.out.trans (BQ.mono HBY.out.size)).setCell (p:=⟨B,1,none⟩) hBw _;have x0d:=(BQ.cell (p:=⟨lb,lo+y,none⟩) (World.block_lt_of_cell? _ _ x0c)).trans x0c;have hlbc:lb<wd.heap.size:=World.block_lt_of_cell? _ _ x0d;clear tf BQ HBY;go_upto_region 10 with fail
    have HS9:Hid _:=HS.out.below HBV.out;have HG9:Hid _:=gr.eZ HG.out HBV.out;have HHd9:Hid (bK (wd.setCell ⟨B,1,none⟩ (.int .i64 f2)) B s f2 c g p m):=(bL HHe.out 1 _).trans (by simp);have x09:=(lE wd ⟨lb,lo+y,none⟩ ⟨B,1,none⟩ (.int .i64 f2) (by show lb≠B;omega)).trans x0d;have hlb9:lb<(wd.setCell ⟨B,1,none⟩ (.int .i64 f2)).heap.size:=by simpa using hlbc
    generalize wd.setCell ⟨B,1,none⟩ (.int .i64 f2)=V9 at *;clear HSc HGc HHd HHe x0c x0d t0 t1 t2 t3 t4 t5 y0 y1 HBV HS HG tf1;generalize hA0:(Act.mk _ [])=A0;have e0:A0.tmps.getD 0 undef = .pointer (some ⟨P,0,none⟩):=by rw[←hA0];rfl
    have e2:A0.tmps.getD 2 undef = .slice (some ⟨lb,lo,none⟩) OL.length lc:=by rw[←hA0];rfl
    have e5:A0.tmps.getD 5 undef = .int .i64 (y:Int):=by rw[←hA0];rfl
    have e6:A0.tmps.getD 6 undef = .pointer (some ⟨B,0,none⟩):=by rw[←hA0];rfl
    have sz:A0.tmps.size=92:=by rw[←hA0];rfl
    refine jS (by kernel_rfl) rD (by simp) ?_ 11 rfl Jk EE (JD H OL P g1 cr lb lo lc y j s f2 c g p m) ?_ ?_ ?_ ?_
    ·intro k o ho;have hk:k<12:=(Array.getElem?_eq_some_iff.1 ho).1;rcases (show k=0∨k=1∨k=2∨k=3∨k=4∨k=5∨k=6∨k=7∨k=8∨k=9∨k=10∨k=11 by omega) with rfl|rfl|rfl|rfl|rfl|rfl|rfl|rfl|rfl|rfl|rfl|rfl<;>(obtain rfl:=Option.some.inj ho;simp)
    ·intro k t W W' hb h;match k,h with
     |0,h=>exact h
     |1,h=>exact h
     |2,h=>exact h
     |3,h=>exact h
     |4,h=>exact h
     |5,h=>exact h
     |6,h=>exact h
     |7,h=>exact h
     |8,h=>exact h
     |9,h=>exact h
     |10,h=>exact h
     |_+11,h=>exact h.elim
    ·intro o ho kk hkk;obtain rfl:=Option.some.inj ho;rcases (show kk=0∨kk=1∨kk=2∨kk=3∨kk=4∨kk=5∨kk=6∨kk=7∨kk=8∨kk=9∨kk=10 by omega) with rfl|rfl|rfl|rfl|rfl|rfl|rfl|rfl|rfl|rfl|rfl<;>simp[Region.binds]
    ·intro k o u W hk ho hB hF;have ev:∀s,rD s=true→s<92→(ovr rD A0 u).tmps[s]?.getD undef=u s:=fun s h1 h2=>(af _ _).symm.trans (aS h1 (by omega))
     have o0:(ovr rD A0 u).tmps[0]?.getD undef=_:=(af _ _).symm.trans ((ah (D:=rD) (a0:=A0) (u:=u) (s:=0) rfl (by omega)).trans e0);have o2:(ovr rD A0 u).tmps[2]?.getD undef=_:=(af _ _).symm.trans ((ah (D:=rD) (a0:=A0) (u:=u) (s:=2) rfl (by omega)).trans e2);have o5:(ovr rD A0 u).tmps[5]?.getD undef=_:=(af _ _).symm.trans ((ah (D:=rD) (a0:=A0) (u:=u) (s:=5) rfl (by omega)).trans e5);have o6:(ovr rD A0 u).tmps[6]?.getD undef=_:=(af _ _).symm.trans ((ah (D:=rD) (a0:=A0) (u:=u) (s:=6) rfl (by omega)).trans e6);have SW:=HS9.out.below hB;obtain⟨⟨_,_,z2,_,_⟩,_,_⟩:=ag SW.nine;have xl:=(hB.cell (p:=⟨lb,lo+y,none⟩) hlb9).trans x09;obtain⟨t0,t1,t2,t3,t4,t5,_⟩:=aO (bG HHd9.out hB);clear SW;rcases (show k=0∨k=1∨k=2∨k=3∨k=4∨k=5∨k=6∨k=7∨k=8∨k=9∨k=10 by omega) with rfl|rfl|rfl|rfl|rfl|rfl|rfl|rfl|rfl|rfl|rfl
     all_goals obtain rfl:=Option.some.inj ho
     ·refine fI (v:=.pointer (some ⟨P,0,none⟩)) rfl rfl ?_ rfl;simp only[execOp];go_simp;try go_num
      try (rw[IntKind.wrap_i64];omega)
     ·have x0:=(ev 52 rfl (by decide)).trans (hF 0 (by decide) (by simp[Region.binds]));refine fI (v:=.pointer (some ⟨P,0,none⟩)) rfl rfl ?_ rfl;simp only[execOp];go_simp;try go_num
      try (rw[IntKind.wrap_i64];omega)
     ·have x1:=(ev 53 rfl (by decide)).trans (hF 1 (by decide) (by simp[Region.binds]));refine fI (v:=.pointer (some ⟨P,2,none⟩)) rfl rfl ?_ rfl;simp only[execOp];go_simp;try go_num
      try (rw[IntKind.wrap_i64];omega)
     ·have x2:=(ev 54 rfl (by decide)).trans (hF 2 (by decide) (by simp[Region.binds]));refine fI (v:=.slice (some ⟨g1,0,none⟩) H.row.length cr) rfl rfl ?_ rfl;simp only[execOp];go_simp;try go_num
      try (rw[IntKind.wrap_i64];omega)
     ·refine fI (v:=.slice (some ⟨lb,lo,none⟩) OL.length lc) rfl rfl ?_ rfl;simp only[execOp];go_simp;try go_num
      try (rw[IntKind.wrap_i64];omega)
     ·refine fI (v:=.int .i64 (y:Int)) rfl rfl ?_ rfl;simp only[execOp];go_simp;try go_num
      try (rw[IntKind.wrap_i64];omega)
     ·have x4:=(ev 56 rfl (by decide)).trans (hF 4 (by decide) (by simp[Region.binds]));have x5:=(ev 57 rfl (by decide)).trans (hF 5 (by decide) (by simp[Region.binds]));refine fI (v:=.pointer (some ⟨lb,lo+y,none⟩)) rfl rfl ?_ rfl;simp only[execOp];go_simp;try go_num
      try (rw[IntKind.wrap_i64];omega)
     ·have x6:=(ev 58 rfl (by decide)).trans (hF 6 (by decide) (by simp[Region.binds]));refine fI (v:=.int .i64 (j:Int)) rfl rfl ?_ rfl;simp only[execOp];go_simp;try go_num
      try (rw[IntKind.wrap_i64];omega)
     ·refine fI (v:=hv s f2 c g p m) rfl rfl ?_ rfl;simp only[execOp];go_simp;try go_num
      try (rw[IntKind.wrap_i64];omega)
     ·have x8:=(ev 60 rfl (by decide)).trans (hF 8 (by decide) (by simp[Region.binds]));refine Fp (f:=46) (args:=#[hv s f2 c g p m]) rfl rfl ?_ ((wQ s f2 c g p m W HHK.out).mono ?_)
      ·simp only[execOp];go_simp
      ·rintro e w' ⟨rfl,rfl⟩;exact⟨_,rfl,(Below.refl _ _).alloc (Nat.le_refl _) _,rfl⟩
     ·have x3:=(ev 55 rfl (by decide)).trans (hF 3 (by decide) (by simp[Region.binds]));have x7:=(ev 59 rfl (by decide)).trans (hF 7 (by decide) (by simp[Region.binds]));refine fI (v:=.pointer (some ⟨g1,j,none⟩)) rfl rfl ?_ rfl;simp only[execOp];go_simp;try go_num
      try (rw[IntKind.wrap_i64];omega)
    ·intro o u W ho hB hF;obtain rfl:=Option.some.inj ho;have ev:∀s,rD s=true→s<92→(ovr rD A0 u).tmps[s]?.getD undef=u s:=fun s h1 h2=>(af _ _).symm.trans (aS h1 (by omega))
     have o0:(ovr rD A0 u).tmps[0]?.getD undef=_:=(af _ _).symm.trans ((ah (D:=rD) (a0:=A0) (u:=u) (s:=0) rfl (by omega)).trans e0);have o2:(ovr rD A0 u).tmps[2]?.getD undef=_:=(af _ _).symm.trans ((ah (D:=rD) (a0:=A0) (u:=u) (s:=2) rfl (by omega)).trans e2);have o5:(ovr rD A0 u).tmps[5]?.getD undef=_:=(af _ _).symm.trans ((ah (D:=rD) (a0:=A0) (u:=u) (s:=5) rfl (by omega)).trans e5);have o6:(ovr rD A0 u).tmps[6]?.getD undef=_:=(af _ _).symm.trans ((ah (D:=rD) (a0:=A0) (u:=u) (s:=6) rfl (by omega)).trans e6);have SW:=HS9.out.below hB;obtain⟨⟨_,_,z2,_,_⟩,_,_⟩:=ag SW.nine;have xl:=(hB.cell (p:=⟨lb,lo+y,none⟩) hlb9).trans x09;obtain⟨t0,t1,t2,t3,t4,t5,_⟩:=aO (bG HHd9.out hB);clear SW;obtain⟨cw,fw⟩:=(HS9.out.below hB).Df (q:=j) (by rw[(HS9.out.below hB).lr];omega);have x9:=(ev 61 rfl (by decide)).trans (hF 9 (by decide));have x10:=(ev 62 rfl (by decide)).trans (hF 10 (by decide));refine mj (W':=W.setCell ⟨g1,j,none⟩ (.int .i64 (pk s f2 c g p m))) ?_ ?_ ?_
     ·exact rfl
     ·simp only[execOp];go_simp
     ·have HSW:Hid _:=HST.out W (HS9.out.below hB);have HGW:Hid _:=gr.EH (gr.eZ HG9.out hB) (chG (aH W g1 j (.int .i64 (pk s f2 c g p m)))) HLO.out;clear xl z2 cw fw hF x9 x10 ev o0 o2 o5 o6 e0 e2 e5 e6 sz t0 t1 t2 t3 t4 t5;subst hA0;simp[ovr,rD,List.range,List.range.loop];go_wp2;exact⟨⟨y+1,by omega,by go_num,HSW.out,HGW.out⟩,by simp[intOf];omega⟩
  ·have hlt':¬(y:Int)<(OL.length:Int):=by omega
   have e:y=OL.length:=by omega
   subst e;obtain⟨W0,hW0⟩:∃W0,W0=wr:=⟨_,rfl⟩
   subst hW0
   have HH0:Hid (HH W0 P base (.slice (some ⟨g1,0,none⟩) H.row.length cr) (.slice (some ⟨g2,0,none⟩) H.roots.length co) (.slice (some ⟨g3,0,none⟩) H.a7.length cm) (.slice sa sn sc) (jG H R 0)):=by
    show HH _ _ _ _ _ _ _ _
    rw[HK0.out];exact HH.Ik HS.out HDS.out
   have HW0:Hid _:=HS.out.ch;have HL0:Hid _:=aj HS.out.list;obtain⟨pa,pc,y2,hPb,hPw,hqq⟩:=gr.qW HG.out;have HQQ:Hid _:=hqq;have HY2:Hid _:=y2;have hPne:P≠g3:=HDS.out.pm;have hlbw:∀k ∈ blk (.slice la OL.length lc),w.heap.size≤k:=fun k hk=>(aM HS.out.list k hk).1
   have HLB:Hid _:=hlbw;have hw0:=HW0.out.size;clear hS hG HS HG y2 hqq hlbw hlt hlt' hy;go_wp2_with fail;go_loopw [7] (fun v wz=>∃y i:Nat,i=H.a7.length+y∧i≤R.a7.length∧v = .int .i64 (i:Int)∧∃vm,HH wz P base (.slice (some ⟨g1,0,none⟩) H.row.length cr) (.slice (some ⟨g2,0,none⟩) H.roots.length co) vm (.slice sa sn sc) (jG H R y)∧jo W0 wz P (.slice (some ⟨g3,0,none⟩) H.a7.length cm) vm) (fun v _=>R.a7.length-(intOf v).toNat);case atStart=>exact⟨0,_,rfl,n3,rfl,_,HH0.out,jo.refl _ _ _⟩
   case round=>
    obtain⟨y,i,hi,hiR,rfl,vm,hH,hMv⟩:=hrel;clear HH0;have HI:Hid _:=hi;obtain⟨ma,mn,mc,rfl⟩:=bl (aj hH.own.1.2.2.1);have KB0:∀b,b<W0.heap.size→b≠P→b≠g3→wr.heap[b]? = W0.heap[b]? := fun b h1 h2 h3=>hMv.ch.block b h1 (by rw[cN];simp;omega)
    have hsz:=hMv.ch.size;have y2:wr.cell? ⟨PG,2,none⟩=some (.slice pa R.a7.length pc):=(mL (KB0 PG hPw (by omega) (by omega))).trans HY2.out;have HHH:Hid _:=hH;have HMV:Hid _:=hMv;by_cases hlt:i<R.a7.length
    ·have hlt':(i:Int)<(R.a7.length:Int):=by omega
     obtain⟨qb,qo,rfl,hqb,hqw,hqc⟩:=HQQ.out (by omega);obtain⟨q,hq,hr⟩:=HQ.out i (by omega) hlt;have y3:=(hqc i hlt).2;rw[hr]at y3;obtain⟨lb,lo,ev,hlb,y4⟩:=bp HL0.out hq;subst ev;obtain⟨j,hj,hjl,_,_⟩:=HPL.out q hq;rw[hj]at y4
     have HNX:Hid (jG H R (y+1) = { jG H R y with a7:=(jG H R y).a7++[4*(j:Int)+4] }):=by
      have e:=HKN.out y q (by omega) (by rw[←hi];exact hr);rw[hj]at e;exact e
     have hlw:w.heap.size≤lb:=HLB.out lb (by simp[blk,Value.ownBlock])
     have HML:Hid ((jG H R y).a7.length≤1000000):=by
      show _≤_
      unfold jG;rw[List.length_append,List.length_take];omega
     obtain⟨VD,hVD⟩:∃VD,VD=wr.drew:=⟨_,rfl⟩
     have BVD:Below wr.heap.size wr VD:=by rw[hVD];exact (Below.refl _ _).drew
     have HXB:Hid (Below wr.heap.size wr (VD.alloc (.cells #[.int .i64 (4*(j:Int)+4)] 2))):=BVD.alloc BVD.size _;have HXH:Hid ((VD.alloc (.cells #[.int .i64 (4*(j:Int)+4)] 2)).heap[VD.heap.size]? = some (.cells #[.int .i64 (4*(j:Int)+4)] 2 (0,0))):=heap_alloc_new VD _;have HHX:Hid _:=hH.below HXB.out;have HMX:Hid _:=hMv.below HXB.out;have HOM:Hid _:=HHX.out.own.1.2.2.1
     have HXS:Hid (base≤(VD.alloc (.cells #[.int .i64 (4*(j:Int)+4)] 2)).heap.size):=by
      show _≤_
      have:=HXB.out.size
      omega
     have HCE:Hid (∀W,(Below wr.heap.size wr W∨Ch (blk (.slice ma mn mc)) (VD.alloc (.cells #[.int .i64 (4*(j:Int)+4)] 2)) W)→eJ W P 26 (.int .i64 H.half) (.int .i64 H.old) (.slice (some ⟨g1,0,none⟩) H.row.length cr) (.int .i64 H.side) (.int .i64 H.top) (.slice (some ⟨g2,0,none⟩) H.roots.length co) (.slice ma mn mc) (.slice sa sn sc) (.int .i64 H.seed)∧W.cell? ⟨PG,2,none⟩=some (.slice (some ⟨qb,qo,none⟩) R.a7.length pc)∧W.cell? ⟨qb,qo+i*2+1,none⟩=some (.int .i64 ((q:Int)+1))∧W.cell? ⟨lb,lo+q,none⟩=some (.int .i64 (j:Int))):=by
      intro W hW
      have hat:∀b,b≠g3→b<W0.heap.size→b ∉ blk (.slice ma mn mc):=fun b h1 h2 e=>by
       rcases hMv.at' b e with e|e
       ·rw[cN]at e;simp at e;omega
       ·omega
      have hPm:P ∉ blk (.slice ma mn mc):=fun e=>hH.np (dV.2.2.1 _ e)
      have K:∀b,b<wr.heap.size→b ∉ blk (.slice ma mn mc)→W.heap[b]? = wr.heap[b]? := fun b h1 h2=>by
       rcases hW with h|h
       ·exact h.block b h1
       ·exact (h.block b (Nat.lt_of_lt_of_le h1 HXB.out.size) h2).trans (HXB.out.block b h1)
      have K2:∀b,b<W0.heap.size→b≠P→b≠g3→W.heap[b]? = W0.heap[b]? := fun b h1 h2 h3=>(K b (by omega) (hat b h3 h1)).trans (KB0 b h1 h2 h3)
      exact⟨(K P (lt_of_block hH.nine) hPm).trans hH.nine,(mL (K2 PG hPw (by omega) (by omega))).trans HY2.out,(mL (K2 qb hqw (by omega) (by omega))).trans y3,(mL (K2 lb hlb (by omega) (by omega))).trans y4⟩
     clear hH hMv y3 y4 hr hqc hi;go_upto_region 14 with fail
     clear y2;generalize hA0:(Act.mk _ [])=A0;have e0:A0.tmps.getD 0 undef = .pointer (some ⟨P,0,none⟩):=by rw[←hA0];rfl
     have e2:A0.tmps.getD 2 undef = .slice (some ⟨lb,lo,none⟩) OL.length lc:=by rw[←hA0];rfl
     have e3:A0.tmps.getD 3 undef = .pointer (some ⟨PG,0,none⟩):=by rw[←hA0];rfl
     have e7:A0.tmps.getD 7 undef = .int .i64 ((i:Nat):Int):=by rw[←hA0];rfl
     have sz:A0.tmps.size=92:=by rw[←hA0];rfl
     refine tJ (by kernel_rfl) iN (by simp) ?_ 21 17 18 rfl (by decide) (by decide) (by decide) J1 EF (JE H OL R P PG ma mn mc lb lo lc qb qo pc i q j) (fun V=>V=VD) (fun t V=>t = .slice (some ⟨VD.heap.size,0,none⟩) 1 1∧V=(VD.alloc (.cells #[.int .i64 (4*(j:Int)+4)] 2))) (fun t V=>∃va vn vc,t = .slice va vn vc∧rows.Own V base (.slice va vn vc) ((jG H R y).a7++[(4*(j:Int)+4)])∧Ch (blk (.slice ma mn mc)) (VD.alloc (.cells #[.int .i64 (4*(j:Int)+4)] 2)) V∧∀z ∈ blk (.slice va vn vc),z ∈ blk (.slice ma mn mc)∨(VD.alloc (.cells #[.int .i64 (4*(j:Int)+4)] 2)).heap.size≤z) (hVD.symm) ?_ ?_ ?_ ?_ ?_ ?_
     ·intro k o ho;have hk:k<22:=(Array.getElem?_eq_some_iff.1 ho).1;rcases (show k=0∨k=1∨k=2∨k=3∨k=4∨k=5∨k=6∨k=7∨k=8∨k=9∨k=10∨k=11∨k=12∨k=13∨k=14∨k=15∨k=16∨k=17∨k=18∨k=19∨k=20∨k=21 by omega) with rfl|rfl|rfl|rfl|rfl|rfl|rfl|rfl|rfl|rfl|rfl|rfl|rfl|rfl|rfl|rfl|rfl|rfl|rfl|rfl|rfl|rfl<;>(obtain rfl:=Option.some.inj ho;simp[Region.binds])
     ·intro l hC kk hkk;have CL:=hC 21 _ rfl (fun h=>by omega);have C20:=hC 20 _ rfl;simp[Region.binds]at CL C20;rcases (show kk=0∨kk=1∨kk=2∨kk=3∨kk=4∨kk=5∨kk=6∨kk=7∨kk=8∨kk=9∨kk=10∨kk=11∨kk=12∨kk=13∨kk=14∨kk=15∨kk=16∨kk=17∨kk=18∨kk=19∨kk=20 by omega) with rfl|rfl|rfl|rfl|rfl|rfl|rfl|rfl|rfl|rfl|rfl|rfl|rfl|rfl|rfl|rfl|rfl|rfl|rfl|rfl|rfl<;>simp_all
     ·intro o ho;obtain rfl:=Option.some.inj ho;simp[Region.binds]
     ·intro k o u W hk hk1 hk2 ho hAB hF;have ev:∀s,iN s=true→s<92→(ovr iN A0 u).tmps[s]?.getD undef=u s:=fun s h1 h2=>(af _ _).symm.trans (aS h1 (by omega))
      have o0:(ovr iN A0 u).tmps[0]?.getD undef=_:=(af _ _).symm.trans ((ah (D:=iN) (a0:=A0) (u:=u) (s:=0) rfl (by omega)).trans e0);have o2:(ovr iN A0 u).tmps[2]?.getD undef=_:=(af _ _).symm.trans ((ah (D:=iN) (a0:=A0) (u:=u) (s:=2) rfl (by omega)).trans e2);have o3:(ovr iN A0 u).tmps[3]?.getD undef=_:=(af _ _).symm.trans ((ah (D:=iN) (a0:=A0) (u:=u) (s:=3) rfl (by omega)).trans e3);have o7:(ovr iN A0 u).tmps[7]?.getD undef=_:=(af _ _).symm.trans ((ah (D:=iN) (a0:=A0) (u:=u) (s:=7) rfl (by omega)).trans e7)
      have hC:Below wr.heap.size wr W∨Ch (blk (.slice ma mn mc)) (VD.alloc (.cells #[.int .i64 (4*(j:Int)+4)] 2)) W:=by
       rcases hAB with e|e|⟨_,_,_,_,_,q2,_⟩
       ·exact .inl (by rw[e];exact BVD)
       ·exact .inl (by rw[e.2];exact HXB.out)
       ·exact .inr q2
      obtain⟨hN9,y2,y3,y4⟩:=HCE.out W hC;obtain⟨⟨z0,z1,z2,z3,z4⟩,⟨z5,z6,z7,z8⟩,_⟩:=ag hN9;clear hAB hC hN9;rcases (show k=0∨k=1∨k=2∨k=3∨k=4∨k=5∨k=6∨k=7∨k=8∨k=9∨k=10∨k=11∨k=12∨k=13∨k=14∨k=15∨k=16∨k=17∨k=18∨k=19∨k=20 by omega) with rfl|rfl|rfl|rfl|rfl|rfl|rfl|rfl|rfl|rfl|rfl|rfl|rfl|rfl|rfl|rfl|rfl|rfl|rfl|rfl|rfl
      all_goals obtain rfl:=Option.some.inj ho
      ·refine bg (v:=.pointer (some ⟨P,0,none⟩)) rfl rfl ?_ rfl;simp only[execOp];go_simp;try go_num
       try (rw[IntKind.wrap_i64];omega)
      ·refine bg (v:=.pointer (some ⟨P,0,none⟩)) rfl rfl ?_ rfl;simp only[execOp];go_simp;try go_num
       try (rw[IntKind.wrap_i64];omega)
      ·have x1:=(ev 72 rfl (by decide)).trans (hF 1 (by decide) (by simp[Region.binds]));refine bg (v:=.pointer (some ⟨P,0,none⟩)) rfl rfl ?_ rfl;simp only[execOp];go_simp;try go_num
       try (rw[IntKind.wrap_i64];omega)
      ·have x2:=(ev 73 rfl (by decide)).trans (hF 2 (by decide) (by simp[Region.binds]));refine bg (v:=.pointer (some ⟨P,6,none⟩)) rfl rfl ?_ rfl;simp only[execOp];go_simp;try go_num
       try (rw[IntKind.wrap_i64];omega)
      ·have x3:=(ev 74 rfl (by decide)).trans (hF 3 (by decide) (by simp[Region.binds]));refine bg (v:=.slice ma mn mc) rfl rfl ?_ rfl;simp only[execOp];go_simp;try go_num
       try (rw[IntKind.wrap_i64];omega)
      ·refine bg (v:=.slice (some ⟨lb,lo,none⟩) OL.length lc) rfl rfl ?_ rfl;simp only[execOp];go_simp;try go_num
       try (rw[IntKind.wrap_i64];omega)
      ·refine bg (v:=.pointer (some ⟨PG,2,none⟩)) rfl rfl ?_ rfl;simp only[execOp];go_simp;try go_num
       try (rw[IntKind.wrap_i64];omega)
      ·have x6:=(ev 77 rfl (by decide)).trans (hF 6 (by decide) (by simp[Region.binds]));refine bg (v:=.slice (some ⟨qb,qo,none⟩) R.a7.length pc) rfl rfl ?_ rfl;simp only[execOp];go_simp;try go_num
       try (rw[IntKind.wrap_i64];omega)
      ·refine bg (v:=.int .i64 ((i:Nat):Int)) rfl rfl ?_ rfl;simp only[execOp];go_simp;try go_num
       try (rw[IntKind.wrap_i64];omega)
      ·have x7:=(ev 78 rfl (by decide)).trans (hF 7 (by decide) (by simp[Region.binds]));have x8:=(ev 79 rfl (by decide)).trans (hF 8 (by decide) (by simp[Region.binds]));refine bg (v:=.pointer (some ⟨qb,qo+i*2,none⟩)) rfl rfl ?_ rfl;simp only[execOp];go_simp;try go_num
       try (rw[IntKind.wrap_i64];omega)
      ·have x9:=(ev 80 rfl (by decide)).trans (hF 9 (by decide) (by simp[Region.binds]));refine bg (v:=.pointer (some ⟨qb,qo+i*2+1,none⟩)) rfl rfl ?_ rfl;simp only[execOp];go_simp;try go_num
       try (rw[IntKind.wrap_i64];omega)
      ·have x10:=(ev 81 rfl (by decide)).trans (hF 10 (by decide) (by simp[Region.binds]));refine bg (v:=.int .i64 ((q:Int)+1)) rfl rfl ?_ rfl;simp only[execOp];go_simp;try go_num
       try (rw[IntKind.wrap_i64];omega)
      ·have x11:=(ev 82 rfl (by decide)).trans (hF 11 (by decide) (by simp[Region.binds]));refine bg (v:=.int .i64 (q:Int)) rfl rfl ?_ rfl;simp only[execOp];go_simp;try go_num
       try (rw[IntKind.wrap_i64];omega)
      ·have x5:=(ev 76 rfl (by decide)).trans (hF 5 (by decide) (by simp[Region.binds]));have x12:=(ev 83 rfl (by decide)).trans (hF 12 (by decide) (by simp[Region.binds]));refine bg (v:=.pointer (some ⟨lb,lo+q,none⟩)) rfl rfl ?_ rfl;simp only[execOp];go_simp;try go_num
       try (rw[IntKind.wrap_i64];omega)
      ·have x13:=(ev 84 rfl (by decide)).trans (hF 13 (by decide) (by simp[Region.binds]));refine bg (v:=.int .i64 (j:Int)) rfl rfl ?_ rfl;simp only[execOp];go_simp;try go_num
       try (rw[IntKind.wrap_i64];omega)
      ·have x14:=(ev 85 rfl (by decide)).trans (hF 14 (by decide) (by simp[Region.binds]));refine bg (v:=.int .i64 (4*(j:Int))) rfl rfl ?_ rfl;simp only[execOp];go_simp;try go_num
       try (rw[IntKind.wrap_i64];omega)
      ·have x15:=(ev 86 rfl (by decide)).trans (hF 15 (by decide) (by simp[Region.binds]));refine bg (v:=.int .i64 (4*(j:Int)+4)) rfl rfl ?_ rfl;simp only[execOp];go_simp;try go_num
       try (rw[IntKind.wrap_i64];omega)
      ·exact absurd rfl hk1
      ·exact absurd rfl hk2
      ·have x0:=(ev 71 rfl (by decide)).trans (hF 0 (by decide) (by simp[Region.binds]));refine bg (v:=.pointer (some ⟨P,0,none⟩)) rfl rfl ?_ rfl;simp only[execOp];go_simp;try go_num
       try (rw[IntKind.wrap_i64];omega)
      ·have x19:=(ev 90 rfl (by decide)).trans (hF 19 (by decide) (by simp[Region.binds]));refine bg (v:=.pointer (some ⟨P,6,none⟩)) rfl rfl ?_ rfl;simp only[execOp];go_simp;try go_num
       try (rw[IntKind.wrap_i64];omega)
     ·intro o u W ho hA hF;obtain rfl:=Option.some.inj ho;have ev:∀s,iN s=true→s<92→(ovr iN A0 u).tmps[s]?.getD undef=u s:=fun s h1 h2=>(af _ _).symm.trans (aS h1 (by omega))
      have o0:(ovr iN A0 u).tmps[0]?.getD undef=_:=(af _ _).symm.trans ((ah (D:=iN) (a0:=A0) (u:=u) (s:=0) rfl (by omega)).trans e0);have o2:(ovr iN A0 u).tmps[2]?.getD undef=_:=(af _ _).symm.trans ((ah (D:=iN) (a0:=A0) (u:=u) (s:=2) rfl (by omega)).trans e2);have o3:(ovr iN A0 u).tmps[3]?.getD undef=_:=(af _ _).symm.trans ((ah (D:=iN) (a0:=A0) (u:=u) (s:=3) rfl (by omega)).trans e3);have o7:(ovr iN A0 u).tmps[7]?.getD undef=_:=(af _ _).symm.trans ((ah (D:=iN) (a0:=A0) (u:=u) (s:=7) rfl (by omega)).trans e7);have x16:=(ev 87 rfl (by decide)).trans (hF 16 (by decide) (by simp[Region.binds]));subst hA;refine gE (v:=.slice (some ⟨W.heap.size,0,none⟩) 1 1) (W':=(W.alloc (.cells #[.int .i64 (4*(j:Int)+4)] 2))) rfl rfl ?_ ⟨rfl,rfl⟩ trivial;simp only[execOp];go_simp
     ·intro o u W ho hA hF;obtain rfl:=Option.some.inj ho;have ev:∀s,iN s=true→s<92→(ovr iN A0 u).tmps[s]?.getD undef=u s:=fun s h1 h2=>(af _ _).symm.trans (aS h1 (by omega))
      have o0:(ovr iN A0 u).tmps[0]?.getD undef=_:=(af _ _).symm.trans ((ah (D:=iN) (a0:=A0) (u:=u) (s:=0) rfl (by omega)).trans e0);have o2:(ovr iN A0 u).tmps[2]?.getD undef=_:=(af _ _).symm.trans ((ah (D:=iN) (a0:=A0) (u:=u) (s:=2) rfl (by omega)).trans e2);have o3:(ovr iN A0 u).tmps[3]?.getD undef=_:=(af _ _).symm.trans ((ah (D:=iN) (a0:=A0) (u:=u) (s:=3) rfl (by omega)).trans e3);have o7:(ovr iN A0 u).tmps[7]?.getD undef=_:=(af _ _).symm.trans ((ah (D:=iN) (a0:=A0) (u:=u) (s:=7) rfl (by omega)).trans e7);have x4:=(ev 75 rfl (by decide)).trans (hF 4 (by decide) (by simp[Region.binds]));obtain⟨q3,q2⟩:=hA;subst q2;have x17:=(ev 88 rfl (by decide)).trans q3;obtain⟨va,vn,vc,w6,hr,h1,h2,h3⟩:=vO HOM.out HXH.out HML.out HXS.out 22;refine gE (v:=.slice va vn vc) (W':=w6) rfl rfl ?_ ⟨va,vn,vc,rfl,h1,h2,h3⟩ trivial;simp[execOp,resolve,invoke,builtin,Act.eval,x4,x17,hr,Result.andThen]
     ·intro o u W ho hA hF;obtain rfl:=Option.some.inj ho;have ev:∀s,iN s=true→s<92→(ovr iN A0 u).tmps[s]?.getD undef=u s:=fun s h1 h2=>(af _ _).symm.trans (aS h1 (by omega))
      have o0:(ovr iN A0 u).tmps[0]?.getD undef=_:=(af _ _).symm.trans ((ah (D:=iN) (a0:=A0) (u:=u) (s:=0) rfl (by omega)).trans e0);have o2:(ovr iN A0 u).tmps[2]?.getD undef=_:=(af _ _).symm.trans ((ah (D:=iN) (a0:=A0) (u:=u) (s:=2) rfl (by omega)).trans e2);have o3:(ovr iN A0 u).tmps[3]?.getD undef=_:=(af _ _).symm.trans ((ah (D:=iN) (a0:=A0) (u:=u) (s:=3) rfl (by omega)).trans e3);have o7:(ovr iN A0 u).tmps[7]?.getD undef=_:=(af _ _).symm.trans ((ah (D:=iN) (a0:=A0) (u:=u) (s:=7) rfl (by omega)).trans e7);obtain⟨va,vn,vc,q0,h1,h2,h3⟩:=hA;have x18:=(ev 89 rfl (by decide)).trans q0;have x20:=(ev 91 rfl (by decide)).trans (hF 20 (by decide));obtain⟨u1,u2,u3,u4⟩:=HHX.out.GA h1 h2 h3;have HU3:Hid _:=u3;have HU4:Hid _:=HMX.out.next u4 h3;clear u3 u4 h1 h2 h3 hF;refine mj (W':=W.setCell ⟨P,6,none⟩ (.slice va vn vc)) ?_ ?_ ?_
      ·exact rfl
      ·simp only[execOp];go_simp
      ·subst hA0;clear ev o0 o2 o3 o7 x18 x20 e0 e2 e3 e7 sz;simp[ovr,iN,List.range,List.range.loop];go_wp2;exact⟨⟨y+1,i+1,by have:=HI.out;omega,by omega,by go_num,_,by rw[HNX.out];exact HU3.out,HU4.out⟩,by simp[intOf];omega⟩
    ·have hlt':¬(i:Int)<(R.a7.length:Int):=by omega
     have HE:Hid (jG H R y=xU H R):=HKE.out y (by rw[HML0.out];omega);clear hH hMv hi;go_wp2_with fail;refine bodyPost_end (results_none rfl _ _ _) rfl ⟨.slice ma mn mc,rfl,?_,?_⟩
     ·rw[←HE.out];exact HHH.out
     ·exact HW0.out.trans (HMV.out.ch.mono (fun k hk=>by rw[cN]at hk;simp at hk ⊢; omega))
end Go.Proofs.YtocidankimefpaaGreatDoor.hp
