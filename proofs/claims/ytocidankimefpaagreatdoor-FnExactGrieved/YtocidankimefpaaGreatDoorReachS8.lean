/- Chapter 7 as the specification has it: l -/
import Derived.Test.YtocidankimefpaaGreatDoorReachS6
set_option linter.unusedVariables false
set_option maxRecDepth 100000
namespace Go.Proofs.YtocidankimefpaaGreatDoor.gr
open Go.RowKit rows heads
theorem Dt {w:World} {base:Nat} {a:Option Addr} {n c:Nat} {xs:List Int} (h:rows.Own w base (.slice a n c) xs) {i:Nat} (hi:i<xs.length):∃g,a=some ⟨g,0,none⟩∧w.cell? ⟨g,i,none⟩=some (.int .i64 (xs.getD i 0))∧g<w.heap.size:=by
 have h':=h;obtain⟨h0,⟨h1,h2⟩|⟨g,cap,cur,h1,hg,hh,_⟩⟩:=h
 ·omega
 ·injection h1 with e1 e2 e3
  subst e1 e2 e3;have:=World.ownsRow.cellAt h' i (by omega)
  refine⟨g,rfl,?_,lt_of_block hh⟩
  rw[this];simp[List.getD_eq_getElem?_getD,List.getElem?_eq_getElem hi]
theorem GK {G:Gr} (h:gG G) {p:Nat} (hp:p<G.objs.length):atI G.objs (G.objs.getD p obD).id=p:=
 uK hp rfl fun m hm e=>absurd (pC (fY h.gOk) (show m<G.objs.length by omega) hp e) (by omega)
set_option maxHeartbeats 8000000 in
theorem yw {base P:Nat} {R:Gr} {w:World} {G:Gr} (H:kZ w base P G) (hr:gG G) (hM:fe G R) :
    Calls Tryz.prog 44 #[.pointer (some ⟨P,0,none⟩)] w fun e w'=>e = .returned (.tuple #[])∧kZ w' base P R∧Below base w w':=by
 have hbase:=mF H;have H0:Hid (∃Gk,kZ w base P Gk∧gG Gk∧fe Gk R∧Below base w w):=⟨G,H,hr,hM,(Below.refl _ w).mono hbase⟩;clear H hr hM;go_enter Tryz.func44,Tryz.ntmps44;go_wp2_with fail;go_loopw [2] (fun v wr=>∃v0,v0=v∧∃Gk,kZ wr base P Gk∧gG Gk∧fe Gk R∧Below base w wr) (fun _ wr=>Gv wr P);case atStart=>exact⟨_,rfl,H0.out⟩
 case round=>
  obtain⟨v0,hv0,Gk,hH,hR,hMk,hBk⟩:=hrel;clear hv0;obtain⟨wr0,hwr0⟩:∃x,x=wr:=⟨_,rfl⟩
  have HH:Hid _:=hH;have hszr:=mF hH;obtain⟨o,r,m,ms,T,O,N,hb'⟩:=hH;obtain⟨a1,n1,c1,a2,n2,c2,a3,n3,c3,e1,e2,e3⟩:=bq (fM O);subst e1 e2 e3;obtain⟨ps,his⟩:=Fs hR.gOk;have GP:=rW (fM O) hR.gOk his;obtain⟨z0,z1,z2,z3,z4,_⟩:=ak T;have HR:Hid _:=hR;have HM:Hid _:=hMk;have HB:Hid _:=hBk;clear T O N hb' hR hMk hBk H0;go_wp2_with fail;refine GP.mono ?_;rintro e w3 ⟨v3,rfl,o3,b3⟩;obtain⟨pa,pc,hv3⟩:=sy (t:=2) o3;rw[List.length_map]at hv3;subst hv3;have HH3:Hid (cU w3 base P Gk (blk (.slice pa ps.length pc))):=CG HH.out b3 fun k hk=>(aM o3 k hk).1
  have HB3:Hid (Below base w w3):=HB.out.trans (b3.mono hszr);have HO3:Hid (mZ 2 w3 wr0.heap.size (.slice pa ps.length pc) (jb Gk.objs ps)):=by rw[hwr0];exact o3
  clear hwr0;have HIS:Hid _:=his;have hps:=CD HR.out.gOk his;have HEP:Hid (Gv _ P=eph Gk.objs):=mG HH.out;clear GP z0 z1 z2 z3 z4 o3 b3 his HB HH;by_cases hn:ps=[]
  ·subst hn;have e:R=Gk:=mE HM.out ⟨[],HIS.out,rfl⟩;subst e;have hl:([]:List Nat).length=0:=rfl;clear HIS HM HO3;go_wp2
   first
    |exact bodyPost_ret (results_none rfl _ _ _) rfl ⟨rfl,HH3.out.held,HB3.out⟩
    |(go_ret;exact⟨rfl,HH3.out.held,HB3.out⟩)
  ·have HM2:Hid _:=ql HM.out HIS.out hn
   have hpos:¬(ps.length:Int)=0:=by
    have:=List.length_pos_iff.2 hn
    omega
   clear HM;go_wp2_with fail;have HPM:Hid (∀p ∈ ps,p<Gk.objs.length):=fun p hp=>jY ((HIS.out.2 p).1 hp)
   go_loopw [3] (fun p wz=>∃k:Nat,k≤ps.length∧p = .int .i64 k∧cU wz base P (dH Gk (ps.take k)) (blk (.slice pa ps.length pc))∧mZ 2 wz wr0.heap.size (.slice pa ps.length pc) (jb Gk.objs ps)∧Below base w wz) (fun p _=>ps.length-(intOf p).toNat);case atStart=>exact⟨0,Nat.zero_le _,rfl,HH3.out,HO3.out,HB3.out⟩
   case round=>
    obtain⟨k,hk,rfl,hA,hO,hBz⟩:=hrel;by_cases hkl:k<ps.length
    ·obtain⟨g,rfl,zc,lg⟩:=Dt hO (i:=k) (by rw[List.length_map];exact hkl);have hpin:=HPM.out (ps.getD k 0) (by rw[List.getD_eq_getElem?_getD,List.getElem?_eq_getElem hkl];exact List.getElem_mem hkl)
     have hid0:(jb Gk.objs ps).getD k 0=((dH Gk (ps.take k)).objs.getD (ps.getD k 0) obD).id:=by
      rw[qm (sC (ps.take k) Gk),List.getD_eq_getElem?_getD,List.getElem?_map,List.getElem?_eq_getElem hkl,List.getD_eq_getElem?_getD (l:=ps),List.getElem?_eq_getElem hkl];rfl
     rw[hid0]at zc;have HSN:Hid _:=qk Gk hkl;have hl0:=nF (ps.take k) Gk;have hr0:gG (dH Gk (ps.take k)):=dX HR.out fun q hq=>HPM.out q (List.mem_of_mem_take hq)
     generalize dH Gk (ps.take k)=Gq at *;generalize ps.getD k 0=pp at *;rw[←hl0]at hpin;have hat:=GK hr0 hpin;have h200:=(gu hr0.gOk).1;obtain⟨q0,c0,r1,r2,r3,m1,m2,m3,ms',sa,sc,T,O,N,hb,HS,him,_,_,_⟩:=mH hA hpin;obtain⟨z0,z1,z2,z3,z4,_⟩:=ak T;have hml:=pN O;have L6:=DK (w:=wr.drew) (show gy wr.drew _ _ _ _ _ from fM O) (show ms'.length≤1048576 by omega) (Gq.objs.getD pp obD).id;rw[hat]at L6;generalize hid1:(Gq.objs.getD pp obD).id=id0 at *;have HID:Hid _:=hid1;clear hid1
     have HALL:Hid (∀w4,w4=wr.drew.alloc (gb (.slice (some ⟨q0,0,none⟩) Gq.objs.length c0) (.slice r1 r2 r3) (.slice m1 m2 m3) Gq.next Gq.seed) →
         (w4.cell? ⟨P,0,none⟩=some (.slice (some ⟨q0,0,none⟩) Gq.objs.length c0)∧(∃u,w4.cell? ⟨q0,pp*5+2,none⟩=some (.int .i64 u))∧w4.frozen? ⟨q0,pp*5+2,none⟩=false) ∧
         (cU (w4.setCell ⟨q0,pp*5+2,none⟩ (.int .i64 0)) base P { Gq with objs:=aZ Gq.objs pp } (blk (.slice (some ⟨g,0,none⟩) ps.length pc))∧mZ 2 (w4.setCell ⟨q0,pp*5+2,none⟩ (.int .i64 0)) wr0.heap.size (.slice (some ⟨g,0,none⟩) ps.length pc) (jb Gk.objs ps)∧Below base w (w4.setCell ⟨q0,pp*5+2,none⟩ (.int .i64 0))∧(w4.setCell ⟨q0,pp*5+2,none⟩ (.int .i64 0)).cell? ⟨g,k,none⟩=some (.int .i64 id0))):=by
      rintro w4 hw4;have b4:Below wr.heap.size wr w4:=by rw[hw4];exact (Below.refl wr.heap.size wr).drew.alloc (show wr.heap.size≤wr.drew.heap.size from Nat.le_refl _) _
      have z0':=(b4.cell (p:=⟨P,0,none⟩) (lD z0)).trans z0;have zc':=(b4.cell (p:=⟨g,k,none⟩) (lD zc)).trans zc;have hA4:=Ee hA b4;have hO4:mZ 2 w4 wr0.heap.size (.slice (some ⟨g,0,none⟩) ps.length pc) (jb Gk.objs ps):=bW hO b4;obtain⟨zu,fz,nP,nS,HA1,B1⟩:=vg hA4 hpin z0';have C1:=aH w4 q0 (pp*5+2) (.int .i64 0);refine⟨⟨z0',zu,fz⟩,HA1,aE hO4 C1 (fun x hx e=>nS ((List.mem_singleton.1 e)▸hx)),(hBz.trans (b4.mono (Nat.le_trans hbase hBz.size))).trans B1,yO C1 (fun e=>nS ((List.mem_singleton.1 e)▸(by simp[jh]))) zc'⟩
     have hkl':(k:Int)<(ps.length:Int):=by omega
     have hpp':pp<Gq.objs.length:=hpin;clear hA hO hBz hl0 hr0 HO3 HB3 HH3 T O N HS him hb hml hat;go_wp2_with fail;go_region_law (go_simp;go_at_call 94;refine L6.mono ?_;clear L6;rintro e w4 ⟨rfl,hw4⟩;obtain⟨⟨y0,⟨u,y1⟩,y2⟩,yy⟩:=HALL.out w4 hw4;have HY:Hid _:=yy;clear yy hw4 HALL)
     all_goals
      generalize hW1:w4.setCell ⟨q0,pp*5+2,none⟩ (.int .i64 0)=W1 at *;clear hW1 z0 z1 z2 z3 z4 zc y0 y1 y2;obtain⟨HA1,hO1,hB1,zc1⟩:=HY.out;obtain⟨q1,c1',r1',r2',r3',m1',m2',m3',ms2,sa2,sc2,T,O,N,hb,HS,_,_,_,_⟩:=mH HA1 (i:=pp) (by rw[mC];exact hpin)
      have em:m2'=Gq.a7.length:=by
       obtain⟨_,⟨h1,h2⟩|⟨g',cap',cur,h1,_⟩⟩:=O.2.2.2.1
       ·injection h1 with _ h3 _
        have h2':Gq.a7.length=0:=h2;omega
       ·injection h1
      obtain⟨_,_,t2,_,_,_⟩:=ak T;have HO1:Hid _:=hO1;have HB1:Hid _:=hB1;have HT:Hid _:=T;have HO:Hid _:=O;have HN:Hid _:=N;have HHS:Hid _:=HS;have HHA:Hid _:=HA1;have HBB:Hid _:=hb;subst em;clear HY hO1 hB1 T O N HS HA1 hb;by_cases h40:Gq.a7.length<40
      ·have h40':(Gq.a7.length:Int)<40:=by omega
       go_wp2_with fail;have BX1:Below W1.heap.size W1 (W1.alloc (rb (2,id0))):=(Below.refl _ _).alloc (Nat.le_refl _) _;have BX3:=BX1.drew;have p2':=(BX1.cell (p:=⟨P,2,none⟩) (lD t2)).trans t2;have zc1':=(BX1.cell (p:=⟨g,k,none⟩) (lD zc1)).trans zc1;have hb1:base≤W1.heap.size:=Nat.le_trans hbase HB1.out.size;have HNW:Hid (∀i u,(cellsR [((2,id0):Rf)])[i]? = some u→(W1.alloc (rb (2,id0))).drew.cell? ((⟨W1.heap.size,0,none⟩:Addr).add i)=some u):=World.news_of_block (heap_alloc_new W1 (rb (2,id0)));have HON:Hid (∀u ∈ cellsR [((2,id0):Rf)],u.oneCell'=true):=fQ _;have T5:=aJ HT.out BX3;have O5:=cI (G:= { Gq with objs:=aZ Gq.objs pp }) (o:=.slice (some ⟨q1,0,none⟩) (aZ Gq.objs pp).length c1') (r:=.slice r1' r2' r3') (m:=.slice m1' Gq.a7.length m3') (ms:=ms2) (base:=base) HO.out BX3;have HROW:Hid (_):=O5.2.2.2.1
       have HAPP:Hid (∀(v':Value) (w10:World),w10.ownsRow base 63 2 v' (Gq.a7.length+1) (cellsR Gq.a7++cellsR [((2,id0):Rf)])→(W1.alloc (rb (2,id0))).drew.grownBy w10 (Value.slice m1' Gq.a7.length m3').ownBlock→(v'.ownBlock=(Value.slice m1' Gq.a7.length m3').ownBlock∨v'.ownBlock=some (W1.alloc (rb (2,id0))).drew.heap.size)→w10.cell? ⟨P,2,none⟩=some (.slice m1' Gq.a7.length m3')∧w10.frozen? ⟨P,2,none⟩=false∧cU (w10.setCell ⟨P,2,none⟩ v') base P (dH Gk (ps.take (k+1))) (blk (.slice (some ⟨g,0,none⟩) ps.length pc))∧mZ 2 (w10.setCell ⟨P,2,none⟩ v') wr0.heap.size (.slice (some ⟨g,0,none⟩) ps.length pc) (jb Gk.objs ps)∧Below base w (w10.setCell ⟨P,2,none⟩ v')):=fun v' w10 h1 h2 h3=>by
        obtain⟨k1,k2,k3,_,k5⟩:=qN (G:= { Gq with objs:=aZ Gq.objs pp }) T5 O5 HN.out HBB.out HHS.out (fun x hx=>Nat.lt_of_lt_of_le (aM HO1.out x hx).2 BX3.size) (2,id0) h1 h2 h3;refine⟨k1,k2,?_,aE (aE (bW HO1.out BX3) (cJ h2) (fun x hx e=>(HHS.out x hx).2 (by simp only[cj,List.mem_append];exact .inr e))) (aH w10 P 2 v') (fun x hx e=>(HHS.out x hx).1 (List.mem_singleton.1 e)),HB1.out.trans ((BX3.mono hb1).trans k5)⟩
        rw[HSN.out];unfold eK;rw[if_pos h40,HID.out];exact k3
       have hbX3:base≤(W1.alloc (rb (2,id0))).drew.heap.size:=Nat.le_trans hb1 BX3.size;obtain⟨i0,hi,hz0,hz1,hz2⟩:=info_parts Aa;have HI:Hid _:=And.intro hi (And.intro hz0 (And.intro hz1 hz2));clear hi hz0 hz1 hz2 T5 O5 BX1 BX3;go_region_law (refine iw rfl (.tmp 41) (.tmp 47) 48 rfl base 63 i0 (.agg #[.int .i64 0,.int .i64 0]) 2 16 Tryz.underlying48 HI.out.1 HI.out.2.1 HI.out.2.2.1 HI.out.2.2.2 rfl (by decide) (.slice m1' Gq.a7.length m3') Gq.a7.length (cellsR Gq.a7) rfl HROW.out ⟨W1.heap.size,0,none⟩ 1 1 (cellsR [((2,id0):Rf)]) rfl rfl HNW.out HON.out (by unfold maxLen;omega) (by omega) hbX3 ?_;intro v' w10 hrow hg hat;obtain⟨gg,cc,rfl⟩:=vA hrow (by omega);obtain⟨pp0,pf,hh⟩:=HAPP.out _ w10 hrow hg hat;have HDF:Hid _:=hh;clear hrow hg hat hh)
       all_goals
        go_wp2
        first
         |exact⟨⟨k+1,by omega,by simp,HDF.out.1,HDF.out.2.1,HDF.out.2.2⟩,by simp[intOf];omega⟩
         |exact⟨⟨_,_,_,⟨k+1,by omega,by simp,HDF.out.1,HDF.out.2.1,HDF.out.2.2⟩,rfl,rfl,rfl⟩,by simp[intOf];omega⟩
      ·have h40':¬(Gq.a7.length:Int)<40:=by omega
       have HNX:Hid (cU W1 base P (dH Gk (ps.take (k+1))) (blk (.slice (some ⟨g,0,none⟩) ps.length pc))):=by
        show cU _ _ _ _ _
        rw[HSN.out];unfold eK;rw[if_neg h40];exact HHA.out
       go_wp2;exact⟨⟨k+1,by omega,by simp,HNX.out,HO1.out,HB1.out⟩,by simp[intOf];omega⟩
    ·have e:k=ps.length:=by omega
     subst e;rw[List.take_length]at hA;have HX:Hid _:=hA.held;have HBX:Hid _:=hBz;have HRX:Hid _:=dX HR.out HPM.out;clear hA hBz hO;go_wp2;exact⟨⟨_,rfl,_,HX.out,HRX.out,HM2.out,HBX.out⟩,by rw[mG HX.out,HEP.out];exact vf HIS.out hn⟩
end Go.Proofs.YtocidankimefpaaGreatDoor.gr
