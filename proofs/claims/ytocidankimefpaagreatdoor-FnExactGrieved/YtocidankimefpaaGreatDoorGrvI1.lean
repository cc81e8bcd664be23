/- Chapter 14 as the program has it: mourn, -/
import Derived.Test.YtocidankimefpaaGreatDoorM8
set_option linter.unusedVariables false
set_option maxRecDepth 100000
namespace Go.Proofs.YtocidankimefpaaGreatDoor.gr
open Go.RowKit rows heads
def KS (S:List Nat) (w w':World):Prop:=∀k ∈ S,w'.heap[k]? = w.heap[k]?
theorem KS.trans {S:List Nat} {w w1 w2:World} (h:KS S w w1) (g:KS S w1 w2):KS S w w2:=fun k hk=>(g k hk).trans (h k hk)
theorem KS.below {S:List Nat} {w w1:World} (hS:∀k ∈ S,k<w.heap.size) (b:Below w.heap.size w w1):KS S w w1:=fun k hk=>b.block k (hS k hk)
theorem KS.set {S:List Nat} {w:World} {q:Nat} (hq:q ∉ S) (i:Nat) (v:Value):KS S w (w.setCell ⟨q,i,none⟩ v):=fun k hk=>Below.heap_setCell _ _ _ _ (fun e=>hq (by have e':k=q:=e;rw[←e'];exact hk))
theorem cU.sub {w:World} {base P:Nat} {G:Gr} {S S':List Nat} (h:cU w base P G S) (hs:∀k ∈ S',k ∈ S):cU w base P G S':=by
 obtain⟨o,r,m,ms,T,O,N,hb,HS⟩:=h;exact⟨o,r,m,ms,T,O,N,hb,fun k hk=>HS k (hs k hk)⟩
theorem Au {w w':World} {base P:Nat} {G:Gr} {S0:List Nat} (h:cU w base P G S0) (hb:Below w.heap.size w w') {S:List Nat} (hS:∀k ∈ S,w.heap.size≤k):cU w' base P G (S0++S):=by
 obtain⟨o,r,m,ms,T,O,N,hb',H0⟩:=h;refine⟨o,r,m,ms,aJ T hb,cI O hb,N,hb',fun k hk => ?_⟩
 rcases List.mem_append.1 hk with hk|hk
 ·exact H0 k hk
 ·refine⟨fun e => ?_,fun e => ?_⟩
  ·have:=lt_of_block T
   have:=hS k hk
   omega
  ·have:=(dz O k e).2
   have:=hS k hk
   omega
set_option maxHeartbeats 4000000 in
theorem Av {base P:Nat} {R:Gr} {w:World} {G:Gr} {S0:List Nat} (H:cU w base P G S0) (hS0:∀k ∈ S0,k<w.heap.size) (hr:gG G) (hM:fe G R) :
    Calls Tryz.prog 23 #[.pointer (some ⟨P,0,none⟩)] w fun e w'=>e = .returned (.tuple #[])∧cU w' base P R S0∧Below base w w'∧KS S0 w w':=by
 have hbase:=mF H.held;have HSZ:Hid _:=hS0;have H0:Hid (∃Gk,cU w base P Gk S0∧gG Gk∧fe Gk R∧Below base w w∧KS S0 w w):=⟨G,H,hr,hM,(Below.refl _ w).mono hbase,fun _ _=>rfl⟩;clear H hr hM hS0;go_enter Tryz.func23,Tryz.ntmps23;go_wp2_with fail;go_loopw [2] (fun v wr=>∃v0,v0=v∧∃Gk,cU wr base P Gk S0∧gG Gk∧fe Gk R∧Below base w wr∧KS S0 w wr) (fun _ wr=>Gv wr P);case atStart=>exact⟨_,rfl,H0.out⟩
 case round=>
  obtain⟨v0,hv0,Gk,hHA,hR,hMk,hBk,hKk⟩:=hrel;clear hv0;have HH:Hid _:=hHA;have hszr:=mF (cU.held hHA);have HSR:Hid (∀k ∈ S0,k<wr.heap.size):=fun k hk=>Nat.lt_of_lt_of_le (HSZ.out k hk) hBk.size
  have HKK:Hid _:=hKk;obtain⟨o,r,m,ms,T,O,N,hb',_⟩:=hHA;obtain⟨a1,n1,c1,a2,n2,c2,a3,n3,c3,e1,e2,e3⟩:=bq (fM O);subst e1 e2 e3;have GP:=lW (fM O) hR.gOk;obtain⟨z0,z1,z2,z3,z4,_⟩:=ak T;have HR:Hid _:=hR;have HM:Hid _:=hMk;have HB:Hid _:=hBk;clear T O N hb' hR hMk hBk H0 hKk;go_wp2_with fail;refine GP.mono ?_;rintro e w3 ⟨v3,ps,rfl,his,o3,b3⟩;obtain⟨pa,pc,hv3⟩:=sy o3;rw[List.length_map]at hv3;subst hv3;have HH3:Hid (cU w3 base P Gk (S0++blk (.slice pa ps.length pc))):=Au HH.out b3 fun k hk=>(aM o3 k hk).1
  have HK3:Hid (KS S0 w w3):=KS.trans HKK.out (KS.below HSR.out b3);have HB3:Hid (Below base w w3):=HB.out.trans (b3.mono hszr);have HO3:Hid _:=o3;have HIS:Hid _:=his;have hps:=CD HR.out.gOk his;have HEP:Hid (Gv _ P=eph Gk.objs):=mG (cU.held HH.out);clear GP z0 z1 z2 z3 z4 o3 b3 his HB HH HKK;by_cases hn:ps=[]
  ·subst hn;have e:R=Gk:=mE HM.out ⟨[],HIS.out,rfl⟩;subst e;have hl:([]:List Nat).length=0:=rfl;clear HIS HM HO3;go_wp2
   first
    |exact bodyPost_ret (results_none rfl _ _ _) rfl ⟨rfl,cU.sub HH3.out (fun k hk=>List.mem_append_left _ hk),HB3.out,HK3.out⟩
    |(go_ret;exact⟨rfl,cU.sub HH3.out (fun k hk=>List.mem_append_left _ hk),HB3.out,HK3.out⟩)
  ·have HM2:Hid _:=ql HM.out HIS.out hn
   have hpos:¬(ps.length:Int)=0:=by
    have:=List.length_pos_iff.2 hn
    omega
   clear HM;go_wp2_with fail;have HPM:Hid (∀p ∈ ps,p<Gk.objs.length):=fun p hp=>jY ((HIS.out.2 p).1 hp)
   go_loopw [15] (fun p wz=>∃k:Nat,k≤ps.length∧p = .int .i64 k∧cU wz base P (dH Gk (ps.take k)) (S0++blk (.slice pa ps.length pc))∧mZ 3 wz wr.heap.size (.slice pa ps.length pc) (rL ps)∧Below base w wz∧KS S0 w wz) (fun p _=>ps.length-(intOf p).toNat);case atStart=>exact⟨0,Nat.zero_le _,rfl,HH3.out,HO3.out,HB3.out,HK3.out⟩
   case round=>
    obtain⟨k,hk,rfl,hA,hO,hBz,hKz⟩:=hrel;by_cases hkl:k<ps.length
    ·obtain⟨g,rfl,zc,lg⟩:=BN hO (i:=k) (by rw[List.length_map];exact hkl);have hpin:=HPM.out (ps.getD k 0) (by rw[List.getD_eq_getElem?_getD,List.getElem?_eq_getElem hkl];exact List.getElem_mem hkl);rw[show (rL ps).getD k 0=((ps.getD k 0:Nat):Int) by rw[List.getD_eq_getElem?_getD,List.getElem?_map,List.getElem?_eq_getElem hkl,List.getD_eq_getElem?_getD (l:=ps),List.getElem?_eq_getElem hkl];rfl]at zc;have HSN:Hid _:=qk Gk hkl;have hl0:=nF (ps.take k) Gk;have hr0:gG (dH Gk (ps.take k)):=dX HR.out fun q hq=>HPM.out q (List.mem_of_mem_take hq)
     generalize dH Gk (ps.take k)=Gq at *;generalize ps.getD k 0=pp at *;rw[←hl0]at hpin;obtain⟨q0,c0,zP0,zid,⟨u,zu⟩,fz,nP,lq,nS,HA1,B1⟩:=qM hA hpin;obtain⟨q1,c0',r1,r2,r3,m1,m2,m3,ms',sa,sc,T,O,N,hb,HS,him,_,y0,_⟩:=mH HA1 (i:=pp) (by rw[mC];exact hpin)
     have hq1:q1=q0:=by
      have t0:=(ak T).1;have t0':=yO (aH wr q0 (pp*5+2) (.int .i64 0)) (fun e=>nP (List.mem_singleton.1 e)) zP0;rw[t0']at t0;injection t0 with t0
      injection t0 with t0
      injection t0 with t0
      injection t0 with t0
      exact t0.symm
     subst hq1
     have eid:(ms'.getD pp moD).id=(Gq.objs.getD pp obD).id:=by
      have:=congrArg Ob.id (fo ms' pp)
      rw[O.1]at this;rw[show (ms'.getD pp moD).id=(ms'.getD pp moD).abs.id from rfl,←this];show ((aZ Gq.objs pp).getD pp obD).id=_
      rw[gP hpin,if_pos rfl]
     rw[eid]at y0;have hO1:mZ 3 (wr.setCell ⟨q1,pp*5+2,none⟩ (.int .i64 0)) _ (.slice (some ⟨g,0,none⟩) ps.length pc) (rL ps):=aE hO (aH wr q1 (pp*5+2) (.int .i64 0)) (fun k hk e=>nS ((List.mem_singleton.1 e)▸(List.mem_append_right _ hk)));have hB1:Below base w (wr.setCell ⟨q1,pp*5+2,none⟩ (.int .i64 0)):=hBz.trans B1;have hK1:KS S0 w (wr.setCell ⟨q1,pp*5+2,none⟩ (.int .i64 0)):=KS.trans hKz (KS.set (fun e=>nS (List.mem_append_left _ e)) _ _);have HK1:Hid _:=hK1;have HL1:Hid (∀k ∈ S0,k<(wr.setCell ⟨q1,pp*5+2,none⟩ (.int .i64 0)).heap.size):=fun k hk=>Nat.lt_of_lt_of_le (HSZ.out k hk) hB1.size
     have em:m2=Gq.a7.length:=by
      obtain⟨_,⟨h1,h2⟩|⟨g',cap',cur,h1,_⟩⟩:=O.2.2.2.1
      ·injection h1 with _ h3 _
       have h2':Gq.a7.length=0:=h2;omega
      ·injection h1
     obtain⟨_,_,t2,_,_,_⟩:=ak T;have HO1:Hid _:=hO1;have HB1:Hid _:=hB1;have HT:Hid _:=T;have HO:Hid _:=O;have HN:Hid _:=N;have HHS:Hid _:=HS;have HHA:Hid _:=HA1;have HBB:Hid _:=hb;have hkl':(k:Int)<(ps.length:Int):=by omega
     have hpp':(pp:Int)<(Gq.objs.length:Int):=by omega
     subst em;clear hA hO hBz hO1 hB1 B1 T O N HS HA1 hl0 hr0 HO3 HB3 HH3 eid him zid hb hKz hK1 HK3;generalize hid0:(Gq.objs.getD pp obD).id=id0 at *;have HID:Hid _:=hid0;clear hid0;generalize hgl:Gq.objs.length=gl at *;clear hgl;by_cases h40:Gq.a7.length<40
     ·have h40':(Gq.a7.length:Int)<40:=by omega
      go_wp2_with fail;generalize hW1:wr.setCell ⟨q1,pp*5+2,none⟩ (.int .i64 0)=W1 at *;clear hW1;have BX1:Below W1.heap.size W1 (W1.alloc (rb (2,id0))):=(Below.refl _ _).alloc (Nat.le_refl _) _;have BX3:=BX1.drew;have p2':=(BX1.cell (p:=⟨P,2,none⟩) (lD t2)).trans t2;have y0':=(BX1.cell (p:=⟨q1,pp*5,none⟩) (lD y0)).trans y0;have hb1:base≤W1.heap.size:=Nat.le_trans hbase HB1.out.size;have HNW:Hid (∀i u,(cellsR [((2,id0):Rf)])[i]? = some u→(W1.alloc (rb (2,id0))).drew.cell? ((⟨W1.heap.size,0,none⟩:Addr).add i)=some u):=World.news_of_block (heap_alloc_new W1 (rb (2,id0)));have HON:Hid (∀u ∈ cellsR [((2,id0):Rf)],u.oneCell'=true):=fQ _;have T5:=aJ HT.out BX3;have O5:=cI (G:= { Gq with objs:=aZ Gq.objs pp }) (o:=.slice (some ⟨q1,0,none⟩) (aZ Gq.objs pp).length c0') (r:=.slice r1 r2 r3) (m:=.slice m1 Gq.a7.length m3) (ms:=ms') (base:=base) HO.out BX3;have HROW:Hid (_):=O5.2.2.2.1
      have HAPP:Hid (∀(v':Value) (w10:World),w10.ownsRow base 63 2 v' (Gq.a7.length+1) (cellsR Gq.a7++cellsR [((2,id0):Rf)])→(W1.alloc (rb (2,id0))).drew.grownBy w10 (Value.slice m1 Gq.a7.length m3).ownBlock→(v'.ownBlock=(Value.slice m1 Gq.a7.length m3).ownBlock∨v'.ownBlock=some (W1.alloc (rb (2,id0))).drew.heap.size)→w10.cell? ⟨P,2,none⟩=some (.slice m1 Gq.a7.length m3)∧w10.frozen? ⟨P,2,none⟩=false∧cU (w10.setCell ⟨P,2,none⟩ v') base P (dH Gk (ps.take (k+1))) (S0++blk (.slice (some ⟨g,0,none⟩) ps.length pc))∧mZ 3 (w10.setCell ⟨P,2,none⟩ v') _ (.slice (some ⟨g,0,none⟩) ps.length pc) (rL ps)∧Below base w (w10.setCell ⟨P,2,none⟩ v')∧KS S0 w (w10.setCell ⟨P,2,none⟩ v')):=fun v' w10 h1 h2 h3=>by
       obtain⟨k1,k2,k3,k4,k5⟩:=qN (G:= { Gq with objs:=aZ Gq.objs pp }) T5 O5 HN.out HBB.out HHS.out (fun x hx=>by
        rcases List.mem_append.1 hx with hx|hx
        ·exact Nat.lt_of_lt_of_le (HL1.out x hx) BX3.size
        ·exact Nat.lt_of_lt_of_le (aM HO1.out x hx).2 BX3.size) (2,id0) h1 h2 h3
       refine⟨k1,k2,?_,aE (aE (bW HO1.out BX3) (cJ h2) (fun x hx e=>(HHS.out x (List.mem_append_right _ hx)).2 (by simp only[cj,List.mem_append];exact .inr e))) (aH w10 P 2 v') (fun x hx e=>(HHS.out x (List.mem_append_right _ hx)).1 (List.mem_singleton.1 e)),HB1.out.trans ((BX3.mono hb1).trans k5),KS.trans HK1.out (KS.trans (KS.below HL1.out BX3) (fun x hx=>k4 x (List.mem_append_left _ hx)))⟩
       rw[HSN.out];unfold eK;rw[if_pos h40,HID.out];exact k3
      have hbX3:base≤(W1.alloc (rb (2,id0))).drew.heap.size:=Nat.le_trans hb1 BX3.size;obtain⟨i0,hi,hz0,hz1,hz2⟩:=info_parts Aa;have HI:Hid _:=And.intro hi (And.intro hz0 (And.intro hz1 hz2));clear hi hz0 hz1 hz2 T5 O5 BX1 BX3;go_region_law (refine iw rfl (.tmp 38) (.tmp 44) 48 rfl base 63 i0 (.agg #[.int .i64 0,.int .i64 0]) 2 16 Tryz.underlying48 HI.out.1 HI.out.2.1 HI.out.2.2.1 HI.out.2.2.2 rfl (by decide) (.slice m1 Gq.a7.length m3) Gq.a7.length (cellsR Gq.a7) rfl HROW.out ⟨W1.heap.size,0,none⟩ 1 1 (cellsR [((2,id0):Rf)]) rfl rfl HNW.out HON.out (by unfold maxLen;omega) (by omega) hbX3 ?_;intro v' w10 hrow hg hat;obtain⟨gg,cc,rfl⟩:=vA hrow (by omega);obtain⟨pp0,pf,hh⟩:=HAPP.out _ w10 hrow hg hat;have HDF:Hid _:=hh;clear hrow hg hat hh)
      all_goals
       go_wp2;exact⟨⟨_,_,_,⟨k+1,by omega,by simp,HDF.out.1,HDF.out.2.1,HDF.out.2.2⟩,rfl,rfl,rfl⟩,by simp[intOf];omega⟩
     ·have h40':¬(Gq.a7.length:Int)<40:=by omega
      have HNX:Hid (cU (wr.setCell ⟨q1,pp*5+2,none⟩ (.int .i64 0)) base P (dH Gk (ps.take (k+1))) (S0++blk (.slice (some ⟨g,0,none⟩) ps.length pc))):=by
       show cU _ _ _ _ _
       rw[HSN.out];unfold eK;rw[if_neg h40];exact HHA.out
      go_wp2;exact⟨⟨k+1,by omega,by simp,HNX.out,HO1.out,HB1.out,HK1.out⟩,by simp[intOf];omega⟩
    ·have e:k=ps.length:=by omega
     subst e;rw[List.take_length]at hA;have HX:Hid _:=cU.sub (S':=S0) hA (fun k hk=>List.mem_append_left _ hk);have HKX:Hid _:=hKz;have HBX:Hid _:=hBz;have HRX:Hid _:=dX HR.out HPM.out;clear hA hBz hO hKz;go_wp2;exact⟨⟨_,rfl,_,HX.out,HRX.out,HM2.out,HBX.out,HKX.out⟩,by rw[mG (cU.held HX.out),HEP.out];exact vf HIS.out hn⟩
end Go.Proofs.YtocidankimefpaaGreatDoor.gr
