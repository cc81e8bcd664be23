/- Chapter 7 as the program has it: the clo -/
import Derived.Test.YtocidankimefpaaGreatDoorM5
import Derived.Laws.EntriesVeiled
set_option linter.unusedVariables false
set_option maxRecDepth 100000
namespace Go.Proofs.YtocidankimefpaaGreatDoor.gr
open Go.RowKit rows heads
abbrev FW (Pg Pi Pc Pw:Nat):Value:=.func (.func 144) #[] #[.pointer (some ⟨Pg,0,none⟩),.pointer (some ⟨Pi,0,none⟩),.pointer (some ⟨Pc,0,none⟩),.pointer (some ⟨Pw,0,none⟩)]
structure Env (G:Gr) (a1:Option Addr) (c1:Nat) (ms:List MO) (Pg Pi Pc Pw Bi Bw:Nat) (W:World):Prop where
 g:W.cell? ⟨Pg,0,none⟩=some (.slice a1 ms.length c1)
 i:W.cell? ⟨Pi,0,none⟩=some (.slice (some ⟨Bi,0,none⟩) ms.length ms.length)
 c:W.cell? ⟨Pc,0,none⟩=some (FW Pg Pi Pc Pw)
 w:W.cell? ⟨Pw,0,none⟩=some (.slice (some ⟨Bw,0,none⟩) ms.length ms.length)
 o:qz W (.slice a1 ms.length c1) ms
theorem pZ {P:Program} {ops:Array Oper} {o:Oper} {a:Act} {w:World} {K:Act→World→Prop} {Q:Exit→Act→World→Prop} {E:Prop} (hgd:o.guard=none) (s x:Operand) (t:TypeId)
    (ho:o.op = .call { callee:=.builtin .append,args:=#[s,x],argTypes:=#[t,t] })
    (base:Nat) (e:TypeId) (i:TypeInfo) (z:Value) (size bytes:Nat) (ht:P.underlying t=some (.slice e)) (hi:P.info? e=some i) (hz:i.zero=some z)
    (hsize:i.size=size) (hby:i.bytes=bytes) (hzs:z.cells.size=size) (hsz:0<size)
    (v:Value) (n:Nat) (xs:List Value) (hs:a.eval s=v) (hown:w.ownsRow base e size v n xs)
    (ad:Addr) (m c:Nat) (news:List Value) (hx:a.eval x = .slice (some ad) m c) (hl:news.length=m*size) (hnews:∀j u,news[j]? = some u→w.cell? (ad.add j)=some u) (h1:∀u ∈ news,u.oneCell'=true)
    (h63:n+m≤maxLen) (hbytes:(n+m)*bytes≤140737488355328) (hbase:base≤w.heap.size)
    (h:∀v' w',w'.ownsRow base e size v' (n+m) (xs++news)→w.grownBy w' v.ownBlock→(v'.ownBlock=v.ownBlock∨v'.ownBlock=some w.heap.size)→K (a.put o.dst v') w') :
    if Region.wanted o (yielded ops a.tmps)=true then Oper.wp P o a w K Q else E:=by
 have hw:Region.wanted o (yielded ops a.tmps)=true:=by simp[Region.wanted,hgd]
 rw[if_pos hw];obtain⟨v',w',hr,h2,h3,_,h5⟩:=run_append_own_at (P:=P) w base t o.type e i z size bytes ht hi hz hsize hby hzs hsz v n xs hown ad m c news hl hnews h1 h63 hbytes hbase;unfold Oper.wp;simp[execOp,ho,resolve,invoke,builtin,hs,hx,hr,Result.andThen];exact h v' w' h2 h3 h5
theorem uU {L:List Rf} {k:Nat} (h:k<L.length):L.take (k+1)=L.take k++[L.getD k bU]:=by
 rw[List.take_add_one,List.getD_eq_getElem?_getD,List.getElem?_eq_getElem h];rfl
theorem qd {G:Gr} (hG:gOk G=true) {p:Nat} (hp:p<G.objs.length):((G.objs.getD p obD).fmt=2→0<(G.objs.getD p obD).slots.length)∧(G.objs.getD p obD).slots.length≤20∧(onw (G.objs.getD p obD)).length≤20:=by
 obtain⟨_,_,h2,h3⟩:=lz ((jd hG).ob p hp);have h4:=iq h3;have h5:(G.objs.getD p obD).slots.length≤20:=by omega
 refine⟨fun e => ?_,h5,?_⟩
 ·rw[e]at h3;simp only[hok]at h3;rw[if_neg (by decide)]at h3;simp only[Bool.and_eq_true,Bool.or_eq_true,decide_eq_true_eq,beq_iff_eq]at h3;omega
 ·unfold onw;split
  ·exact h5
  ·split
   ·rw[List.length_drop];omega
   ·exact Nat.zero_le _
set_option maxHeartbeats 16000000 in
theorem zP {G:Gr} {a1:Option Addr} {c1:Nat} {ms:List MO} {Pg Pi Pc Pw Bi Bw:Nat} {W1:World} (hok:gOk G=true) (ea:ms.map MO.abs=G.objs) (hBi:Bi<W1.heap.size) (hBw:Bw<W1.heap.size) (hne:Bi≠Bw)
    (HE:Hid (∀W,Ch [Bi,Bw] W1 W→Env G a1 c1 ms Pg Pi Pc Pw Bi Bw W)) :
    ∀(N:Nat) (W:World) (vs:List Value) (s:St) (lv:Value) (L:List Rf),s.left≤N→RS W1 Bi Bw ms.length W vs s→(∀W',Ch (yW Bi Bw ms.length vs s) W W'→cM W' lv L)→L.length≤10000→(∀q,(s.w q).length+20*s.left≤10000) →
    Calls Tryz.prog 144 #[lv,.pointer (some ⟨Pg,0,none⟩),.pointer (some ⟨Pi,0,none⟩),.pointer (some ⟨Pc,0,none⟩),.pointer (some ⟨Pw,0,none⟩)] W fun e w'=>e = .returned (.tuple #[])∧∃vs' s',Run G W1 Bi Bw ms.length L W vs s w' vs' s':=by
 intro N;induction N using Nat.strongRecOn with
 |_ N IH=>
 intro W vs s lv L hN hRS hK hL hC;have hlen:ms.length=G.objs.length:=by rw[←ea];simp
 have hn200:ms.length≤500:=by rw[hlen];exact (gu hok).1
 obtain⟨a,cap,hlv,hlc,hcm,hnil,_⟩:=hK W (Ch.refl _ _);subst hlv;have HK:Hid _:=hK;have HIH:Hid _:=IH;have HRS:Hid _:=hRS;have HC:Hid _:=hC;have HEA:Hid _:=ea;have HOK:Hid _:=hok;have HLEN:Hid _:=hlen;clear hK IH hRS hC ea hok hlen;go_enter Tryz.func144,Tryz.ntmps144;go_wp2_with fail;go_loopw [14] (fun p wr=>∃k:Nat,k≤L.length∧p = .int .i64 k∧∃vs' s',Run G W1 Bi Bw ms.length (L.take k) W vs s wr vs' s') (fun p _=>L.length-(intOf p).toNat);case atStart=>exact⟨0,Nat.zero_le _,rfl,vs,s,Run.refl HRS.out⟩
 case round=>
  obtain⟨k,hk,rfl,vs1,s1,run⟩:=hrel;by_cases hlt:k<L.length
  ·obtain⟨a',cap',e,_,_,_,hc⟩:=HK.out wr run.ch;injection e with e1 e2 e3
   subst e1 e3;obtain⟨b,off,rfl,hb,hcc⟩:=hc (by omega);obtain⟨y0,y1⟩:=hcc k hlt;clear hc hcc;have HRUN:Hid _:=run;have HTK:Hid _:=uU hlt;obtain⟨e0,he0⟩:∃e0,L.getD k bU=e0:=⟨_,rfl⟩
   rw[he0]at HTK y0 y1;obtain⟨ek,en⟩:=e0;have BX:Below wr.heap.size wr (wr.alloc (rb (ek,en))):=(Below.refl _ wr).alloc (Nat.le_refl _) _;have RSX:=run.rs.below BX;have EX:=HE.out _ RSX.ch;have LT:=pM EX.o.1 (fP EX.o) HEA.out (fY HOK.out) (by omega) (ek,en);have z0:=EX.g;have HBX:Hid _:=BX;have HRSX:Hid _:=RSX;have szX:=BX.size;clear run RSX EX BX he0;simp only at y0 y1;go_wp2_with fail;generalize hX:(wr.alloc (rb (ek,en)))=X at *;clear hX;refine LT.mono ?_;rintro e w2 ⟨pl,rfl,hpl,b2⟩;have B2:=HBX.out.trans (b2.mono szX);have RS2:=HRSX.out.below b2;have E2:=HE.out _ RS2.ch;have HB2:Hid _:=B2;have HRS2:Hid _:=RS2;have HE2:Hid _:=E2;clear LT z0 y0 y1 HBX HRSX szX b2;cases dl:fG G.objs (ek,en)
   ·have HNX:Hid (∃vs' s',Run G W1 Bi Bw ms.length (L.take (k+1)) W vs s w2 vs' s'):=⟨vs1,s1,by
      rw[HTK.out];exact HRUN.out.trans ((Run.no (HRUN.out.rs) (fun e=>by rw[dl]at e;cases e)).below HB2.out)⟩
    clear B2 RS2 E2 hpl dl;go_wp2;exact⟨⟨k+1,by omega,by go_num,HNX⟩,by simp[intOf];omega⟩
   ·obtain rfl:=hpl dl;have hp:cV G.objs (ek,en)<ms.length:=by rw[HLEN.out];exact gT dl
    have ci:=RS2.Jp hp;have zi:=E2.i;have HDL:Hid _:=dl;cases di:s1.i (cV G.objs (ek,en))
    ·rw[di]at ci;have cf:=RS2.Jg (cV G.objs (ek,en));obtain⟨RS3,CH3⟩:=RS2.pO hBi hne (cV G.objs (ek,en));have hp1:cV G.objs (ek,en)<s1.is.length:=by rw[RS2.li];exact hp
     have E3:=HE.out _ RS3.ch;have zc:=E3.c;have zw:=E3.w;have cw:=RS3.Fu hp;have BD3:Below (w2.setCell ⟨Bi,cV G.objs (ek,en),none⟩ (.bool true)).heap.size (w2.setCell ⟨Bi,cV G.objs (ek,en),none⟩ (.bool true)) (w2.setCell ⟨Bi,cV G.objs (ek,en),none⟩ (.bool true)).drew:=(Below.refl _ _).drew;have RS3d:=RS3.below BD3;have h1:(s1.pO (cV G.objs (ek,en))).i (cV G.objs (ek,en))=true:=by rw[jy hp1,if_pos rfl]
     have hleft:=jI hp1 di;have hlf:=HRUN.out.lf;have hbd:=HRUN.out.bd 10000 HC.out;have hbd1:=xK hp1 di hbd;obtain⟨av,nv,cv,hv⟩:=cO (cB (RS3.own _ hp));have CL:=HIH.out (s1.pO (cV G.objs (ek,en))).left (by omega) _ vs1 (s1.pO (cV G.objs (ek,en))) (vs1.getD (cV G.objs (ek,en)) mJ) (s1.w (cV G.objs (ek,en))) (Nat.le_refl _) RS3d (RS3d.keeps hBi hBw hp h1) (by have:=hbd (cV G.objs (ek,en));omega) (fun q=>by have:=hbd1 q;omega);rw[hv]at cw CL;have HCH3:Hid (Ch (yW Bi Bw ms.length vs1 s1) w2 (w2.setCell ⟨Bi,cV G.objs (ek,en),none⟩ (.bool true)).drew):=CH3.trans (bu BD3);have HLT:Hid ((s1.pO (cV G.objs (ek,en))).left<N):=by show _<_;omega
     have HBD1:Hid _:=hbd1;have HDI:Hid _:=di;have HP:Hid _:=hp;clear B2 RS2 E2 hpl dl di RS3 CH3 E3 BD3 RS3d h1 hleft hlf hbd hbd1 hp1 hv;obtain⟨pl,hple⟩:∃pl,cV G.objs (ek,en)=pl:=⟨_,rfl⟩
     have HPL:Hid _:=hple;rw[hple];rw[hple]at ci cf zc zw cw hp;simp only[hple]at CL HCH3 HLT HBD1 HDI HP;clear hple;go_wp2_with fail;generalize hX3:(w2.setCell ⟨Bi,pl,none⟩ (.bool true))=X3 at *;clear hX3;go_cut [14] from 14 to 73 (fun v wx=>v = .int .i64 k∧∃vs4 s4,Hid (Run G W1 Bi Bw ms.length (s1.w pl) X3.drew vs1 (s1.pO pl) wx vs4 s4))
     case first=>
      go_region_law (go_simp;go_at_call 144;refine CL.mono ?_;clear CL;rintro e w4 ⟨rfl,vs4,s4,run4⟩;have HR4:Hid _:=run4;clear run4);all_goals go_wp2
      all_goals go_meet
      all_goals exact⟨rfl,vs4,s4,HR4⟩
     obtain⟨rfl,vs4,s4,HR4⟩:=hcut;obtain⟨w4,hw4⟩:∃w4,w4=wc:=⟨_,rfl⟩
     subst hw4;clear zc zw cw ci zi cf CL;have E4:=HE.out _ HR4.out.rs.ch;have z0:=E4.g;have HE4:Hid _:=E4;obtain⟨a',cap',e',_,_,_,hc⟩:=E4.o.1;injection e' with e1' e2' e3'
     subst e1' e3';obtain⟨b1,off1,rfl,hb1,hcc1⟩:=hc (by omega);obtain⟨x0,x1,x2,x3,x4⟩:=hcc1 pl hp;clear hc hcc1;have hmo:(ms.getD pl moD).abs=G.objs.getD pl obD:=by rw[←HEA.out,fo]
     have RO:=qd HOK.out (p:=pl) (by rw[←HLEN.out];exact hp);have hsv:=HE4.out.o.2 _ (cZ hp);have LO:=xJ (w:=w4.drew) (cC HE4.out.o.1 (Below.refl _ _).drew) (fP HE4.out.o) HEA.out (fY HOK.out) (by omega) (ms.getD pl moD) (aU hsv (Below.refl _ _).drew) (by rw[←hmo]at RO;exact RO.1);obtain⟨sa,sn,sc,hsl⟩:=cO hsv;rw[hmo]at LO;have HSV:Hid (∀W',Ch [Bi,Bw] W1 W'→cM W' (ms.getD pl moD).sv (ms.getD pl moD).slots):=fun W' hW'=>(HE.out W' hW').o.2 _ (cZ hp)
     have HFM:Hid ((ms.getD pl moD).fmt=(G.objs.getD pl obD).fmt):=by show _=_;rw[←hmo];rfl
     have H20:Hid _:=RO.2.2;have HBD4:Hid (Below w4.heap.size w4 w4.drew):=(Below.refl _ _).drew;clear hmo hsv E4 RO e2';generalize ms.getD pl moD=mo at *;obtain⟨mi,mc,mf,mh,msv,msl⟩:=mo;simp only at x0 x1 x2 x3 x4 hsl HSV HFM LO;subst hsl;go_wp2_with fail;go_cut [10,11,14] from 14 to 73 (fun u u' v wx=>v = .int .i64 k∧u' = .int .i64 (awO G.objs (G.objs.getD pl obD))∧∃a5 n5 c5,u = .slice a5 n5 c5∧Hid (∀W,cM W (.slice sa sn sc) msl→cM W (.slice a5 n5 c5) (onw (G.objs.getD pl obD)))∧Hid (mf=2→∃ad,a5=some ad)∧Hid (Below w4.heap.size w4 wx))
     case first=>
      go_region_law (go_simp;go_at_call 145;refine LO.mono ?_;clear LO;rintro e w5 ⟨a5,n5,c5,rfl,hon,had,b5⟩;have HON:Hid _:=hon;have HAD:Hid _:=had;have HB5:Hid _:=HBD4.out.trans (b5.mono HBD4.out.size);clear hon had b5);all_goals go_wp2
      all_goals go_meet
      all_goals exact⟨rfl,rfl,a5,n5,c5,rfl,HON,HAD,HB5⟩
     obtain⟨rfl,rfl,a5,n5,c5,rfl,HON,HAD,HB5⟩:=hcut;obtain⟨w5,hw5⟩:∃w5,w5=wc:=⟨_,rfl⟩
     subst hw5;clear x0 x1 x2 x3 x4 z0 LO HE4;have HR5:Hid _:=HR4.out.below HB5.out;have E5:=HE.out _ HR5.out.rs.ch;have zi:=E5.i;have zc:=E5.c;have zw:=E5.w;have HLO:Hid (∀W',Ch (yW Bi Bw ms.length vs4 s4) w5 W'→cM W' (.slice a5 n5 c5) (onw (G.objs.getD pl obD))):=fun W' hW'=>HON.out W' (HSV.out W' (jZ HR5.out.rs.ch hW' (Fv HR5.out.rs)))
     have hbd4:=HR5.out.bd (10000-20) HBD1.out;have hlf4:=HR5.out.lf;have CL2:=HIH.out s4.left (by have:=HLT.out;omega) w5 vs4 s4 (.slice a5 n5 c5) (onw (G.objs.getD pl obD)) (Nat.le_refl _) HR5.out.rs HLO.out (by have:=H20.out;omega) (fun q=>by have:=hbd4 q;omega)
     have HGO:Hid (∀w6 vs6 s6,(∀q,awt G.objs (G.objs.getD pl obD)=some q→s4.i q=true)→Run G W1 Bi Bw ms.length (onw (G.objs.getD pl obD)) w5 vs4 s4 w6 vs6 s6→Run G W1 Bi Bw ms.length (L.take (k+1)) W vs s w6 vs6 s6):=fun w6 vs6 s6 hw run6=>by
      rw[HTK.out];refine HRUN.out.trans (Run.ahead HB2.out ?_);have hpl:=HPL.out;subst hpl;exact Ib HRS2.out HDL.out HDI.out HP.out HCH3.out HR5.out run6 hw
     have HAW0:Hid (awt G.objs (G.objs.getD pl obD)=none→awO G.objs (G.objs.getD pl obD) = -1):=Ex;have HAW1:Hid (∀q,awt G.objs (G.objs.getD pl obD)=some q→awO G.objs (G.objs.getD pl obD)=q∧q<G.objs.length):=fun q=>Ey
     have HBD5:Hid _:=hbd4;clear E5 hbd4 hlf4;cases haw:awt G.objs (G.objs.getD pl obD) with
     |none=>
      rw[HAW0.out haw];have HX:Hid _:=HGO.out;clear zi zw HGO HAW0 HAW1;go_wp2_with (go_at_call 144;refine CL2.mono ?_;clear CL2;rintro e w6 ⟨rfl,vs6,s6,run6⟩;have HNX:Hid (∃vs' s',Run G W1 Bi Bw ms.length (L.take (k+1)) W vs s w6 vs' s'):=⟨vs6,s6,HX.out w6 vs6 s6 (fun q e=>by rw[haw]at e;cases e) run6⟩;clear run6);exact⟨⟨k+1,by omega,by go_num,HNX⟩,by simp[intOf];omega⟩
     |some q=>
      obtain⟨eaw,hq⟩:=HAW1.out q haw;rw[eaw];rw[←HLEN.out]at hq;have cq:=HR5.out.rs.Jp hq
      have hm1:((q:Int) == -1)=false:=by
       rw[beq_eq_false_iff_ne];omega
      cases dq:s4.i q
      ·rw[dq]at cq;have BD5:Below w5.heap.size w5 w5.drew:=(Below.refl _ _).drew;have RS5d:=HR5.out.rs.below BD5;have cwq:=HR5.out.rs.Fu hq;obtain⟨qa,qn,qc,hqv⟩:=cO (cB (RS5d.own q hq))
       have hf2:mf=2:=by
        rw[HFM.out];unfold awt at haw;split at haw
        ·rename_i h;exact h.1
        ·cases haw
       obtain⟨ad,rfl⟩:=HAD.out hf2;have RF:=HLO.out _ (bu BD5);obtain⟨hn5,_⟩:=jn RF;subst hn5;have HNW:Hid _:=jV RF;have HON1:Hid _:=fQ (onw (G.objs.getD pl obD));have HOWN:Hid (w5.drew.ownsRow W1.heap.size 63 2 (.slice qa qn qc) (s4.w q).length (cellsR (s4.w q))):=by rw[←hqv];exact RS5d.own q hq
       have hbase:W1.heap.size≤w5.drew.heap.size:=RS5d.ch.size;have hw20:=HBD5.out q;have h20:=H20.out
       have HAPP:Hid (∀(v':Value) (w6:World),w6.ownsRow W1.heap.size 63 2 v' ((s4.w q).length+(onw (G.objs.getD pl obD)).length) (cellsR (s4.w q)++cellsR (onw (G.objs.getD pl obD)))→w5.drew.grownBy w6 (Value.slice qa qn qc).ownBlock→(v'.ownBlock=(Value.slice qa qn qc).ownBlock∨v'.ownBlock=some w5.drew.heap.size)→(∃va vn vc,v' = .slice va vn vc)∧w6.cell? ⟨Pw,0,none⟩=some (.slice (some ⟨Bw,0,none⟩) ms.length ms.length)∧w6.cell? ⟨Bw,q,none⟩=some (.slice qa qn qc)∧w6.frozen? ⟨Bw,q,none⟩=false∧∃vs' s',Run G W1 Bi Bw ms.length (L.take (k+1)) W vs s (w6.setCell ⟨Bw,q,none⟩ v') vs' s'):=fun v' w6 hrow hg hat=>by
        rw[←hqv]at hg hat ⊢;obtain⟨ch6,p0,pf,rs6,hv6,hc6⟩:=RS5d.wait hBi hBw hne hq (onw (G.objs.getD pl obD)) hrow hg hat;refine⟨cO (cB (by unfold fJ;rw[List.length_append,eC];exact hrow)),(HE.out _ ch6).w,p0,pf,vs4.set q v',s4.wait q (onw (G.objs.getD pl obD)),?_⟩
        rw[HTK.out];refine HRUN.out.trans (Run.ahead HB2.out ?_);have hpl:=HPL.out;subst hpl;exact Ez HRS2.out HDL.out HDI.out HP.out HCH3.out HR5.out hq haw dq H20.out rs6 ((bu BD5).trans (hc6 dq)) hv6
       rw[hqv]at cwq;obtain⟨i0,hi0,hz0,hz1,hz2⟩:=info_parts Aa;have HI0:Hid _:=hi0;have HZ0:Hid _:=hz0;have HZ1:Hid _:=hz1;have HZ2:Hid _:=hz2;clear HGO HAW0 HAW1 haw eaw dq BD5 RS5d hqv hf2 RF hi0 hz0 hz1 hz2 CL2;generalize hes:onw (G.objs.getD pl obD)=es at *;generalize hws:s4.w q=ws at *;clear hes hws;go_wp2_with fail;go_region_law (refine pZ rfl (.tmp 69) (.tmp 70) 48 rfl W1.heap.size 63 i0 (.agg #[.int .i64 0,.int .i64 0]) 2 16 Tryz.underlying48 HI0.out HZ0.out HZ1.out HZ2.out rfl (by decide) (.slice qa qn qc) ws.length (cellsR ws) rfl HOWN.out ad es.length c5 (cellsR es) rfl (bV _) HNW.out HON1.out (by unfold maxLen;omega) (by omega) hbase ?_;intro v' w6 hrow hg hat;obtain⟨⟨va,vn,vc,rfl⟩,q0,q1,q2,nx⟩:=HAPP.out v' w6 hrow hg hat;have HNX:Hid _:=nx;clear hrow hg hat nx);all_goals go_wp2
       all_goals exact⟨⟨k+1,by omega,by go_num,HNX⟩,by simp[intOf];omega⟩
      ·rw[dq]at cq;have HX:Hid _:=HGO.out;have HAW:Hid _:=haw;have HDQ:Hid _:=dq;clear zw HGO HAW0 HAW1 haw eaw dq;go_wp2_with (go_at_call 144;refine CL2.mono ?_;clear CL2;rintro e w6 ⟨rfl,vs6,s6,run6⟩;have HNX:Hid (∃vs' s',Run G W1 Bi Bw ms.length (L.take (k+1)) W vs s w6 vs' s'):=⟨vs6,s6,HX.out w6 vs6 s6 (fun q' e=>by rw[HAW.out]at e;injection e with e;rw[←e];exact HDQ.out) run6⟩;clear run6);exact⟨⟨k+1,by omega,by go_num,HNX⟩,by simp[intOf];omega⟩
    ·have HNX:Hid (∃vs' s',Run G W1 Bi Bw ms.length (L.take (k+1)) W vs s w2 vs' s'):=⟨vs1,s1,by
       rw[HTK.out];exact HRUN.out.trans ((Run.no (HRUN.out.rs) (fun _=>di)).below HB2.out)⟩
     rw[di]at ci;clear B2 RS2 E2 hpl dl di;generalize cV G.objs (ek,en)=pl at *;go_wp2;exact⟨⟨k+1,by omega,by go_num,HNX⟩,by simp[intOf];omega⟩
  ·have e:k=L.length:=by omega
   subst e;rw[List.take_length]at run;have HRUN:Hid _:=run;clear run;go_wp2;exact bodyPost_end (results_none rfl _ _ _) rfl ⟨rfl,vs1,s1,HRUN.out⟩
end Go.Proofs.YtocidankimefpaaGreatDoor.gr
