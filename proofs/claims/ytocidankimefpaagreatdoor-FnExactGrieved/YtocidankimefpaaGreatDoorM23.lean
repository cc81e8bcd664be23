/- Chapter 10 as the program has it: HashOf -/
import Derived.Test.YtocidankimefpaaGreatDoorM22
import Derived.Test.YtocidankimefpaaGreatDoorM2
set_option linter.unusedSimpArgs false
set_option linter.unusedVariables false
set_option maxRecDepth 100000
namespace Go.Proofs.YtocidankimefpaaGreatDoor.hp
open Go.RowKit rows heads words walks
theorem ET.led {H:Hp} {ps:List Int} {ds:List Pd} {sl:Pd→List Int} (h:ET H ps ds sl) {x:Int} (hx:aP H ps x=true):fG ds x=isA x:=by
 have hw:=h.word x;rw[hx]at hw;unfold fG;unfold jk at hw;cases e:isA x
 ·rfl
 ·rw[e,if_pos rfl]at hw;rw[hw];rfl
theorem xH {H:Hp} (hr:iO H.row):∀(n:Nat) (x:Int),I64 x→I64 (folL H n x)
 |0,x,h=>h
 |n+1,x,h=>by
  unfold folL;split
  ·refine xH hr n _ ?_;unfold gN;by_cases e:(av x).toNat+1<H.row.length
   ·rw[List.getD_eq_getElem?_getD,List.getElem?_eq_getElem e];exact hr _ (List.getElem_mem e)
   ·rw[List.getD_eq_getElem?_getD,List.getElem?_eq_none (by omega)];exact⟨by decide,by decide⟩
  ·exact h
set_option maxHeartbeats 16000000 in
theorem vt {w:World} {up:Int} {a:Option Addr} {cap:Nat} {H:Hp} {ps:List Int} {ds:List Pd} {sl:Pd→List Int} (hv:dN w (.slice a ds.length cap) ds sl) (hF:ET H ps ds sl) (hr:iO H.row) (x:Int) (hx:aP H ps x=true) (hb:I64 x) :
    Calls Tryz.prog 117 #[rmv up (.slice a ds.length cap),.int .i64 x] w fun e w'=>(isA (fol H x)=false→e = .returned (.tuple #[pdv pdD,.bool false]))∧(isA (fol H x)=true→∃i,i<ds.length∧(ds.getD i pdD).pl=av (fol H x)∧e = .returned (.tuple #[pdv (ds.getD i pdD),.bool true]))∧Below w.heap.size w w':=by
 have B0:Below w.heap.size w (w.alloc (rmb up (.slice a ds.length cap))):=(Below.refl _ _).alloc (Nat.le_refl _) _;have B1:=B0.alloc B0.size (pdb pdD);have hyw:=(hF.rt.followed hx).1;have hyb:I64 (fol H x):=xH hr 1000 x hb;have hyl:=hF.led hyw;have HFO:Hid (∀V,Below w.heap.size w V→Calls Tryz.prog 156 #[rmv up (.slice a ds.length cap),.int .i64 x] V fun e w'=>e = .returned (.int .i64 (fol H x))∧Below V.heap.size V w'):=fun V hV=>Ay (hv.below hV) hF x hx hb
 obtain⟨y,hy⟩:∃y,fol H x=y:=⟨_,rfl⟩
 rw[hy]at hyb hyl;simp only[hy]at HFO;rw[hy]
 have HLB:Hid (∀V,Below w.heap.size w V→Calls Tryz.prog 121 #[rmv up (.slice a ds.length cap),.int .i64 y] V fun e w'=>(isA y=false→e = .returned (.tuple #[pdv pdD,.bool false]))∧(isA y=true→∃i,i<ds.length∧(ds.getD i pdD).pl=av y∧e = .returned (.tuple #[pdv (ds.getD i pdD),.bool true]))∧Below V.heap.size V w'):=fun V hV=>by
  have:=lX (up:=up) (aT hv.pds hV) hv.slices hv.rise (Nat.le_trans hv.len (by decide)) y hyb.1 hyb.2
  rwa [hyl]at this
 have HSL:Hid _:=hv.slices
 have HALL:Hid (∀V,Below ((w.alloc (rmb up (.slice a ds.length cap))).alloc (pdb pdD)).heap.size ((w.alloc (rmb up (.slice a ds.length cap))).alloc (pdb pdD)) V→(V.cell? ⟨w.heap.size,0,none⟩=some (.int .i64 up)∧V.cell? ⟨w.heap.size,1,none⟩=some (.slice a ds.length cap))∧V.heap[w.heap.size+1]? = some (pdb pdD)∧Below w.heap.size w V∧w.heap.size+2≤V.heap.size):=by
  intro V hV;have T1:=heap_alloc_new (w.alloc (rmb up (.slice a ds.length cap))) (pdb pdD);have T2:Below (w.heap.size+1) (w.alloc (rmb up (.slice a ds.length cap))) V:=((Below.refl _ _).alloc (by simp) _).trans (hV.mono (by simp));have q0:V.heap[w.heap.size]? = some (rmb up (.slice a ds.length cap)):=(T2.block _ (by omega)).trans (heap_alloc_new w _);have q1:V.heap[w.heap.size+1]? = some (pdb pdD):=(hV.block (w.heap.size+1) (by simp)).trans ((congrArg (fun k=>((w.alloc (rmb up (.slice a ds.length cap))).alloc (pdb pdD)).heap[k]?) (show w.heap.size+1=(w.alloc (rmb up (.slice a ds.length cap))).heap.size by simp)).trans T1);have hsz:=hV.size;exact⟨(bZ q0).1,q1,B1.trans (hV.mono B1.size),by simpa using hsz⟩
 clear hv hF hr hx hb B0 B1 hyw hyb hyl hy;go_enter Tryz.func117,Tryz.ntmps117;go_upto_region 1 with fail
 generalize (w.alloc _).alloc _=X at *;obtain⟨⟨z0,z1⟩,_⟩:=HALL.out X (Below.refl _ _)
 have HG:Hid (∀(V w':World),Below V.heap.size V w'→Below X.heap.size X V→(w'.cell? ⟨w.heap.size,0,none⟩=some (.int .i64 up)∧w'.cell? ⟨w.heap.size,1,none⟩=some (.slice a ds.length cap))∧w'.heap[w.heap.size+1]? = some (pdb pdD)∧Below w.heap.size w w'∧w.heap.size+2≤w'.heap.size∧Below X.heap.size X w'):=by
  intro V w' h1 h2;have hX:Below X.heap.size X w':=h2.trans (h1.mono h2.size);obtain⟨hz,q,hw,s⟩:=HALL.out w' hX;exact⟨hz,q,hw,s,hX⟩
 have HGB:Hid (∀V,Below X.heap.size X V→Below w.heap.size w V):=fun V hV=>(HG.out X V hV (Below.refl _ _)).2.2.1
 clear HALL;cases dA:isA y
 ·have HDA:Hid _:=dA;simp only[dA]at HLB;clear dA;have HL0:Hid (∀V,Below w.heap.size w V→Calls Tryz.prog 121 #[rmv up (.slice a ds.length cap),.int .i64 y] V fun e w'=>e = .returned (.tuple #[pdv pdD,.bool false])∧Below V.heap.size V w'):=fun V hV=>(HLB.out V hV).mono (fun e w' hh=>⟨hh.1 (by trivial),hh.2.2⟩)
  clear HLB
  go_region_law (first
   |(go_simp;go_at_call 156;refine Calls.mono (HFO.out _ (HGB.out _ ⟨rfl,rfl,rfl,Nat.le_refl _,fun _ _=>rfl⟩)) ?_;rintro e w5 ⟨rfl,b5⟩;obtain⟨⟨t0,t1⟩,_,y5,_,x5⟩:=HG.out _ _ b5 ⟨rfl,rfl,rfl,Nat.le_refl _,fun _ _=>rfl⟩;have HW5:Hid _:=y5;have HX5:Hid _:=x5;clear HFO b5 y5 x5 HGB)
   |(go_simp;go_at_call 121;refine Calls.mono (HL0.out _ ⟨HW5.out.os,HW5.out.tape,HW5.out.output,HW5.out.size,HW5.out.block⟩) ?_;rintro e w6 ⟨rfl,b6⟩;obtain⟨_,q6,bw6,s6,_⟩:=HG.out w5 w6 ⟨b6.os,b6.tape,b6.output,b6.size,b6.block⟩ HX5.out;obtain⟨⟨g0,g1,g2,g3,g4,g5,g6,g7⟩,f0,f1,f2,f3,f4,f5,f6,f7⟩:=bk q6;have HQ6:Hid _:=q6;have HBW:Hid _:=bw6;clear HL0 b6 q6 bw6 HG))
  all_goals (go_wp2_with fail)
  all_goals exact bodyPost_ret (qg rfl rfl rfl (jN HQ6.out pdD)) rfl ⟨fun _=>rfl,fun e=>absurd (HDA.out.symm.trans e) (by decide),gj HBW.out (by omega) pdD⟩
 ·have HDA:Hid _:=dA;simp only[dA]at HLB;clear dA;have HL0:Hid (∀V,Below w.heap.size w V→Calls Tryz.prog 121 #[rmv up (.slice a ds.length cap),.int .i64 y] V fun e w'=>(∃i,i<ds.length∧(ds.getD i pdD).pl=av y∧e = .returned (.tuple #[pdv (ds.getD i pdD),.bool true]))∧Below V.heap.size V w'):=fun V hV=>(HLB.out V hV).mono (fun e w' hh=>⟨hh.2.1 (by trivial),hh.2.2⟩)
  clear HLB
  go_region_law (first
   |(go_simp;go_at_call 156;refine Calls.mono (HFO.out _ (HGB.out _ ⟨rfl,rfl,rfl,Nat.le_refl _,fun _ _=>rfl⟩)) ?_;rintro e w5 ⟨rfl,b5⟩;obtain⟨⟨t0,t1⟩,_,y5,_,x5⟩:=HG.out _ _ b5 ⟨rfl,rfl,rfl,Nat.le_refl _,fun _ _=>rfl⟩;have HW5:Hid _:=y5;have HX5:Hid _:=x5;clear HFO b5 y5 x5 HGB)
   |(go_simp;go_at_call 121;refine Calls.mono (HL0.out _ ⟨HW5.out.os,HW5.out.tape,HW5.out.output,HW5.out.size,HW5.out.block⟩) ?_;rintro e w6 ⟨⟨i,hi,hpl,rfl⟩,b6⟩;obtain⟨_,q6,bw6,s6,_⟩:=HG.out w5 w6 ⟨b6.os,b6.tape,b6.output,b6.size,b6.block⟩ HX5.out;obtain⟨⟨g0,g1,g2,g3,g4,g5,g6,g7⟩,f0,f1,f2,f3,f4,f5,f6,f7⟩:=bk q6;have HQ6:Hid _:=q6;have HBW:Hid _:=bw6;obtain⟨sa,sn,sc,hsv⟩:=HSL.out _ (bj hi);obtain⟨d,hd⟩:∃d,ds.getD i pdD=d:=⟨_,rfl⟩;rw[hd]at hsv hpl ⊢; have HD:Hid _:=hd;have HPL:Hid _:=hpl;obtain⟨ds',df,dc,dh,dp,dm,du,dl⟩:=d;simp only at hsv;subst hsv;clear HL0 b6 q6 bw6 HG hd hpl))
  all_goals (go_wp2_with fail)
  all_goals exact bodyPost_ret (qg rfl rfl rfl (jN HQ6.out ⟨ds',df,dc,dh,dp,dm,.slice sa sn sc,dl⟩)) rfl ⟨fun e=>absurd (HDA.out.symm.trans e) (by decide),fun _=>⟨i,hi,(by first|(rw[HD.out];exact HPL.out)|(have q:=HD.out;rw[List.getD_eq_getElem?_getD]at q;rw[q];exact HPL.out)),(by first|rw[HD.out]|(have q:=HD.out;rw[List.getD_eq_getElem?_getD]at q;rw[q]))⟩,gj HBW.out (by omega) ⟨ds',df,dc,dh,dp,dm,.slice sa sn sc,dl⟩⟩
structure Gp (w:World) (pW:Addr):Prop where
 wrong:w.cell? ⟨0,0,none⟩=some (.iface 240 (.pointer (some pW)))
theorem Gp.below {w V:World} {pW:Addr} (h:Gp w pW) (hb:Below w.heap.size w V):Gp V pW:=
 ⟨(hb.cell (p:=⟨0,0,none⟩) (World.block_lt_of_cell? _ _ h.wrong)).trans h.wrong⟩
abbrev Jd (n:Int) (p:Addr):Value:=.iface 83 (.agg #[.int .i64 n,.iface 240 (.pointer (some p))])
def Je (w:World) (a1 a2 a3 a4:Option Addr) (c1 c2 c3 c4:Nat) (pW:Addr) (H:Hp) (e:Ending) (w':World):Prop:=(dv H=false→e = .returned (.tuple #[FV,Jd (-1) pW]))∧(dv H=true→∃a5 c5,e = .returned (.tuple #[hov H (.slice a1 H.row.length c1) (.slice a2 H.roots.length c2) (.slice a3 H.a7.length c3) (.slice a4 H.seen.length c4) (2*H.half) (.slice a5 (aG a1 H).length c5),.nilIface])∧fg w' w.heap.size (.slice a5 (aG a1 H).length c5) (aG a1 H))∧Below w.heap.size w w'
theorem Cr {fn:Func} {tmps:Array Value} {X:World} {j i b:Nat} {H:Hp} {a1 a2 a3 a4 a5:Option Addr} {n1 c1 n2 c2 n3 c3 n4 c4 n5 c5:Nat} {up:Int} {bb:Value} (hbb:bb = .nilIface∨∃n p,bb=Jd n p) (hf:fn.results=#[.cell j 41,.tmp i]) (h2:tmps[j]? = some (.pointer (some ⟨b,0,none⟩))) (hi:tmps[i]? = some bb) (hX:X.heap[b]? = some (hob H (.slice a1 n1 c1) (.slice a2 n2 c2) (.slice a3 n3 c3) (.slice a4 n4 c4) up (.slice a5 n5 c5))) :
    (results fn tmps).run Tryz.prog X = .ok (.tuple #[hov H (.slice a1 n1 c1) (.slice a2 n2 c2) (.slice a3 n3 c3) (.slice a4 n4 c4) up (.slice a5 n5 c5),bb]) X:=by
 obtain⟨⟨k0,k1,k2,k3,k4,k5,k6,k7,k8,k9,k10⟩,_⟩:=aY hX;clear hX;rcases hbb with rfl|⟨n,p,rfl⟩
 ·simp[results,hf,h2,hi,go_sem,k0,k1,k2,k3,k4,k5,k6,k7,k8,k9,k10]
 ·simp[results,hf,h2,hi,go_sem,k0,k1,k2,k3,k4,k5,k6,k7,k8,k9,k10]
theorem Cs {w:World} {base base' size n:Nat} {t:TypeId} {v:Value} {xs:List Value} (h:w.ownsRow base t size v n xs) (hb:base'≤base):w.ownsRow base' t size v n xs:=by
 obtain⟨h1,h2|⟨g,c,cur,e,hg,r⟩⟩:=h
 ·exact⟨h1,.inl h2⟩
 ·exact⟨h1,.inr ⟨g,c,cur,e,Nat.le_trans hb hg,r⟩⟩
theorem Ev {W:World} {b:Nat} {H0:Hp} {r0 o0 m0 q0:Value} {up0:Int} {v0:Value} (h:W.heap[b]? = some (hob H0 r0 o0 m0 q0 up0 v0)) (H:Hp) (vr vo vm vs:Value) (up:Int) (v:Value):(BI W b H vr vo vm vs up v).drew.heap[b]? = some (hob H vr vo vm vs up v):=((Below.refl _ (BI W b H vr vo vm vs up v)).drew.block b (lt_of_block (gz h H vr vo vm vs up v))).trans (gz h H vr vo vm vs up v)
set_option maxHeartbeats 16000000 in
theorem qC {w:World} {a1 a2 a3 a4:Option Addr} {c1 c2 c3 c4:Nat} {H:Hp} (h:eW w (.slice a1 H.row.length c1) (.slice a2 H.roots.length c2) (.slice a3 H.a7.length c3) (.slice a4 H.seen.length c4) H) (hs:bI H≤1048576) (hI:HpI H) {pW:Addr} (hG:Gp w pW) :
    Calls Tryz.prog 19 #[hpv H (.slice a1 H.row.length c1) (.slice a2 H.roots.length c2) (.slice a3 H.a7.length c3) (.slice a4 H.seen.length c4)] w (Je w a1 a2 a3 a4 c1 c2 c3 c4 pW H):=by
 have B0:Below w.heap.size w (w.alloc (hpb H (.slice a1 H.row.length c1) (.slice a2 H.roots.length c2) (.slice a3 H.a7.length c3) (.slice a4 H.seen.length c4))):=(Below.refl _ _).alloc (Nat.le_refl _) _;have B1:=B0.alloc B0.size (hob hz s0 s0 s0 s0 0 s0)
 have HALL:Hid (∃X,X=(w.alloc (hpb H (.slice a1 H.row.length c1) (.slice a2 H.roots.length c2) (.slice a3 H.a7.length c3) (.slice a4 H.seen.length c4))).alloc (hob hz s0 s0 s0 s0 0 s0)∧eJ X w.heap.size 26 (.int .i64 H.half) (.int .i64 H.old) (.slice a1 H.row.length c1) (.int .i64 H.side) (.int .i64 H.top) (.slice a2 H.roots.length c2) (.slice a3 H.a7.length c3) (.slice a4 H.seen.length c4) (.int .i64 H.seed)∧X.heap[w.heap.size+1]? = some (hob hz s0 s0 s0 s0 0 s0)∧Below w.heap.size w X∧eW X (.slice a1 H.row.length c1) (.slice a2 H.roots.length c2) (.slice a3 H.a7.length c3) (.slice a4 H.seen.length c4) H):=
  ⟨_,rfl,heap_alloc2_old _ _ _,heap_alloc2_new _ _ _,B1,aD h B1⟩
 have HG:Hid _:=hG;have HS:Hid _:=hs;have HII:Hid _:=hI;clear B0 B1 h hs hI hG;go_enter Tryz.func19,Tryz.ntmps19;go_upto_region 1 with fail
 obtain⟨X,hX,T0,T1,BX,AX⟩:=HALL.out;rw[←hX];clear hX HALL;obtain⟨⟨z0,z1,z2,z3,z4⟩,⟨z5,z6,z7,z8⟩,_⟩:=ag T0;have OX:=Ax AX HS.out HII.out;unfold GD at OX;have HT1:Hid _:=T1;have HBX:Hid _:=BX;clear T0 T1 BX AX;cases hh:dv H
 ·have R0:=OX.mono (fun e w' (g:_∧_∧_)=>(⟨g.1 hh,g.2.2⟩:e = .returned (.tuple #[FV,.bool false])∧Below _ _ w'));have HHH:Hid _:=hh;clear OX hh;go_upto_region 2 with (go_at_call 31;refine R0.mono ?_;clear R0 z0 z1 z2 z3 z4 z5 z6 z7 z8;rintro e w1 ⟨rfl,b1⟩;have HB1:Hid _:=b1;clear b1)
  have HB2:Hid _:=HB1.out.alloc HB1.out.size (hob hz s0 s0 s0 s0 0 s0);generalize w1.alloc (hob hz s0 s0 s0 s0 0 s0)=Y at *;have HBY:Hid _:=HBX.out.trans (HB2.out.mono HBX.out.size);have q1:=(HB2.out.block _ (lt_of_block HT1.out)).trans HT1.out;have HQ1:Hid _:=q1;obtain⟨⟨r0,r1,r2,r3,r4,r5,r6,r7,r8,r9,r10⟩,f0,f1,f2,f3,f4,f5,f6,f7,f8,f9,f10⟩:=aY q1;have gw:=(HG.out.below HBY.out).wrong;have hgl:0<w.heap.size:=World.block_lt_of_cell? _ _ HG.out.wrong;have hne:¬0=w.heap.size+1:=by omega
  clear q1 HB1 HB2 HBX HT1;go_upto_region 3 with fail
  go_region_law (fail);all_goals go_wp2_with fail
  all_goals exact bodyPost_ret (Cr (.inr ⟨_,_,rfl⟩) rfl rfl rfl (Ev HQ1.out hz s0 s0 s0 s0 0 s0)) rfl ⟨fun _=>rfl,fun e=>absurd (HHH.out.symm.trans e) (by decide),(dS HBY.out (Nat.le_succ _) hz s0 s0 s0 s0 0 s0).drew⟩
 ·have R0:=OX.mono (fun e w' (g:_∧_∧_)=>(⟨g.2.1 hh,g.2.2⟩:(∃a5 c5,e = .returned (.tuple #[hov H (.slice a1 H.row.length c1) (.slice a2 H.roots.length c2) (.slice a3 H.a7.length c3) (.slice a4 H.seen.length c4) (2*H.half) (.slice a5 (aG a1 H).length c5),.bool true])∧fg w' _ (.slice a5 (aG a1 H).length c5) (aG a1 H))∧Below _ _ w'));have HHH:Hid _:=hh;clear OX hh;go_upto_region 2 with (go_at_call 31;refine R0.mono ?_;clear R0 z0 z1 z2 z3 z4 z5 z6 z7 z8;rintro e w1 ⟨⟨a5,c5,rfl,O1⟩,b1⟩;have HB1:Hid _:=b1;have HO1:Hid _:=O1;clear b1 O1)
  have B2:Below w1.heap.size w1 (w1.alloc (hob H (.slice a1 H.row.length c1) (.slice a2 H.roots.length c2) (.slice a3 H.a7.length c3) (.slice a4 H.seen.length c4) (2*H.half) (.slice a5 (aG a1 H).length c5))):=(Below.refl _ _).alloc (Nat.le_refl _) _;have Q2:=heap_alloc_new w1 (hob H (.slice a1 H.row.length c1) (.slice a2 H.roots.length c2) (.slice a3 H.a7.length c3) (.slice a4 H.seen.length c4) (2*H.half) (.slice a5 (aG a1 H).length c5));have HB2:Hid _:=HB1.out.trans (B2.mono HB1.out.size);have HOP:Hid _:=cg HO1.out B2;have hX1:=lt_of_block HT1.out;obtain⟨⟨m0,m1,m2,m3,m4,m5,m6,m7,m8,m9,m10⟩,_⟩:=aY Q2;clear B2 Q2 HO1;generalize w1.alloc (hob H (.slice a1 H.row.length c1) (.slice a2 H.roots.length c2) (.slice a3 H.a7.length c3) (.slice a4 H.seen.length c4) (2*H.half) (.slice a5 (aG a1 H).length c5))=Y at *;have HBY:Hid _:=HBX.out.trans (HB2.out.mono HBX.out.size);have q1:=(HB2.out.block _ (lt_of_block HT1.out)).trans HT1.out;have HQ1:Hid _:=q1;obtain⟨⟨r0,r1,r2,r3,r4,r5,r6,r7,r8,r9,r10⟩,f0,f1,f2,f3,f4,f5,f6,f7,f8,f9,f10⟩:=aY q1;clear q1 HB1 HB2 HT1;go_wp2_with fail;refine bodyPost_ret (Cr (.inl rfl) rfl rfl rfl (gz HQ1.out H (.slice a1 H.row.length c1) (.slice a2 H.roots.length c2) (.slice a3 H.a7.length c3) (.slice a4 H.seen.length c4) (2*H.half) (.slice a5 (aG a1 H).length c5))) rfl ⟨fun e=>absurd (HHH.out.symm.trans e) (by decide),fun _=>⟨a5,c5,rfl,?_⟩,dS HBY.out (by omega) H (.slice a1 H.row.length c1) (.slice a2 H.roots.length c2) (.slice a3 H.a7.length c3) (.slice a4 H.seen.length c4) (2*H.half) (.slice a5 (aG a1 H).length c5)⟩;have hsz:=HBX.out.size
  exact Cs (aE HOP.out (BJ _ _ _ _ _ _ _ _ _) (fun k hk hc=>by
   have:=(aM HOP.out k hk).1
   have e:k=w.heap.size+1:=by simpa using hc
   omega)) hsz
end Go.Proofs.YtocidankimefpaaGreatDoor.hp
namespace Go.Proofs.YtocidankimefpaaGreatDoor.hp
open Go.RowKit rows heads words walks Go.Maps
abbrev shb (up:Int) (v:Value) (mb:Nat) (vm:Value):Obj:=.cells #[.int .i64 up,v,.map (some mb),vm] 91
theorem fu {W:World} {b:Nat} {up:Int} {v vm:Value} {mb:Nat} (h:W.heap[b]? = some (shb up v mb vm)):(W.cell? ⟨b,0,none⟩=some (.int .i64 up)∧W.cell? ⟨b,1,none⟩=some v∧W.cell? ⟨b,2,none⟩=some (.map (some mb))∧W.cell? ⟨b,3,none⟩=some vm)∧∀k,W.frozen? ⟨b,k,none⟩=false:=by
 refine⟨⟨?_,?_,?_,?_⟩,fun k => ?_⟩<;>simp[World.cell?, World.frozen?, h]
theorem Ct {W:World} {b:Nat} {up:Int} {v vm:Value} {mb:Nat} (h:W.heap[b]? = some (shb up v mb vm)) (u:Value):(W.setCell ⟨b,3,none⟩ u).heap[b]? = some (shb up v mb u):=(aq h 3 u).trans (by simp)
def idM (M:List Int) (p:Int):Int:=if p ∈ M then (pj M p:Int)+1 else 0
theorem Ew {M:List Int} {p:Int} (h:p ∉ M):pj (M++[p]) p=M.length:=by
 unfold pj
 rw[List.findIdx_append,if_neg (by
  rw[List.findIdx_lt_length];rintro⟨x,hx,e⟩;have:x=p:=by simpa using e
  exact h (this▸hx))]
 simp[List.findIdx_cons]
theorem Cu {M:List Int} {p:Int} (h:p ∉ M):idM (M++[p]) p=(M.length:Int)+1:=by
 unfold idM;rw[if_pos (by simp),Ew h]
theorem Gs {M:List Int} {p q:Int} (h:q≠p):idM (M++[p]) q=idM M q:=by
 unfold idM;by_cases hq:q ∈ M
 ·rw[if_pos (List.mem_append_left _ hq),if_pos hq,zn hq]
 ·rw[if_neg (by simp[hq,h]),if_neg hq]
structure IdM (D:DataW Unit) (M:List Int):Prop where
 tidy:Tidy D
 val:∀p:Int,D.atKey (kI p) (nD 0)=nD (idM M p)
theorem IdM.start:IdM (.map []) []:=⟨Maps.tidy_empty,fun a=>rfl⟩
theorem IdM.put {D:DataW Unit} {M:List Int} (h:IdM D M) {p:Int} (hn:p ∉ M):IdM (D.put (kI p) (nD ((M.length:Int)+1))) (M++[p]):=by
 refine⟨h.tidy.put (sF _) _,fun q => ?_⟩
 by_cases e:q=p
 ·subst e;rw[Cu hn];exact Maps.atKey_put_same h.tidy.isMap (sF _) _ _
 ·rw[Gs e,Maps.atKey_put_other (Ck e)];exact h.val q
def shF (C mb:Nat) (vm:Value) (j:Nat):Prop:=j=C∨j=mb∨j ∈ blk vm
structure Sh (W0:World) (base C mb:Nat) (up:Int) (v:Value) (W:World) (es:List Pd) (vm:Value):Prop where
 blk':W.heap[C]? = some (shb up v mb vm)
 own:fg W base vm es
 sl:ck es
 map:∃D,W.ownsMap Tryz.prog 2 (plainElem Tryz.prog 2) mb es.length D∧IdM D (es.map Pd.pl)
 low:Below W0.heap.size W0 W
 bc:W0.heap.size≤C
 bm:W0.heap.size≤mb
 bz:base≤W.heap.size
 nc:C<base
 nm:mb<base
 ne:C≠mb
 num:∀d ∈ es,I64 d.pl
theorem Sh.below {W0:World} {base C mb:Nat} {up:Int} {v:Value} {W V:World} {es:List Pd} {vm:Value} (h:Sh W0 base C mb up v W es vm) (hb:Below W.heap.size W V):Sh W0 base C mb up v V es vm:=by
 obtain⟨D,hm,hD⟩:=h.map;exact⟨(hb.block _ (lt_of_block h.blk')).trans h.blk',cg h.own hb,h.sl,⟨D,jM hm hb,hD⟩,h.low.trans (hb.mono h.low.size),h.bc,h.bm,Nat.le_trans h.bz hb.size,h.nc,h.nm,h.ne,h.num⟩
theorem Sh.look {W0:World} {base C mb:Nat} {up:Int} {v:Value} {W:World} {es:List Pd} {vm:Value} (h:Sh W0 base C mb up v W es vm) {p:Int} (hp:I64 p):(Instr.lookup 89 (.map (some mb)) (.int .i64 p) false).run Tryz.prog W = .ok (.int .i64 (idM (es.map Pd.pl) p)) W:=by
 obtain⟨D,hm,hD⟩:=h.map;have HKY:keyOf Tryz.prog 2 (.int .i64 p)=some (kI p):=keyOf_int_mk Tryz.underlying2 (WalkArith.wf_i64 hp);obtain⟨c,hrun,hat,_⟩:=World.ownsMap.lookup_int hm IQ Tryz.underlying89 Tryz.underlying2 (by kernel_rfl) HKY;have e:c=idM (es.map Pd.pl) p:=Cl (hat.symm.trans (hD.val p));rw[e]at hrun;exact hrun
structure SR (W0:World) (base C mb:Nat) (up:Int) (v:Value) (W:World) (vm:Value) (W':World) (es':List Pd) (vm':Value):Prop where
 sh:Sh W0 base C mb up v W' es' vm'
 ch:ChP (shF C mb vm) W W'
 nw:∀j ∈ blk vm',j ∈ blk vm∨W.heap.size≤j
theorem SR.refl {W0:World} {base C mb:Nat} {up:Int} {v:Value} {W:World} {es:List Pd} {vm:Value} (h:Sh W0 base C mb up v W es vm):SR W0 base C mb up v W vm W es vm:=⟨h,ChP.refl _ _,fun j hj => .inl hj⟩
theorem SR.ahead {W0:World} {base C mb:Nat} {up:Int} {v:Value} {W V W':World} {es':List Pd} {vm vm':Value} (h:SR W0 base C mb up v V vm W' es' vm') (hb:Below W.heap.size W V):SR W0 base C mb up v W vm W' es' vm':=
 ⟨h.sh,(vS hb).trans h.ch (fun j hj => .inl hj),fun j hj=>(h.nw j hj).imp id (fun e=>Nat.le_trans hb.size e)⟩
theorem SR.below {W0:World} {base C mb:Nat} {up:Int} {v:Value} {W W' V:World} {es':List Pd} {vm vm':Value} (h:SR W0 base C mb up v W vm W' es' vm') (hb:Below W'.heap.size W' V):SR W0 base C mb up v W vm V es' vm':=
 ⟨h.sh.below hb,h.ch.trans (vS hb) (fun j hj => .inl hj),h.nw⟩
theorem SR.trans {W0:World} {base C mb:Nat} {up:Int} {v:Value} {W W1 W2:World} {es1 es2:List Pd} {vm vm1 vm2:Value} (h:SR W0 base C mb up v W vm W1 es1 vm1) (k:SR W0 base C mb up v W1 vm1 W2 es2 vm2):SR W0 base C mb up v W vm W2 es2 vm2:=
 ⟨k.sh,h.ch.trans k.ch (fun j hj=>by
  rcases hj with e|e|e
  ·exact .inl (.inl e)
  ·exact .inl (.inr (.inl e))
  ·exact (h.nw j e).imp (fun e => .inr (.inr e)) id),fun j hj=>(k.nw j hj).elim (h.nw j) (fun e => .inr (Nat.le_trans h.ch.size e))⟩
theorem Gt {W:World} {b:Nat} {d:Pd} (h:W.heap[b]? = some (pdb d)):eF W (.slice (some ⟨b,0,none⟩) 1 1) [d]:=by
 obtain⟨⟨k0,k1,k2,k3,k4,k5,k6,k7⟩,_⟩:=bk h;refine⟨_,1,rfl,Nat.le_refl _,by decide,fun h=>(by cases h),fun _=>⟨b,0,rfl,lt_of_block h,fun i hi => ?_⟩⟩
 have e:i=0:=by simpa using hi
 subst e;exact⟨k0,k1,k2,k3,k4,k5,k6,k7⟩
theorem Cv {w:World} {base:Nat} {v:Value} {es:List Pd} {vb:Nat} {e:Pd} (hown:fg w base v es) (hvb:w.heap[vb]? = some (pdb e)) (hsl:ck [e]) (hl:es.length≤1000000) (hbase:base≤w.heap.size) (ty:TypeId) :
    ∃va vn vc w',(Builtin.append_ #[37,37] ty #[v,.slice (some ⟨vb,0,none⟩) 1 1]).run Tryz.prog w = .ok (.slice va vn vc) w'∧fg w' base (.slice va vn vc) (es++[e])∧Ch (blk v) w w'∧∀k ∈ blk (.slice va vn vc),k ∈ blk v∨w.heap.size≤k:=by
 obtain⟨i0,hi,hz0,hz1,hz2⟩:=info_parts infoP;obtain⟨v',w',hr,h2,h3,_,h5⟩:=run_append_own_at (P:=Tryz.prog) w base 37 ty 58 i0 (pdv pdD) 8 72 Tryz.underlying37 hi hz0 hz1 hz2 rfl (by decide) v es.length (cellsP es) hown ⟨vb,0,none⟩ 1 1 (cellsP [e]) rfl (zh (Gt hvb)) (kQ hsl) (by unfold maxLen;omega) (by omega) hbase
 have O':fg w' base v' (es++[e]):=by
  show World.ownsRow _ _ _ _ _ _ _
  rw[List.length_append,fF];exact h2
 obtain⟨va,vc,rfl⟩:=aQ (bx O');refine⟨va,_,vc,w',hr,O',cJ h3,fun k hk => ?_⟩
 unfold blk at hk ⊢;rcases h5 with e|e
 ·rw[e]at hk;exact .inl hk
 ·rw[e]at hk;simp at hk;exact .inr (by omega)
theorem Ac {ops:Array Oper} {o:Oper} {a:Act} {w:World} {K:Act→World→Prop} {Q:Exit→Act→World→Prop} {E:Prop} (hgd:o.guard=none) (s x:Operand)
    (ho:o.op = .call { callee:=.builtin .append,args:=#[s,x],argTypes:=#[37,37] })
    (base:Nat) (v:Value) (es:List Pd) (hs:a.eval s=v) (hown:fg w base v es) (vb:Nat) (e:Pd) (hx:a.eval x = .slice (some ⟨vb,0,none⟩) 1 1) (hvb:w.heap[vb]? = some (pdb e)) (hsl:ck [e]) (hl:es.length≤1000000) (hbase:base≤w.heap.size)
    (h:∀va vn vc w',fg w' base (.slice va vn vc) (es++[e])→Ch (blk v) w w'→(∀k ∈ blk (.slice va vn vc),k ∈ blk v∨w.heap.size≤k)→K (a.put o.dst (.slice va vn vc)) w') :
    if Region.wanted o (yielded ops a.tmps)=true then Oper.wp Tryz.prog o a w K Q else E:=by
 have hw:Region.wanted o (yielded ops a.tmps)=true:=by simp[Region.wanted,hgd]
 rw[if_pos hw];obtain⟨va,vn,vc,w',hr,h1,h2,h3⟩:=Cv hown hvb hsl hl hbase o.type;unfold Oper.wp;simp[execOp,ho,resolve,invoke,builtin,hs,hx,hr,Result.andThen];exact h va vn vc w' h1 h2 h3
theorem Sh.more {W0:World} {base C mb:Nat} {up:Int} {v:Value} {W X w6:World} {es:List Pd} {vm:Value} (h:Sh W0 base C mb up v W es vm) {d:Pd} (hd:I64 d.pl) (hsl:ck [d]) (hn:d.pl ∉ es.map Pd.pl) (hl:es.length≤1000) (hX:Below W.heap.size W X) {va:Option Addr} {vn vc:Nat}
    (h1:fg w6 base (.slice va vn vc) (es++[d])) (h2:Ch (blk vm) X w6) (h3:∀k ∈ blk (.slice va vn vc),k ∈ blk vm∨X.heap.size≤k) :
    w6.heap[C]? = some (shb up v mb vm)∧(∀j,W.heap.size≤j→j<X.heap.size→w6.heap[j]? = X.heap[j]?)∧∃W8,(Instr.mapUpdate 89 (.map (some mb)) (.int .i64 d.pl) (.int .i64 ((es.length:Int)+1))).run Tryz.prog (w6.setCell ⟨C,3,none⟩ (.slice va vn vc)).drew = .ok () W8∧SR W0 base C mb up v W vm W8 (es++[d]) (.slice va vn vc)∧(∀j,W.heap.size≤j→j<X.heap.size→W8.heap[j]? = X.heap[j]?):=by
 have hlt:=lt_of_block h.blk';have ob:=aM h.own;have hnc:=h.nc;have hnm:=h.nm;have hbz:=h.bz;have hXs:=hX.size;obtain⟨D,hm,hD⟩:=h.map;have nC:C ∉ blk vm:=fun hk=>by have:=(ob C hk).1;omega
 have nM:mb ∉ blk vm:=fun hk=>by have:=(ob mb hk).1;omega
 have hM:=hm.lt;have b6:w6.heap[C]? = some (shb up v mb vm):=(h2.block C (by omega) nC).trans ((hX.block C hlt).trans h.blk');have k6:∀j,W.heap.size≤j→j<X.heap.size→w6.heap[j]? = X.heap[j]? := fun j hj hj2=>h2.block j hj2 (fun hk=>by have:=(ob j hk).2;omega)
 have m6:w6.ownsMap Tryz.prog 2 (plainElem Tryz.prog 2) mb es.length D:=World.ownsMap.kept (row:=vm.ownBlock) (jM hm hX) ⟨h2.os,h2.tape,h2.output,h2.size,fun k hk hn=>h2.block k hk (fun hc=>hn (by unfold blk at hc;exact (Option.mem_toList.1 hc).symm))⟩ (fun e=>nM (by unfold blk;rw[←e];simp));have m7:(w6.setCell ⟨C,3,none⟩ (.slice va vn vc)).drew.ownsMap Tryz.prog 2 (plainElem Tryz.prog 2) mb es.length D:=World.ownsMap.drew (World.ownsMap.setCell m6 (a:=⟨C,3,none⟩) (fun e=>h.ne e.symm) _);have HKY:keyOf Tryz.prog 2 (.int .i64 d.pl)=some (kI d.pl):=keyOf_int_mk Tryz.underlying2 (WalkArith.wf_i64 hd);obtain⟨W8,hrun,m8,g8⟩:=World.ownsMap.update m7 IQ Tryz.underlying89 (by unfold maxLen;omega) HKY (plainElem_int Tryz.underlying2 (WalkArith.wf_i64 (show I64 ((es.length:Int)+1) from ⟨by omega,by omega⟩)));have e7:(w6.setCell ⟨C,3,none⟩ (.slice va vn vc)).drew.heap.size=w6.heap.size:=by simp[World.drew,World.setCell]
 have hb7:∀j,j<w6.heap.size→j≠mb→W8.heap[j]? = (w6.setCell ⟨C,3,none⟩ (.slice va vn vc)).heap[j]? := fun j hj hne=>g8.block j (by rw[e7];exact hj) (fun e=>hne (by injection e))
 have hs6:=h2.size;have o6:=aM h1;have c7:∀j,j<w6.heap.size→j≠mb→j≠C→W8.heap[j]? = w6.heap[j]? := fun j hj h1 h2=>(hb7 j hj h1).trans (Below.heap_setCell _ _ _ j h2)
 have hs8:=g8.size;rw[e7]at hs8;have ch8:ChP (shF C mb vm) W W8:=⟨g8.os.trans (h2.os.trans hX.os),g8.tape.trans (h2.tape.trans hX.tape),g8.output.trans (h2.output.trans hX.output),by omega,fun j hj hn=>(c7 j (by omega) (fun e=>hn (.inr (.inl e))) (fun e=>hn (.inl e))).trans ((h2.block j (by omega) (fun e=>hn (.inr (.inr e)))).trans (hX.block j hj))⟩;refine⟨b6,k6,W8,hrun,⟨⟨(hb7 C (by omega) h.ne).trans (Ct b6 _),?_,?_,⟨D.put (kI d.pl) (nD ((es.length:Int)+1)),?_,?_⟩,?_,h.bc,h.bm,by omega,h.nc,h.nm,h.ne,?_⟩,ch8,fun j hj=>(h3 j hj).imp id (fun e=>by omega)⟩,fun j hj hj2=>(c7 j (by omega) (fun e=>by omega) (fun e=>by omega)).trans (k6 j hj hj2)⟩
 ·exact aE (S:=[C,mb]) h1 ⟨g8.os,g8.tape,g8.output,by omega,fun j hj hn=>c7 j hj (fun e=>hn (by simp[e])) (fun e=>hn (by simp[e]))⟩ (fun j hj hc=>by
    have:=(o6 j hj).1
    have e:j=C∨j=mb:=by simpa using hc
    omega)
 ·intro x hx;rcases List.mem_append.1 hx with hx|hx
  ·exact h.sl x hx
  ·exact hsl x hx
 ·rw[List.length_append];exact m8
 ·rw[List.map_append,show ((es.length:Int)+1)=((es.map Pd.pl).length:Int)+1 by rw[List.length_map]];exact hD.put hn
 ·exact h.low.trans (D7 ch8 h.low.size (fun j hj=>by
    rcases hj with e|e|e
    ·rw[e];exact h.bc
    ·rw[e];exact h.bm
    ·have:=(ob j e).1;have:=h.bc;omega))
 ·intro x hx;rcases List.mem_append.1 hx with hx|hx
  ·exact h.num x hx
  ·have e:x=d:=by simpa using hx
   rw[e];exact hd
end Go.Proofs.YtocidankimefpaaGreatDoor.hp
namespace Go.Proofs.YtocidankimefpaaGreatDoor.hp
open Go.RowKit rows heads words walks
end Go.Proofs.YtocidankimefpaaGreatDoor.hp
namespace Go.Proofs.YtocidankimefpaaGreatDoor.hp
open Go.RowKit rows heads words walks region
end Go.Proofs.YtocidankimefpaaGreatDoor.hp
