/- Chapter 14 as the specification has it:  -/
import Derived.Test.YtocidankimefpaaGreatDoorGrvS
import Derived.Test.YtocidankimefpaaGreatDoorShowI7
set_option linter.unusedSimpArgs false
set_option linter.unusedVariables false
set_option maxRecDepth 100000
namespace Go.Proofs.YtocidankimefpaaGreatDoor.hp
open Go.RowKit rows heads words walks
set_option maxHeartbeats 16000000 in
theorem vR {w:World} {vr vo vm vs:Value} {H:Hp} {Rg:gr.Gr} (hM:dv H=true→gr.fe (grS H (bN H)) Rg) (h:eW w vr vo vm vs H) (hs:bI H≤1048576) :
    Calls Tryz.prog 6 #[hpv H vr vo vm vs] w fun e w'=>∃(o' r' m' s':Value),e = .returned (hpv (lH H Rg) o' r' m' s')∧rR w' w.heap.size o' r' m' s' (lH H Rg)∧Below w.heap.size w w':=by
 obtain⟨a1,c1,a2,c2,a3,c3,a4,c4,e1,e2,e3,e4⟩:=aK h;subst e1 e2 e3 e4;have B0:Below w.heap.size w (w.alloc (hpb H (.slice a1 H.row.length c1) (.slice a2 H.roots.length c2) (.slice a3 H.a7.length c3) (.slice a4 H.seen.length c4))):=(Below.refl _ _).alloc (Nat.le_refl _) _;have B1:=B0.alloc B0.size (hpb ⟨0,0,[],0,0,[],[],[],0⟩ (.slice none 0 0) (.slice none 0 0) (.slice none 0 0) (.slice none 0 0));have T0:=de w H (.slice a1 H.row.length c1) (.slice a2 H.roots.length c2) (.slice a3 H.a7.length c3) (.slice a4 H.seen.length c4);have T0':=ai T0 ((Below.refl _ _).alloc (Nat.le_refl _) (hpb ⟨0,0,[],0,0,[],[],[],0⟩ (.slice none 0 0) (.slice none 0 0) (.slice none 0 0) (.slice none 0 0)));have T1:eJ ((w.alloc (hpb H (.slice a1 H.row.length c1) (.slice a2 H.roots.length c2) (.slice a3 H.a7.length c3) (.slice a4 H.seen.length c4))).alloc (hpb ⟨0,0,[],0,0,[],[],[],0⟩ (.slice none 0 0) (.slice none 0 0) (.slice none 0 0) (.slice none 0 0))) (w.heap.size+1) 26 (.int .i64 0) (.int .i64 0) (.slice none 0 0) (.int .i64 0) (.int .i64 0) (.slice none 0 0) (.slice none 0 0) (.slice none 0 0) (.int .i64 0):=(congrArg (fun k=>((w.alloc (hpb H (.slice a1 H.row.length c1) (.slice a2 H.roots.length c2) (.slice a3 H.a7.length c3) (.slice a4 H.seen.length c4))).alloc (hpb ⟨0,0,[],0,0,[],[],[],0⟩ (.slice none 0 0) (.slice none 0 0) (.slice none 0 0) (.slice none 0 0))).heap[k]?) (show w.heap.size+1=(w.alloc (hpb H (.slice a1 H.row.length c1) (.slice a2 H.roots.length c2) (.slice a3 H.a7.length c3) (.slice a4 H.seen.length c4))).heap.size by simp)).trans (heap_alloc_new _ _);have sX:w.heap.size+2=((w.alloc (hpb H (.slice a1 H.row.length c1) (.slice a2 H.roots.length c2) (.slice a3 H.a7.length c3) (.slice a4 H.seen.length c4))).alloc (hpb ⟨0,0,[],0,0,[],[],[],0⟩ (.slice none 0 0) (.slice none 0 0) (.slice none 0 0) (.slice none 0 0))).heap.size:=by simp
 have HHX:=aD h B1;have HB1:Hid _:=B1;have HT0:Hid _:=T0';have HT1:Hid _:=T1;have HSZ:Hid _:=hs;obtain⟨R,hR⟩:∃R,lH H Rg=R:=⟨_,rfl⟩
 rw[hR];have HR:Hid _:=hR;clear h B0 B1 T0 T0' T1 hR;go_enter Tryz.func6,Tryz.ntmps6;go_upto_region 1 with fail
 generalize hX:(w.alloc _).alloc _=X at *;have HsX:Hid _:=sX;clear hX sX;have HK:=yg HHX hs;have HH:Hid _:=HHX;clear HHX hs;obtain⟨⟨z0,z1,z2,z3,z4⟩,⟨z5,z6,z7,z8⟩,_⟩:=ag HT0.out;cases dr:dv H
 ·rw[dr]at HK;have e:lH H Rg=hp0:=by unfold lH;rw[if_neg (by rw[dr];decide)]
  obtain rfl:hp0=R:=e.symm.trans HR.out;clear dr e HR hM;go_upto_region 2 with (go_at_call 15;refine HK.mono ?_;clear HK z0 z1 z2 z3 z4 z5 z6 z7 z8;rintro e w2 ⟨rfl,b2⟩;have HBE:Hid _:=HB1.out.trans (b2.mono HB1.out.size);have HN1:Hid _:=ai HT1.out b2;clear b2)
  obtain⟨⟨y0,y1,y2,y3,y4⟩,⟨y5,y6,y7,y8⟩,yf⟩:=ag HN1.out;have f0:=yf 0;have f1:=yf 1;have f2:=yf 2;have f3:=yf 3;have f4:=yf 4;have f5:=yf 5;have f6:=yf 6;have f7:=yf 7;have f8:=yf 8;clear yf;go_wp2_with fail;exact bodyPost_ret (gK rfl rfl (fB HN1.out _ _ _ _ _ _ _ _ _)) rfl ⟨_,_,_,_,rfl,Js _ _,dF HBE.out (by omega) _ _ _ _ _ _ _ _ _⟩
 ·rw[dr]at HK;obtain⟨ps,RR⟩:=EU (kS dr).1;have e:lH H Rg=xU H Rg:=by unfold lH;rw[if_pos dr]
  obtain rfl:xU H Rg=R:=e.symm.trans HR.out;have HML:Hid _:=hM dr;have HRR:Hid _:=RR;have HCP:Hid (∀V,eW V (.slice a1 H.row.length c1) (.slice a2 H.roots.length c2) (.slice a3 H.a7.length c3) (.slice a4 H.seen.length c4) H→_):=fun V hV=>Aj hV HSZ.out
  clear dr e RR HR hM
  go_upto_region 4 with (first
   |(go_at_call 15;refine HK.mono ?_;clear HK z0 z1 z2 z3 z4 z5 z6 z7 z8;rintro e w2 ⟨rfl,b2⟩;have HB2:Hid _:=HB1.out.trans (b2.mono HB1.out.size);have HX2:Hid _:=b2.size;obtain⟨⟨z0,z1,z2,z3,z4⟩,⟨z5,z6,z7,z8⟩,_⟩:=ag (ai HT0.out b2);have HN1:Hid _:=ai HT1.out b2;have CP:=HCP.out w2 (aD HH.out b2);clear b2 HCP)
   |(go_at_call 16;refine CP.mono ?_;clear CP z0 z1 z2 z3 z4 z5 z6 z7 z8;rintro e w3 ⟨g1,g2,g3,k1,k2,k3,s',rfl,O3,b3⟩;have HO3:Hid _:=O3;have HB3:Hid _:=HB2.out.trans (b3.mono HB2.out.size);have HX3:Hid _:=b3.size;have HN3:Hid _:=ai HN1.out b3;obtain⟨sa,sn,sc,rfl⟩:=bl (aj O3.1.2.2.2);clear O3 b3))
  have SN:=Fz HO3.out;have BV:Below w3.heap.size w3 (w3.alloc (hpb H (.slice (some ⟨g1,0,none⟩) H.row.length k1) (.slice (some ⟨g2,0,none⟩) H.roots.length k2) (.slice (some ⟨g3,0,none⟩) H.a7.length k3) (.slice sa sn sc))):=(Below.refl _ _).alloc (Nat.le_refl _) _;have ST:=tR HRR.out HML.out SN.1 SN.2 (Nat.le_trans HX3.out BV.size);have HG:Hid _:=iH HO3.out;have HN4:Hid _:=ai HN3.out BV;have HB4:Hid _:=HB3.out.trans (BV.mono HB3.out.size);have HV4:Hid _:=BV.size;clear SN BV HO3 HN3 HN1;generalize w3.alloc (hpb H (.slice (some ⟨g1,0,none⟩) H.row.length k1) (.slice (some ⟨g2,0,none⟩) H.roots.length k2) (.slice (some ⟨g3,0,none⟩) H.a7.length k3) (.slice sa sn sc))=V at *;have q1:=(HG.out g1 (dV.1 _ (by rw[cN];simp))).1;have q2:=(HG.out g2 (dV.2.1 _ (by rw[cN];simp))).1;have q3:=(HG.out g3 (dV.2.2.1 _ (by rw[cN];simp))).1;have q4:=HX3.out;have q5:=HX2.out;have q6:=HsX.out
  have HLE:Hid (∀k ∈ [w3.heap.size,g1,g2,g3],w.heap.size+2≤k):=by
   intro k hk;simp at hk;omega
  clear q1 q2 q3 q4 q5 q6;go_upto_region 5 with (go_at_call 17;refine ST.mono ?_;clear ST;rintro e w5 ⟨u,rfl,h5,C5⟩;obtain⟨ua,un,uc,rfl⟩:=bl (aj h5.own.1.2.2.1);have HN5:Hid (eJ w5 w3.heap.size 26 (.int .i64 H.half) (.int .i64 H.old) (.slice (some ⟨g1,0,none⟩) H.row.length k1) (.int .i64 H.side) (.int .i64 H.top) (.slice (some ⟨g2,0,none⟩) H.roots.length k2) (.slice ua un uc) (.slice sa sn sc) (.int .i64 H.seed)):=h5.nine;have HO5:Hid _:=h5.own;have HC5:Hid _:=C5;clear h5 C5)
  obtain⟨⟨z0,z1,z2,z3,z4⟩,⟨z5,z6,z7,z8⟩,_⟩:=ag HN5.out;have HN6:Hid _:=cx HN4.out HC5.out (fun hm=>by have:=HLE.out _ hm;omega);obtain⟨⟨y0,y1,y2,y3,y4⟩,⟨y5,y6,y7,y8⟩,yf⟩:=ag HN6.out;have f0:=yf 0;have f1:=yf 1;have f2:=yf 2;have f3:=yf 3;have f4:=yf 4;have f5:=yf 5;have f6:=yf 6;have f7:=yf 7;have f8:=yf 8;clear yf;have HB5:Hid _:=HB4.out.trans (bn HC5.out HB4.out.size (fun k hk=>by have:=HLE.out k hk;omega));have HX4:Hid (w.heap.size+2≤w2.heap.size):=by show _≤_;have:=HX2.out;have:=HsX.out;omega
  go_wp2_with fail;refine bodyPost_ret (gK rfl rfl (fB HN6.out _ _ _ _ _ _ _ _ _)) rfl ⟨_,_,_,_,rfl,?_,dF HB5.out (by omega) _ _ _ _ _ _ _ _ _⟩;have hx4:=HX4.out;have H5:=HO5.out;have on:∀ {v:Value} {xs:List Int},rows.Own w5 w2.heap.size v xs→∀ {W:World},Ch [w.heap.size+1] w5 W→rows.Own W w.heap.size v xs:=fun {v xs} ho {W} hc=>cL (aE ho hc (fun j hj=>by have:=(aM ho j hj).1;simp;omega)) (by omega)
  exact⟨⟨on H5.1.1 (c9 _ _ _ _ _ _ _ _ _),on H5.1.2.1 (c9 _ _ _ _ _ _ _ _ _),on H5.1.2.2.1 (c9 _ _ _ _ _ _ _ _ _),on H5.1.2.2.2 (c9 _ _ _ _ _ _ _ _ _)⟩,H5.2⟩
end Go.Proofs.YtocidankimefpaaGreatDoor.hp
namespace Go.Proofs.YtocidankimefpaaGreatDoor.hp
open Go.RowKit rows heads words walks Go.Maps
def GrX (W:World) (P:Nat) (G:gr.Gr) (vm o r m:Value) (ms:List gr.MO):Prop:=gr.fh W P 50 o r m (.int .i64 G.next) (.int .i64 G.seed)∧gr.ja W P o r m ms G∧P ∉ gr.cj o r m ms∧∀k ∈ gr.cj o r m ms,k ∉ blk vm
structure ShG (W0:World) (C mb:Nat) (up:Int) (v:Value) (ds:List Pd) (P:Nat) (W:World) (es:List Pd) (vm:Value) (G:gr.Gr):Prop where
 sh:Sh W0 (P+1) C mb up v W es vm
 inD:∀d ∈ es,d ∈ ds
 lo:W0.heap.size≤P
 nC:C≠P
 nM:mb≠P
 gr:∃o r m ms,GrX W P G vm o r m ms
theorem ShG.mid {W0:World} {C mb:Nat} {up:Int} {v:Value} {H:Hp} {ds:List Pd} {P:Nat} {W w2:World} {es es2:List Pd} {vm vm2 rv:Value} {G:gr.Gr} {l:List Int} {o r m:Value} {ms:List gr.MO} (h:Sh W0 (P+1) C mb up v W es vm) (hC:C≠P) (hM:mb≠P) (hg:GrX W P G vm o r m ms)
    (hr:RfS W0 (P+1) C mb up v H ds es W vm l w2 rv vm2 es2):GrX w2 P G vm2 o r m ms∧(∀k ∈ gr.cj o r m ms,k ∉ blk rv)∧P ∉ blk rv∧gr.fJ w2 P rv (l.map (cW H (aW H (es.map Pd.pl) l)))∧P ∉ blk vm2:=by
 obtain⟨T,O,N,A⟩:=hg;have hlt:=gr.dz O;have l3:=h.lt.2.2;have lP:=lt_of_block T;have n1:=h.nc;have n2:=h.nm;have hrv:=gr.aM hr.own;have l4:=hr.sr.sh.lt.2.2
 have hS:∀k,P≤k→k ∉ blk vm→k ∉ C :: mb :: blk vm:=fun k hk hn hc=>by
  rcases List.mem_cons.1 hc with e|hc
  ·omega
  ·rcases List.mem_cons.1 hc with e|hc
   ·omega
   ·exact hn hc
 have nP:P ∉ blk vm:=fun hc=>by have:=(l3 _ hc).1;omega
 refine⟨⟨gr.eV T (GY hr.sr.chL) (hS P (Nat.le_refl _) nP),gr.fN O (GY hr.sr.chL) (fun k hk=>hS k (hlt k hk).1 (A k hk)),N,fun k hk hc => ?_⟩,fun k hk hc => ?_,fun hc => ?_,qR hr.own (by omega),fun hc => ?_⟩
 ·rcases hr.sr.nw k hc with e|e
  ·exact A k hk e
  ·have:=(hlt k hk).2;omega
 ·have:=(hlt k hk).2;have:=(hrv k hc).1;omega
 ·have:=(hrv P hc).1;omega
 ·have:=(l4 P hc).1;omega
theorem D5 {W0:World} {C mb:Nat} {up:Int} {v:Value} {P:Nat} {W:World} {es:List Pd} {vm:Value} (h:Sh W0 (P+1) C mb up v W es vm) (hC:C≠P) (hM:mb≠P) (lo:W0.heap.size≤P) (i:Nat) (u:Value):Sh W0 (P+1) C mb up v (W.setCell ⟨P,i,none⟩ u) es vm:=
 h.ch (aH W P i u) (fun k hk=>by
  have e:k=P:=by simpa using hk
  subst e;exact⟨fun e=>hC e.symm,fun e=>hM e.symm,fun hc=>by have:=(h.lt.2.2 _ hc).1;omega,lo⟩)
theorem GrX.roots {W:World} {P:Nat} {G:gr.Gr} {vm o r m rv:Value} {ms:List gr.MO} {xs:List gr.Rf} (h:GrX W P G vm o r m ms) (hd:∀k ∈ gr.cj o r m ms,k ∉ blk rv) (hP:P ∉ blk rv) (ho:gr.fJ W P rv xs) (hv:∀k ∈ blk rv,k ∉ blk vm):GrX (W.setCell ⟨P,1,none⟩ rv) P { G with roots:=xs } vm o rv m ms:=by
 obtain⟨T,O,N,A⟩:=h;have hlt:=gr.dz O;have inO:∀k ∈ gr.blk o++gr.gD ms,k ∈ gr.cj o r m ms:=fun k hk=>by simp only[gr.cj,List.mem_append]at hk ⊢; exact .inl (.inl hk)
 have inM:∀k ∈ gr.blk m,k ∈ gr.cj o r m ms:=fun k hk=>by simp only[gr.cj,List.mem_append];exact .inr hk
 obtain⟨a1,a2,a3⟩:=gr.nk O.2.2.2.2
 have sub:∀k ∈ gr.cj o rv m ms,k ∈ gr.cj o r m ms∨k ∈ blk rv:=fun k hk=>by
  simp only[gr.cj,List.mem_append]at hk;rcases hk with (hk|hk)|hk
  ·exact .inl (inO k (by simpa [List.mem_append] using hk))
  ·exact .inr hk
  ·exact .inl (inM k hk)
 have nd:(gr.cj o rv m ms).Nodup:=by
  unfold gr.cj;refine List.nodup_append.2 ⟨List.nodup_append.2 ⟨O.2.1.2.2,gr.fl _,fun x hx y hy exy => ?_⟩,gr.fl _,fun x hx y hy exy => ?_⟩
  ·exact hd x (inO x hx) (exy▸hy)
  ·rcases List.mem_append.1 hx with hx|hx
   ·exact a2 x hx (exy▸hy)
   ·exact hd y (inM y hy) (exy▸hx)
 have OG:gr.ja W P o rv m ms { G with roots:=xs }:=⟨O.1,O.2.1,ho,O.2.2.2.1,nd⟩;have nP:P ∉ gr.cj o rv m ms:=fun hc=>(sub P hc).elim N hP
 exact⟨gr.pS T rv,gr.fN OG (gr.aH W P 1 rv) (fun k hk e=>nP ((List.mem_singleton.1 e)▸hk)),nP,fun k hk=>(sub k hk).elim (A k) (hv k)⟩
theorem GrX.a7 {W:World} {P:Nat} {G:gr.Gr} {vm o r m rv:Value} {ms:List gr.MO} {xs:List gr.Rf} (h:GrX W P G vm o r m ms) (hd:∀k ∈ gr.cj o r m ms,k ∉ blk rv) (hP:P ∉ blk rv) (ho:gr.fJ W P rv xs) (hv:∀k ∈ blk rv,k ∉ blk vm):GrX (W.setCell ⟨P,2,none⟩ rv) P { G with a7:=xs } vm o r rv ms:=by
 obtain⟨T,O,N,A⟩:=h
 have hOR:(gr.blk o++gr.gD ms++gr.blk r).Nodup:=by
  have:=O.2.2.2.2
  unfold gr.cj at this;exact (List.nodup_append.1 this).1
 have inR:∀k ∈ gr.blk o++gr.gD ms++gr.blk r,k ∈ gr.cj o r m ms:=fun k hk=>by
  unfold gr.cj;exact List.mem_append_left _ hk
 have sub:∀k ∈ gr.cj o r rv ms,k ∈ gr.cj o r m ms∨k ∈ blk rv:=fun k hk=>by
  unfold gr.cj at hk;rcases List.mem_append.1 hk with hk|hk
  ·exact .inl (inR k hk)
  ·exact .inr hk
 have nd:(gr.cj o r rv ms).Nodup:=by
  unfold gr.cj;exact List.nodup_append.2 ⟨hOR,gr.fl _,fun x hx y hy exy=>hd x (inR x hx) (exy▸hy)⟩
 have OG:gr.ja W P o r rv ms { G with a7:=xs }:=⟨O.1,O.2.1,O.2.2.1,ho,nd⟩;have nP:P ∉ gr.cj o r rv ms:=fun hc=>(sub P hc).elim N hP
 exact⟨gr.lS T rv,gr.fN OG (gr.aH W P 2 rv) (fun k hk e=>nP ((List.mem_singleton.1 e)▸hk)),nP,fun k hk=>(sub k hk).elim (A k) (hv k)⟩
theorem GrX.object {W w10:World} {P:Nat} {G:gr.Gr} {vm o r m v':Value} {ms:List gr.MO} {m1:gr.MO} (h:GrX W P G vm o r m ms) (hd:∀k ∈ gr.blk m1.sv,k ∉ gr.cj o r m ms) (hP:P ∉ blk m1.sv) (R1:gr.fJ W P m1.sv m1.slots) (hv:∀k ∈ blk m1.sv,k ∉ blk vm) (hvl:∀k ∈ blk vm,k<W.heap.size)
    (hrow:w10.ownsRow P 60 5 v' (ms.length+1) (gr.cellsO ms++gr.cellsO [m1])) (hg:W.grownBy w10 o.ownBlock) (hat:v'.ownBlock=o.ownBlock∨v'.ownBlock=some W.heap.size) :
    w10.cell? ⟨P,0,none⟩=some o∧w10.frozen? ⟨P,0,none⟩=false∧GrX (w10.setCell ⟨P,0,none⟩ v') P { G with objs:=G.objs++[m1.abs] } vm v' r m (ms++[m1])∧Ch (blk o) W w10:=by
 obtain⟨T,O,N,A⟩:=h;obtain⟨AP,CH,AM⟩:=gr.yF O R1 hd hrow hg hat;have nB:P ∉ gr.blk o:=fun e=>N (by simp only[gr.cj,List.mem_append];exact .inl (.inl (.inl e)))
 have T10:=gr.eV T CH nB;have lP:=lt_of_block T
 have nP:P ∉ gr.cj v' r m (ms++[m1]):=fun e=>by
  rcases AM P e with e|e|e
  ·exact N e
  ·exact hP e
  ·omega
 obtain⟨u0,_,_,_,_,uf⟩:=gr.ak T10;refine⟨u0,uf 0,⟨gr.pR T10 v',gr.fN AP (gr.aH w10 P 0 v') (fun k hk e=>nP ((List.mem_singleton.1 e)▸hk)),nP,fun k hk hc => ?_⟩,GO CH⟩
 rcases AM k hk with e|e|e
 ·exact A k e hc
 ·exact hv k e hc
 ·have:=hvl k hc;omega
theorem GrX.below {W V:World} {P:Nat} {G:gr.Gr} {vm o r m:Value} {ms:List gr.MO} (h:GrX W P G vm o r m ms) (hb:Below W.heap.size W V):GrX V P G vm o r m ms:=⟨gr.aJ h.1 hb,gr.cI h.2.1 hb,h.2.2.1,h.2.2.2⟩
theorem D6 {w:World} {base:Nat} {v:Value} {ms:List gr.MO} {vb:Nat} {m1:gr.MO} (hown:gr.lp w base v ms) (hm1:∃a n c,m1.sv = .slice a n c) (hvb:w.heap[vb]? = some (gr.ob m1)) (hl:ms.length≤1000000) (hbase:base≤w.heap.size) (ty:TypeId) :
    ∃va vn vc w',(Builtin.append_ #[47,47] ty #[v,.slice (some ⟨vb,0,none⟩) 1 1]).run Tryz.prog w = .ok (.slice va vn vc) w'∧w'.ownsRow base 60 5 (.slice va vn vc) (ms.length+1) (gr.cellsO ms++gr.cellsO [m1])∧w.grownBy w' v.ownBlock∧((Value.slice va vn vc).ownBlock=v.ownBlock∨(Value.slice va vn vc).ownBlock=some w.heap.size):=by
 obtain⟨i0,hi,hz0,hz1,hz2⟩:=info_parts gr.Hj
 have hn:∀j u,(gr.cellsO [m1])[j]? = some u→w.cell? ((⟨vb,0,none⟩:Addr).add j)=some u:=by
  intro j u hj
  have hl:j<5:=by
   have:=(List.getElem?_eq_some_iff.1 hj).1
   rw[gr.jm]at this;simpa using this
  have e2:(⟨vb,0,none⟩:Addr).add j=⟨vb,j,none⟩:=by cases j<;>simp[Addr.add]
  rw[e2];rcases (show j=0∨j=1∨j=2∨j=3∨j=4 by omega) with e|e|e|e|e<;>subst e<;>(simp[gr.cellsO]at hj;subst hj;simp[World.cell?, hvb])
 obtain⟨v',w',hr,h2,h3,h4,h5⟩:=run_append_own_at (P:=Tryz.prog) w base 47 ty 60 i0 (.agg #[.int .i64 0,.int .i64 0,.int .i64 0,.int .i64 0,.slice none 0 0]) 5 56 Tryz.underlying47 hi hz0 hz1 hz2 rfl (by decide) v ms.length (gr.cellsO ms) hown ⟨vb,0,none⟩ 1 1 (gr.cellsO [m1]) rfl hn (gr.nJ (ms:=[m1]) (fun m hm=>by have e:m=m1:=(by simpa using hm);rw[e];exact hm1)) (by unfold maxLen;omega) (by omega) hbase
 obtain⟨va,vn,vc,rfl⟩:∃va vn vc,v' = .slice va vn vc:=by
  obtain⟨_,⟨e,_⟩|⟨g,c,cur,e,_⟩⟩:=h2
  ·exact⟨_,_,_,e⟩
  ·exact⟨_,_,_,e⟩
 exact⟨va,vn,vc,w',hr,h2,h3,h5⟩
theorem tZ {H:Hp} {l M t:List Int} (h:∀x ∈ l,∀a,tgt H x=some a→a ∈ M):l.map (cW H (M++t))=l.map (cW H M):=List.map_congr_left (fun x hx=>zo (h x hx))
theorem EP {H:Hp} {ps:List Int} {M RR:List Int} {i j:Nat} (R:Rt H ps) (hog:Og H ps M) (hi:i<M.length) (hj:M.getD i 0=(j:Int)) (ho:ordN H (1000-i) i M=RR) (hc:i<1000) :
    (j:Int) ∈ M∧pg H ps j∧obS H RR i=⟨idM M j,uC (H.row.getD j 0),uF (H.row.getD j 0),uH (H.row.getD j 0),(slotsOf H j).map (cW H (aW H M (slotsOf H j)))⟩∧ordN H (1000-(i+1)) (i+1) (aW H M (slotsOf H j))=RR∧Og H ps (aW H M (slotsOf H j))∧i+1≤(aW H M (slotsOf H j)).length:=by
 have hm:(j:Int) ∈ M:=by
  rw[←hj,List.getD_eq_getElem?_getD,List.getElem?_eq_getElem hi];exact List.getElem_mem hi
 have hob:=hog.2 _ hm;have ho2:=ho;rw[wh hi hc,hj]at ho2;obtain⟨l,el⟩:=ie (H:=H) (A:=slotsOf H j) (M:=M);obtain⟨l2,el2⟩:=pJ (H:=H) (n:=1000-(i+1)) (k:=i+1) (M:=aW H M (slotsOf H j));rw[ho2]at el2;have hg:RR.getD i 0=(j:Int):=by rw[el2,el,List.append_assoc,pH hi,hj]
 have hid:idM M j=(i:Int)+1:=by
  rw[yk hm]
  rw[yj hi hj (fun t ht e=>by
   have h1:t<M.length:=by omega
   rw[List.getD_eq_getElem?_getD,List.getElem?_eq_getElem h1]at e;rw[List.getD_eq_getElem?_getD,List.getElem?_eq_getElem hi]at hj
   have e3:M[t]=M[i]:=by
    have q1:M[t]=(j:Int):=e;have q2:M[i]=(j:Int):=hj;rw[q1,q2]
   exact List.pairwise_iff_getElem.1 hog.1 t i h1 hi ht e3)]
 refine⟨hm,hob,?_,ho2,hog.aW (R.pI hob.1),?_⟩
 ·unfold obS;rw[hg,hid,Int.toNat_natCast,el2,tZ (fun x hx a ha=>ig hx ha)]
 ·rw[el,List.length_append];omega
def ShL (X:World) (C mb:Nat) (up:Int) (v:Value) (H:Hp) (ps:List Int) (ds:List Pd) (P:Nat) (RR:List Int) (i:Nat) (wr:World):Prop:=∃es vm,ShG X C mb up v ds P wr es vm ⟨(List.range i).map (obS H RR),H.roots.map (cW H RR),H.a7.map (cW H RR),0,H.seed⟩∧Og H ps (es.map Pd.pl)∧i≤es.length∧ordN H (1000-i) i (es.map Pd.pl)=RR
theorem ES {X:World} {C mb:Nat} {up:Int} {v:Value} {H:Hp} {ps:List Int} {ds es es2:List Pd} {P:Nat} {RR:List Int} {i j:Nat} {wr w1 V:World} {vm vm2 o r m:Value} {ms:List gr.MO} {va ua:Option Addr} {vn vc un uc:Nat} (R:Rt H ps)
    (sh:Sh X (P+1) C mb up v wr es vm) (hin:∀d ∈ es,d ∈ ds) (lo:X.heap.size≤P) (nC:C≠P) (nM:mb≠P) (gx:GrX wr P ⟨(List.range i).map (obS H RR),H.roots.map (cW H RR),H.a7.map (cW H RR),0,H.seed⟩ vm o r m ms)
    (hog:Og H ps (es.map Pd.pl)) (hi:i<es.length) (ho:ordN H (1000-i) i (es.map Pd.pl)=RR) (hj:(es.map Pd.pl).getD i 0=(j:Int))
    (hr:RfS X (P+1) C mb up v H ds es wr vm (slotsOf H j) w1 (.slice va vn vc) vm2 es2)
    (hrow:V.ownsRow P 60 5 (.slice ua un uc) (ms.length+1) (gr.cellsO ms++gr.cellsO [⟨idM (es.map Pd.pl) j,uC (H.row.getD j 0),uF (H.row.getD j 0),uH (H.row.getD j 0),.slice va vn vc,(slotsOf H j).map (cW H (aW H (es.map Pd.pl) (slotsOf H j)))⟩])) {ob1:Obj}
    (hg:(w1.alloc ob1).grownBy V o.ownBlock) (hat:(Value.slice ua un uc).ownBlock=o.ownBlock∨(Value.slice ua un uc).ownBlock=some (w1.alloc ob1).heap.size) :
    V.cell? ⟨P,0,none⟩=some o∧V.frozen? ⟨P,0,none⟩=false∧ShL X C mb up v H ps ds P RR (i+1) (V.setCell ⟨P,0,none⟩ (.slice ua un uc)):=by
 have hl:i<(es.map Pd.pl).length:=by rw[List.length_map];exact hi
 have h500:=hog.len R;obtain⟨t1,t2,t3,t4,t5,t6⟩:=EP R hog hl hj ho (by omega);obtain⟨g1,g2,g3,g4,g5⟩:=ShG.mid sh nC nM gx hr;have B1:Below w1.heap.size w1 (w1.alloc ob1):=(Below.refl _ _).alloc (Nat.le_refl _) _;have L2:=hr.sr.sh.lt.2.2;obtain⟨u0,u1,u2,u3⟩:=(g1.below B1).object (m1:=⟨idM (es.map Pd.pl) j,uC (H.row.getD j 0),uF (H.row.getD j 0),uH (H.row.getD j 0),.slice va vn vc,(slotsOf H j).map (cW H (aW H (es.map Pd.pl) (slotsOf H j)))⟩) (fun k hk hc=>g2 k hc hk) g3 (gr.fc g4 B1) hr.ap (fun k hk=>Nat.lt_of_lt_of_le (L2 k hk).2 B1.size) hrow hg hat
 have gfin:GrX (V.setCell ⟨P,0,none⟩ (.slice ua un uc)) P ⟨(List.range (i+1)).map (obS H RR),H.roots.map (cW H RR),H.a7.map (cW H RR),0,H.seed⟩ vm2 (.slice ua un uc) r m (ms++[⟨idM (es.map Pd.pl) j,uC (H.row.getD j 0),uF (H.row.getD j 0),uH (H.row.getD j 0),.slice va vn vc,(slotsOf H j).map (cW H (aW H (es.map Pd.pl) (slotsOf H j)))⟩]):=by
  rw[List.range_succ,List.map_append,List.map_cons,List.map_nil,t3];exact u2
 refine⟨u0,u1,es2,vm2,⟨?_,fun d hd=>(hr.inD d hd).elim (hin d) id,lo,nC,nM,_,_,_,_,gfin⟩,by rw[hr.met];exact t5,?_,by rw[hr.met];exact t4⟩
 ·have glt:=gr.dz g1.2.1;have inO:∀k ∈ blk o,k ∈ gr.cj o r m ms:=fun k hk=>by simp only[gr.cj,List.mem_append];exact .inl (.inl (.inl hk))
  have n1:=sh.nc;have n2:=sh.nm;exact D5 ((hr.sr.sh.below B1).ch u3 (fun k hk=>⟨fun e=>by have:=(glt k (inO k hk)).1;omega,fun e=>by have:=(glt k (inO k hk)).1;omega,g1.2.2.2 k (inO k hk),Nat.le_trans lo (glt k (inO k hk)).1⟩)) nC nM lo 0 _
 ·have:=congrArg List.length hr.met
  rw[List.length_map]at this;omega
end Go.Proofs.YtocidankimefpaaGreatDoor.hp
