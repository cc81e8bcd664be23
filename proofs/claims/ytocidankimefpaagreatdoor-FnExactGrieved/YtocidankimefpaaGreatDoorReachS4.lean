/- Chapter 7 as the specification has it: l -/
import Derived.Test.YtocidankimefpaaGreatDoorM7
set_option linter.unusedVariables false
set_option maxRecDepth 100000
namespace Go.Proofs.YtocidankimefpaaGreatDoor.gr
open Go.RowKit rows heads
theorem D2 {ops:Array Oper} {o:Oper} {a:Act} {w:World} {K:Act→World→Prop} {Q:Exit→Act→World→Prop} {E:Prop} (hgd:o.guard=none) (s x:Operand)
    (ho:o.op = .call { callee:=.builtin .append,args:=#[s,x],argTypes:=#[48,48] })
    (base:Nat) (v:Value) (es:List Rf) (hs:a.eval s=v) (hown:fJ w base v es) (av:Option Addr) (nv cv:Nat) (fs:List Rf) (hx:a.eval x = .slice av nv cv) (hR:cM w (.slice av nv cv) fs)
    (hb:es.length+fs.length≤1048576) (hbase:base≤w.heap.size)
    (h:∀v' w',fJ w' base v' (es++fs)→Ch (blk v) w w'→(∀k ∈ blk v',k ∈ blk v∨w.heap.size≤k)→K (a.put o.dst v') w') :
    if Region.wanted o (yielded ops a.tmps)=true then Oper.wp Tryz.prog o a w K Q else E:=by
 obtain⟨i0,hi,hz0,hz1,hz2⟩:=info_parts Aa;obtain⟨hn,hnone⟩:=jn hR;cases av with
 |none=>
  have e0:=hnone rfl;obtain⟨a',c',e',_,_,h3,_⟩:=id hR;injection e' with e1 e2 e3
  subst e1 e3;have ec:=h3 rfl;have ef:fs=[]:=List.eq_nil_of_length_eq_zero (by omega);subst ec ef e0;have hw:Region.wanted o (yielded ops a.tmps)=true:=by simp[Region.wanted,hgd]
  rw[if_pos hw];have hrun:=run_append_owned_none (P:=Tryz.prog) (w:=w) base 48 o.type 63 i0 2 Tryz.underlying48 hi v es.length (cellsR es) hown;have hk:=h v w (by rw[List.append_nil];exact hown) (Ch.refl _ _) (fun k hk => .inl hk);unfold Oper.wp;simp[execOp,ho,resolve,invoke,builtin,hs,hx,hrun,Result.andThen];exact hk
 |some ad=>
  subst hn;refine pZ hgd s x 48 ho base 63 i0 (.agg #[.int .i64 0,.int .i64 0]) 2 16 Tryz.underlying48 hi hz0 hz1 hz2 rfl (by decide) v es.length (cellsR es) hs hown ad fs.length cv (cellsR fs) hx (bV _) (jV hR) (fQ _) (by unfold maxLen;omega) (by omega) hbase ?_;intro v' w' hrow hg hat;refine h v' w' (by unfold fJ;rw[List.length_append,eC];exact hrow) (cJ hg) fun k hk => ?_
  unfold blk at hk ⊢;rcases hat with e|e
  ·rw[e]at hk;exact .inl hk
  ·rw[e]at hk;simp at hk;exact .inr (by omega)
theorem D3 {ops:Array Oper} {o:Oper} {act:Act} {w:World} {K:Act→World→Prop} {Q:Exit→Act→World→Prop} {E:Prop} {g:Nat} {a:Option Addr} {n cap:Nat} {es:List Rf}
    (h:cM w (.slice a n cap) es) (hl:n≤1048576) (hg:w.heap[g]? = some (.cells #[] 63 (0,0))) (hgd:o.guard=none) (s x:Operand) (ho:o.op = .call { callee:=.builtin .append,args:=#[s,x],argTypes:=#[48,48] })
    (hs:act.eval s = .slice (some ⟨g,0,none⟩) 0 0) (hx:act.eval x = .slice a n cap)
    (k:∀q c w',(q=g∨w.heap.size≤q)→(∀base,base≤q→fJ w' base (.slice (some ⟨q,0,none⟩) n c) es)→Below w.heap.size w w'→K (act.put o.dst (.slice (some ⟨q,0,none⟩) n c)) w') :
    if Region.wanted o (yielded ops act.tmps)=true then Oper.wp Tryz.prog o act w K Q else E:=by
 have hw:Region.wanted o (yielded ops act.tmps)=true:=by simp[Region.wanted,hgd]
 rw[if_pos hw];obtain⟨q,c,w',hr,h1,h2,h3⟩:=Et h hl hg o.type;unfold Oper.wp;simp[execOp,ho,resolve,invoke,builtin,hs,hx,hr,Result.andThen];exact k q c w' h1 h2 h3
theorem D4 {X:World} {o:Obj} {k:Nat} (h:k=X.heap.size):(X.alloc o).heap[k]? = some o:=by subst h;exact heap_alloc_new _ _
theorem nY {w:World} {v:Value} {xs:List Int} (h:au w v xs):∃a n c,v = .slice a n c:=by
 obtain⟨a,c,e,_⟩:=h;exact⟨a,_,c,e⟩
def slen:Value→Nat
 | .slice _ n _=>n
 |_=>0
set_option maxHeartbeats 16000000 in
theorem tX {w:World} {o r m:Value} {ms:List MO} {G:Gr} (h:gy w o r m ms G) (hok:gOk G=true) {zs:List Int} (hz:IsR G zs) :
    Calls Tryz.prog 141 #[gv o r m G.next G.seed] w fun e w'=>∃v,e = .returned v∧rows.Own w' w.heap.size v zs∧Below w.heap.size w w':=by
 obtain⟨a1,n1,c1,a2,n2,c2,a3,n3,c3,e1,e2,e3⟩:=bq h;subst e1 e2 e3;have hlen:=jg h;obtain⟨h200,h6,h40,hN1,hN2,_⟩:=gu hok;obtain⟨hn2,_⟩:=jn h.2.2.1;obtain⟨hn3,_⟩:=jn h.2.2.2;have B1:Below w.heap.size w ((w.alloc (gb (.slice a1 n1 c1) (.slice a2 n2 c2) (.slice a3 n3 c3) G.next G.seed)).alloc (.cells #[] 2)):=((Below.refl _ w).alloc (Nat.le_refl _) _).alloc (by simp) _;have T1:fh ((w.alloc (gb (.slice a1 n1 c1) (.slice a2 n2 c2) (.slice a3 n3 c3) G.next G.seed)).alloc (.cells #[] 2)) w.heap.size 50 (.slice a1 n1 c1) (.slice a2 n2 c2) (.slice a3 n3 c3) (.int .i64 G.next) (.int .i64 G.seed):=aJ (fX w _ _ _ _ _ _) ((Below.refl _ _).alloc (Nat.le_refl _) _)
 have O1:rows.Own ((w.alloc (gb (.slice a1 n1 c1) (.slice a2 n2 c2) (.slice a3 n3 c3) G.next G.seed)).alloc (.cells #[] 2)) w.heap.size (.slice (some ⟨w.heap.size+1,0,none⟩) 0 0) []:=by
  refine⟨rfl,.inr ⟨w.heap.size+1,0,#[],rfl,by omega,?_,Nat.le_refl _,by decide,rfl,rfl⟩⟩
  exact D4 (by simp)
 have HG:Hid _:=h;have HOK:Hid _:=hok;have HZ:Hid _:=hz;have HO1:Hid _:=O1;have HB1:Hid _:=B1;have HT1:Hid _:=T1;have sX:w.heap.size+2=((w.alloc (gb (.slice a1 n1 c1) (.slice a2 n2 c2) (.slice a3 n3 c3) G.next G.seed)).alloc (.cells #[] 2)).heap.size:=by simp
 clear h hok hz O1 B1 T1;generalize hgn:G.next=gn at *;generalize hgs:G.seed=gs at *;go_enter Tryz.func141,Tryz.ntmps141;go_wp2_with fail;generalize hX:((w.alloc (gb (.slice a1 n1 c1) (.slice a2 n2 c2) (.slice a3 n3 c3) gn gs)).alloc (.cells #[] 2))=X1 at *;clear hX;have NL:Below X1.heap.size X1 (X1.alloc (.cells #[] 63)).drew:=((Below.refl _ _).alloc (Nat.le_refl _) _).drew;obtain⟨z0,z1,z2,z3,z4,_⟩:=ak HT1.out;obtain⟨y0,y1,y2,y3,y4,_⟩:=ak (aJ HT1.out ((Below.refl _ X1).alloc (Nat.le_refl _) (.cells #[] 63)));have HLIT:Hid ((X1.alloc (.cells #[] 63)).drew.heap[X1.heap.size]? = some (.cells #[] 63 (0,0))):=heap_alloc_new X1 _;have HRO:Hid (cM (X1.alloc (.cells #[] 63)).drew (.slice a2 n2 c2) G.roots):=aU HG.out.2.2.1 (HB1.out.trans (NL.mono HB1.out.size));have HNL:Hid _:=NL;clear NL;go_cut [4] from 12 to 18 (fun v wx=>∃av nv cv,v = .slice av nv cv∧Hid (cM wx (.slice av nv cv) (G.roots++G.a7))∧Hid (Below X1.heap.size X1 wx))
 case first=>
  go_region_law (first
   |(refine D3 HRO.out (by omega) HLIT.out rfl (.tmp 12) (.tmp 14) rfl rfl rfl ?_
     intro q c w3 hq hO hb;have B3:=HNL.out.trans (hb.mono HNL.out.size);have hqs:X1.heap.size≤q:=(by rcases hq with e|e;omega;exact Nat.le_trans HNL.out.size e);have OW3:=hO X1.heap.size hqs;have HM3:Hid _:=aU HG.out.2.2.2 (HB1.out.trans (B3.mono HB1.out.size));obtain⟨x0,x1,x2,x3,x4,_⟩:=ak (aJ HT1.out B3);have HB3:Hid _:=B3;have HOW3:Hid _:=OW3;have hs3:=B3.size;clear hq hO hb B3 OW3 hqs)
   |(refine D2 rfl (.tmp 15) (.tmp 17) rfl X1.heap.size _ G.roots rfl HOW3.out a3 n3 c3 G.a7 rfl HM3.out (by omega) hs3 ?_
     intro v' w4 hO4 hc4 hk4;obtain⟨av,nv,cv,rfl⟩:=cO (cB hO4);have HR4:Hid _:=cB hO4;have HB4:Hid (Below X1.heap.size X1 w4):=HB3.out.trans (bn hc4 hs3 (fun k hk=>(aM HOW3.out k hk).1));clear hO4 hc4 hk4))
  all_goals go_wp2
  all_goals go_meet
  all_goals exact⟨av,nv,cv,rfl,HR4,HB4⟩
 obtain⟨av,nv,cv,rfl,HALL,HBX⟩:=hcut;obtain⟨X2,hX2⟩:∃X2,X2=wc:=⟨_,rfl⟩
 subst hX2;clear z0 z1 z2 z3 z4 y0 y1 y2 y3 y4 HLIT HRO HNL;obtain⟨hnv,_⟩:=jn HALL.out;have hLL:(G.roots++G.a7).length≤46:=by rw[List.length_append];omega
 have HMEM:Hid (∀r ∈ G.roots++G.a7,r.1=2→∃p,Rch G p∧(G.objs.getD p obD).id=r.2):=fun r hr h2=>⟨_,Rch.root r hr (gX HOK.out (.inl hr) h2).1,(gX HOK.out (.inl hr) h2).2⟩
 have HO2:Hid (rows.Own X2 w.heap.size (.slice (some ⟨w.heap.size+1,0,none⟩) 0 0) []):=aB HO1.out HBX.out;have HB2:Hid (Below w.heap.size w X2):=HB1.out.trans (HBX.out.mono HB1.out.size);have HT2:Hid _:=aJ HT1.out HBX.out;have sz2:=HB2.out.size;clear HO1 HB1 HT1 HBX sX;subst hnv;generalize hL:G.roots++G.a7=L at *;obtain⟨ao,co,eo,_⟩:=HG.out.2.1.1;injection eo with e1 e2 e3
 subst e1 e2 e3;have HGL:Hid (∀xs,Good G xs→xs.length≤100000):=fun xs hx=>Eg HOK.out hx
 have HLEN:Hid _:=hlen;have hms:ms.length≤500:=by omega
 have HLL:Hid _:=hL;clear hlen hn2 hn3 h6 h40 hL h200 hgn hgs;go_wp2_with fail;go_loopw [3,5] (fun v p wr=>∃(k:Nat) (vv:Value) (xs:List Int),vv=v∧k≤L.length∧p = .int .i64 k∧rows.Own wr w.heap.size vv xs∧Good G xs∧iS xs (L.take k)∧Below X2.heap.size X2 wr) (fun _ p _=>L.length-(intOf p).toNat);case atStart=>exact⟨0,_,[],rfl,Nat.zero_le _,rfl,HO2.out,Ef G,fun r hr=>absurd hr (by simp),Below.refl _ _⟩
 case round=>
  obtain⟨k,vv,xs,rfl,hk,rfl,hO,hgood,hgo,hB⟩:=hrel;by_cases hlt:k<L.length
  ·obtain⟨a',cap',e,_,_,_,hc⟩:=aU HALL.out hB;injection e with e1 e2 e3
   subst e1 e3;obtain⟨b,off,rfl,hb,hcc⟩:=hc (by omega);obtain⟨y0,y1⟩:=hcc k hlt;have htk:=uU hlt;have hme:L.getD k bU ∈ L:=by rw[List.getD_eq_getElem?_getD,List.getElem?_eq_getElem hlt];exact List.getElem_mem hlt
   clear hc hcc e2;generalize L.getD k bU=e0 at *;obtain⟨ek,en⟩:=e0;simp only at y0 y1;have HO:Hid _:=hO;have HGD:Hid _:=hgood;have HGO:Hid _:=hgo;have HB:Hid _:=hB;by_cases he:ek=2
   ·subst he;have hgl:=HGL.out xs hgood;have sB:=hB.size;have PT:=iZ hO (by omega) (by omega) en
    have HGP:Hid (Good G (putI en xs)):=by
     obtain⟨p,hp,e⟩:=HMEM.out _ hme rfl;exact pB hgood hp e
    have HGG:Hid (iS (putI en xs) (L.take (k+1))):=fun r hr h2=>by
     rw[htk]at hr;rcases List.mem_append.1 hr with e|e
     ·exact dP.2 (.inr (hgo r e h2))
     ·rw[List.mem_singleton.1 e];exact dP.2 (.inl rfl)
    obtain⟨va,vn,vc,hvv⟩:=nY (aj hO);subst hvv;clear hO hgood hgo hB htk hme hgl;go_wp2_with (go_at_call 90;refine PT.mono ?_;clear PT;rintro e w4 ⟨v4,rfl,o4,b4⟩;obtain⟨va4,vn4,vc4,rfl⟩:=nY (aj o4);have HO4:Hid _:=o4;have HB4:Hid _:=HB.out.trans (b4.mono sB);clear o4 b4);exact⟨⟨k+1,_,_,rfl,by omega,by go_num,HO4.out,HGP.out,HGG.out,HB4.out⟩,by simp[intOf];omega⟩
   ·have he':(ek==2)=false:=by simpa using he
    have HGG:Hid (iS xs (L.take (k+1))):=fun r hr h2=>by
     rw[htk]at hr;rcases List.mem_append.1 hr with e|e
     ·exact hgo r e h2
     ·rw[List.mem_singleton.1 e]at h2;exact absurd h2 he
    clear hO hgood hgo hB htk hme he;go_wp2;exact⟨⟨k+1,vv,xs,rfl,by omega,by go_num,HO.out,HGD.out,HGG.out,HB.out⟩,by simp[intOf];omega⟩
  ·have e:k=L.length:=by omega
   subst e;rw[List.take_length]at hgo;have HO:Hid _:=hO;have HGD:Hid _:=hgood;have HGO:Hid _:=hgo;have HB:Hid _:=hB;obtain⟨va,vn,vc,hvv⟩:=nY (aj hO);subst hvv;clear hO hgood hgo hB;go_wp2_with fail;go_loopw [3] (fun v wr=>∃(vv:Value) (xs:List Int),vv=v∧rows.Own wr w.heap.size vv xs∧Good G xs∧iS xs L∧Below X2.heap.size X2 wr) (fun v _=>100001-slen v);case atStart=>exact⟨_,xs,rfl,HO.out,HGD.out,HGO.out,HB.out⟩
   case round=>
    clear HO HGD HGO HB;obtain⟨vv,xs,rfl,hO,hgood,hgo,hB⟩:=hrel;have hgl:=HGL.out xs hgood
    obtain⟨va,vc,hvv⟩:∃a c,vv = .slice a xs.length c:=by
     obtain⟨a,c,e,_⟩:=aj hO;exact⟨a,c,e⟩
    subst hvv;have HO:Hid _:=hO;have HGD:Hid _:=hgood;have HGO:Hid _:=hgo;have HB:Hid _:=hB;clear hO hgood hgo hB;go_wp2_with fail;go_loopw [3,7] (fun v p wr=>∃(k:Nat) (vv:Value) (ys:List Int),vv=v∧k≤ms.length∧p = .int .i64 k∧rows.Own wr w.heap.size vv ys∧Good G ys∧iS ys L∧xs.length≤ys.length∧(ys.length=xs.length→ys=xs∧∀j,j<k→qp G xs j)∧Below X2.heap.size X2 wr) (fun _ p _=>ms.length-(intOf p).toNat);case atStart=>exact⟨0,_,xs,rfl,Nat.zero_le _,rfl,HO.out,HGD.out,HGO.out,Nat.le_refl _,fun _=>⟨rfl,fun j hj=>by omega⟩,HB.out⟩
    case round=>
     clear HO HGO HB;obtain⟨k,vv,ys,rfl,hk,rfl,hO,hgood,hgo,hle,hsame,hB⟩:=hrel;have hgl2:=HGL.out ys hgood
     obtain⟨va2,vc2,hvv⟩:∃a c,vv = .slice a ys.length c:=by
      obtain⟨a,c,e,_⟩:=aj hO;exact⟨a,c,e⟩
     subst hvv;obtain⟨q0,_⟩:=ak (aJ HT2.out hB);have HO:Hid _:=hO;have HGY:Hid _:=hgood;have HGO:Hid _:=hgo;have HSM:Hid _:=hsame;have HB:Hid _:=hB;by_cases hlt:k<ms.length
     ·obtain⟨ao,co,eo,_,_,_,hco⟩:=cC HG.out.2.1.1 (HB2.out.trans (hB.mono sz2));injection eo with e1 e2 e3
      subst e1 e3;obtain⟨b1,off1,rfl,hb1,hcc1⟩:=hco (by omega);obtain⟨x0,x1,x2,x3,x4⟩:=hcc1 k hlt;have hmo:(ms.getD k moD).abs=G.objs.getD k obD:=fO HG.out k;have hsv:=aU (HG.out.2.1.2 _ (cZ hlt)) (HB2.out.trans (hB.mono sz2));obtain⟨sa,sc,hsl,_⟩:=id hsv;have hkG:k<G.objs.length:=by rw[←HLEN.out];exact hlt
      have hs20:(ms.getD k moD).slots.length≤20:=by
       have:=(qd HOK.out hkG).2.1
       rw[←hmo]at this;exact this
      have HFK:Hid (∀ys,Good G ys→(ms.getD k moD).id ∈ ys→∀F,Cb (ms.getD k moD).abs ys F→F≤(ms.getD k moD).slots.length∧(∀r ∈ (ms.getD k moD).slots.drop F,r.1=2→∃p,Rch G p∧(G.objs.getD p obD).id=r.2)∧(iS ys ((ms.getD k moD).slots.drop F)→qp G ys k)):=fun ys hg hin F hF=>by
       have hin':(G.objs.getD k obD).id ∈ ys:=by rw[←hmo];exact hin
       have hF':Cb (G.objs.getD k obD) ys F:=by rw[←hmo];exact hF
       have:=Gm HOK.out hkG hg hin' hF'
       rw[←hmo]at this;exact this
      have HKEY:Hid ((ms.getD k moD).fmt=2→0<(ms.getD k moD).slots.length):=fun e=>by
       have h1:=(jQ HOK.out hkG (by rw[←hmo];exact e)).1;rw[←hmo]at h1;exact h1
      have HFMT:Hid ((ms.getD k moD).fmt=0∨(ms.getD k moD).fmt=1∨(ms.getD k moD).fmt=2):=by
       obtain⟨_,_,h2,h3⟩:=lz ((jd HOK.out).ob k hkG);have h4:=iq h3;have e:(ms.getD k moD).fmt=(G.objs.getD k obD).fmt:=by rw[←hmo];rfl
       show _∨_∨_
       omega
      have HNO:Hid ((ms.getD k moD).id ∉ ys→qp G ys k):=fun hno hin=>absurd (by rw[←hmo]at hin;exact hin) hno
      clear hmo hco hcc1;generalize ms.getD k moD=mo at *;obtain⟨mi,mc,mf,mh,msv,msl⟩:=mo;simp only at x0 x1 x2 x3 x4 hsl hsv hs20 HFK HKEY HFMT HNO;subst hsl;have BY:Below wr.heap.size wr (wr.alloc (ob ⟨mi,mc,mf,mh,.slice sa msl.length sc,msl⟩)):=(Below.refl _ _).alloc (Nat.le_refl _) _;have TY:=fX wr 60 (.int .i64 mi) (.int .i64 mc) (.int .i64 mf) (.int .i64 mh) (.slice sa msl.length sc);have OY:=aB hO BY;have HS:=fC (aj OY) (by omega) mi;have HBY:Hid _:=hB.trans (BY.mono hB.size);have HTY:Hid _:=TY;have HOY:Hid _:=OY;have HSVY:Hid _:=aU hsv BY;clear hO hgood hgo hsame hB hsv BY TY OY e2;go_wp2_with fail;generalize hYY:(wr.alloc (ob ⟨mi,mc,mf,mh,.slice sa msl.length sc,msl⟩))=Y at *;generalize hPP:wr.heap.size=P8 at *;clear hYY;refine HS.mono ?_;rintro e w4 ⟨rfl,hw4⟩;rw[hw4];clear HS hw4 q0 x0 x1 x2 x3 x4;by_cases hin:mi ∈ ys
      ·rw[decide_eq_true hin];obtain⟨t0,t1,t2,t3,t4,_⟩:=ak HTY.out;rcases HFMT.out with hf|hf|hf
       ·subst hf;obtain⟨hFl,hsf,hdf⟩:=HFK.out ys HGY.out hin 0 (.inr (.inl ⟨rfl,rfl⟩));have HSF:Hid _:=hsf;have HDF:Hid _:=hdf;clear hsf hdf HFK HKEY HFMT HNO;go_wp2_with fail;go_loopw [3,10] (fun v p wr=>∃(i:Nat) (vv:Value) (us:List Int),vv=v∧i≤msl.length∧0≤i∧p = .int .i64 i∧rows.Own wr w.heap.size vv us∧Good G us∧iS us L∧ys.length≤us.length∧(us.length=ys.length→us=ys∧∀j,0≤j→j<i→(msl.getD j bU).1=2→(msl.getD j bU).2 ∈ ys)∧Below X2.heap.size X2 wr∧Below Y.heap.size Y wr) (fun _ p _=>msl.length-(intOf p).toNat);case atStart=>exact⟨0,_,ys,rfl,hFl,Nat.le_refl _,by go_num,HOY.out,HGY.out,HGO.out,Nat.le_refl _,fun _=>⟨rfl,fun j h1 h2=>absurd h2 (by omega)⟩,HBY.out,Below.refl _ _⟩
        case round=>
         obtain⟨i,vv,us,rfl,hi,hFi,rfl,hO,hgood,hgo,hle2,hsm2,hB,hBY⟩:=hrel;have hgl3:=HGL.out us hgood
         obtain⟨va3,vc3,hvv⟩:∃a c,vv = .slice a us.length c:=by
          obtain⟨a,c,e,_⟩:=aj hO;exact⟨a,c,e⟩
         subst hvv;obtain⟨_,_,_,_,t4,_⟩:=ak (aJ HTY.out hBY);have HO4:Hid _:=hO;have HG4:Hid _:=hgood;have HGO4:Hid _:=hgo;have HSM4:Hid _:=hsm2;have HB4:Hid _:=hB;have HBY4:Hid _:=hBY;by_cases hlt4:i<msl.length
         ·obtain⟨a',cap',e,_,_,_,hc⟩:=aU HSVY.out hBY;injection e with e1 e2 e3
          subst e1 e3;obtain⟨b4,off4,e4,hb4,hcc4⟩:=hc (by omega);subst e4;obtain⟨y0,y1⟩:=hcc4 i hlt4
          have hme:msl.getD i bU ∈ msl.drop 0:=by
           rw[List.getD_eq_getElem?_getD,List.getElem?_eq_getElem hlt4];exact List.mem_iff_getElem.2 ⟨i-0,by rw[List.length_drop];omega,by rw[List.getElem_drop];exact getElem_congr_idx (by omega)⟩
          have hput:=HSF.out _ hme
          have HNXN:Hid (¬(msl.getD i bU).1=2→us.length=ys.length→us=ys∧∀j,0≤j→j<i+1→(msl.getD j bU).1=2→(msl.getD j bU).2 ∈ ys):=fun hn e=>by
           obtain⟨e1,h1⟩:=HSM4.out e;refine⟨e1,fun j h2 h3 h4 => ?_⟩
           by_cases ej:j=i
           ·rw[ej]at h4;exact absurd h4 hn
           ·exact h1 j h2 (by omega) h4
          have HNXY:Hid ((putI (msl.getD i bU).2 us).length=ys.length→putI (msl.getD i bU).2 us=ys∧∀j,0≤j→j<i+1→(msl.getD j bU).1=2→(msl.getD j bU).2 ∈ ys):=fun e=>by
           have hl:= @gH (msl.getD i bU).2 us;have eu:us.length=ys.length:=by omega
           obtain⟨e1,h1⟩:=HSM4.out eu;have e2:=hl.2.2 (by omega);refine⟨e2.trans e1,fun j h2 h3 h4 => ?_⟩
           by_cases ej:j=i
           ·have:(msl.getD i bU).2 ∈ putI (msl.getD i bU).2 us:=dP.2 (.inl rfl)
            rw[e2,e1]at this;rw[ej];exact this
           ·exact h1 j h2 (by omega) h4
          clear hc hcc4 e2 hme;generalize msl.getD i bU=e0 at *;obtain⟨ek,en⟩:=e0;simp only at y0 y1 hput HNXN HNXY;by_cases he:ek=2
          ·subst he;have sB:=hB.size;have sBY:=hBY.size;have PT:=iZ hO (by omega) (by omega) en
           have HGP:Hid (Good G (putI en us)):=by
            obtain⟨p,hp,e⟩:=hput rfl;exact pB hgood hp e
           have HGG:Hid (iS (putI en us) L):=nG hgo (fun a ha=>dP.2 (.inr ha));have HLE:Hid (ys.length≤(putI en us).length):=Nat.le_trans hle2 (@gH en us).1;clear hO hgood hgo hsm2 hB hBY hput HNXN;go_wp2_with (go_at_call 90;refine PT.mono ?_;clear PT;rintro e w5 ⟨v5,rfl,o5,b5⟩;obtain⟨va5,vn5,vc5,rfl⟩:=nY (aj o5);have HO5:Hid _:=o5;have HB5:Hid _:=HB4.out.trans (b5.mono sB);have HBY5:Hid _:=HBY4.out.trans (b5.mono sBY);clear o5 b5);exact⟨⟨i+1,_,_,rfl,by omega,by omega,by go_num,HO5.out,HGP.out,HGG.out,HLE.out,HNXY.out,HB5.out,HBY5.out⟩,by simp[intOf];omega⟩
          ·have he':(ek==2)=false:=by simpa using he
           have HNX2:Hid _:=HNXN.out he;clear hO hgood hgo hsm2 hB hBY hput HNXN HNXY he;go_wp2;exact⟨⟨i+1,_,us,rfl,by omega,by omega,by go_num,HO4.out,HG4.out,HGO4.out,hle2,HNX2.out,HB4.out,HBY4.out⟩,by simp[intOf];omega⟩
         ·have e:i=msl.length:=by omega
          subst e
          have HX:Hid (us.length=xs.length→us=xs∧∀j,j<k+1→qp G xs j):=fun e=>by
           obtain⟨e1,h1⟩:=HSM4.out (by omega);obtain⟨e2,h2⟩:=HSM.out (by omega);refine⟨e1.trans e2,fun j hj => ?_⟩
           by_cases ej:j=k
           ·rw[ej,←e2];refine HDF.out fun r hr h3 => ?_
            obtain⟨n',hn',rfl⟩:=List.getElem_of_mem hr;rw[List.length_drop]at hn';rw[List.getElem_drop]at h3 ⊢;have hq:=h1 (0+n') (by omega) (by omega);rw[List.getD_eq_getElem?_getD,List.getElem?_eq_getElem (by omega)]at hq;exact hq h3
           ·exact h2 j (by omega)
          clear hO hgood hgo hsm2 hB hBY;go_wp2;exact⟨⟨k+1,_,us,rfl,by omega,by go_num,HO4.out,HG4.out,HGO4.out,by omega,HX.out,HB4.out⟩,by simp[intOf];omega⟩
       ·subst hf;obtain⟨hFl,hsf,hdf⟩:=HFK.out ys HGY.out hin msl.length (.inl ⟨rfl,rfl⟩);have HSF:Hid _:=hsf;have HDF:Hid _:=hdf;clear hsf hdf HFK HKEY HFMT HNO;go_wp2_with fail;go_loopw [3,10] (fun v p wr=>∃(i:Nat) (vv:Value) (us:List Int),vv=v∧i≤msl.length∧msl.length≤i∧p = .int .i64 i∧rows.Own wr w.heap.size vv us∧Good G us∧iS us L∧ys.length≤us.length∧(us.length=ys.length→us=ys∧∀j,msl.length≤j→j<i→(msl.getD j bU).1=2→(msl.getD j bU).2 ∈ ys)∧Below X2.heap.size X2 wr∧Below Y.heap.size Y wr) (fun _ p _=>msl.length-(intOf p).toNat);case atStart=>exact⟨msl.length,_,ys,rfl,hFl,Nat.le_refl _,by go_num,HOY.out,HGY.out,HGO.out,Nat.le_refl _,fun _=>⟨rfl,fun j h1 h2=>absurd h2 (by omega)⟩,HBY.out,Below.refl _ _⟩
        case round=>
         obtain⟨i,vv,us,rfl,hi,hFi,rfl,hO,hgood,hgo,hle2,hsm2,hB,hBY⟩:=hrel;have hgl3:=HGL.out us hgood
         obtain⟨va3,vc3,hvv⟩:∃a c,vv = .slice a us.length c:=by
          obtain⟨a,c,e,_⟩:=aj hO;exact⟨a,c,e⟩
         subst hvv;obtain⟨_,_,_,_,t4,_⟩:=ak (aJ HTY.out hBY);have HO4:Hid _:=hO;have HG4:Hid _:=hgood;have HGO4:Hid _:=hgo;have HSM4:Hid _:=hsm2;have HB4:Hid _:=hB;have HBY4:Hid _:=hBY;by_cases hlt4:i<msl.length
         ·exact absurd hlt4 (by omega)
         ·have e:i=msl.length:=by omega
          subst e
          have HX:Hid (us.length=xs.length→us=xs∧∀j,j<k+1→qp G xs j):=fun e=>by
           obtain⟨e1,h1⟩:=HSM4.out (by omega);obtain⟨e2,h2⟩:=HSM.out (by omega);refine⟨e1.trans e2,fun j hj => ?_⟩
           by_cases ej:j=k
           ·rw[ej,←e2];refine HDF.out fun r hr h3 => ?_
            obtain⟨n',hn',rfl⟩:=List.getElem_of_mem hr;rw[List.length_drop]at hn';rw[List.getElem_drop]at h3 ⊢;have hq:=h1 (msl.length+n') (by omega) (by omega);rw[List.getD_eq_getElem?_getD,List.getElem?_eq_getElem (by omega)]at hq;exact hq h3
           ·exact h2 j (by omega)
          clear hO hgood hgo hsm2 hB hBY;go_wp2;exact⟨⟨k+1,_,us,rfl,by omega,by go_num,HO4.out,HG4.out,HGO4.out,by omega,HX.out,HB4.out⟩,by simp[intOf];omega⟩
       ·subst hf;have h0:=HKEY.out rfl;obtain⟨a',cap',e,_,_,_,hc⟩:=id HSVY.out;injection e with e1 e2 e3
        subst e1 e3;obtain⟨b0,off0,rfl,hb0,hcc0⟩:=hc h0;obtain⟨r0,r1⟩:=hcc0 0 h0;rw[show off0+0*2=off0 by omega]at r0 r1;clear hc hcc0 e2;have HK0:Hid (msl.getD 0 bU=msl.getD 0 bU):=rfl;obtain⟨e0,he0⟩:∃e0,msl.getD 0 bU=e0:=⟨_,rfl⟩
        rw[he0]at r0 r1;obtain⟨k0,n0⟩:=e0;simp only at r0 r1;have h1n:(1:Nat)≤msl.length:=h0;have HS0:=fC (aj HOY.out) (by omega) n0;by_cases hk2:k0=2
        ·subst hk2;by_cases hn0:n0 ∈ ys
         ·rw[decide_eq_true hn0]at HS0;obtain⟨hFl,hsf,hdf⟩:=HFK.out ys HGY.out hin 1 (.inr (.inr (.inl ⟨rfl,rfl,fun h=>h.2 (by show (msl.getD 0 bU).2 ∈ ys;rw[he0];exact hn0)⟩)));have HSF:Hid _:=hsf;have HDF:Hid _:=hdf;clear hsf hdf HFK HKEY HFMT HNO;go_wp2_with (go_at_call 61;refine HS0.mono ?_;clear HS0;rintro e w5 ⟨rfl,hw5⟩;rw[hw5];clear hw5);go_loopw [3,10] (fun v p wr=>∃(i:Nat) (vv:Value) (us:List Int),vv=v∧i≤msl.length∧1≤i∧p = .int .i64 i∧rows.Own wr w.heap.size vv us∧Good G us∧iS us L∧ys.length≤us.length∧(us.length=ys.length→us=ys∧∀j,1≤j→j<i→(msl.getD j bU).1=2→(msl.getD j bU).2 ∈ ys)∧Below X2.heap.size X2 wr∧Below Y.heap.size Y wr) (fun _ p _=>msl.length-(intOf p).toNat);case atStart=>exact⟨1,_,ys,rfl,hFl,Nat.le_refl _,by go_num,HOY.out,HGY.out,HGO.out,Nat.le_refl _,fun _=>⟨rfl,fun j h1 h2=>absurd h2 (by omega)⟩,HBY.out,Below.refl _ _⟩
          case round=>
           obtain⟨i,vv,us,rfl,hi,hFi,rfl,hO,hgood,hgo,hle2,hsm2,hB,hBY⟩:=hrel;have hgl3:=HGL.out us hgood
           obtain⟨va3,vc3,hvv⟩:∃a c,vv = .slice a us.length c:=by
            obtain⟨a,c,e,_⟩:=aj hO;exact⟨a,c,e⟩
           subst hvv;obtain⟨_,_,_,_,t4,_⟩:=ak (aJ HTY.out hBY);have HO4:Hid _:=hO;have HG4:Hid _:=hgood;have HGO4:Hid _:=hgo;have HSM4:Hid _:=hsm2;have HB4:Hid _:=hB;have HBY4:Hid _:=hBY;by_cases hlt4:i<msl.length
           ·obtain⟨a',cap',e,_,_,_,hc⟩:=aU HSVY.out hBY;injection e with e1 e2 e3
            subst e1 e3;obtain⟨b4,off4,e4,hb4,hcc4⟩:=hc (by omega);injection e4 with e4
            injection e4 with e5 e6
            subst e5 e6;obtain⟨y0,y1⟩:=hcc4 i hlt4
            have hme:msl.getD i bU ∈ msl.drop 1:=by
             rw[List.getD_eq_getElem?_getD,List.getElem?_eq_getElem hlt4];exact List.mem_iff_getElem.2 ⟨i-1,by rw[List.length_drop];omega,by rw[List.getElem_drop];exact getElem_congr_idx (by omega)⟩
            have hput:=HSF.out _ hme
            have HNXN:Hid (¬(msl.getD i bU).1=2→us.length=ys.length→us=ys∧∀j,1≤j→j<i+1→(msl.getD j bU).1=2→(msl.getD j bU).2 ∈ ys):=fun hn e=>by
             obtain⟨e1,h1⟩:=HSM4.out e;refine⟨e1,fun j h2 h3 h4 => ?_⟩
             by_cases ej:j=i
             ·rw[ej]at h4;exact absurd h4 hn
             ·exact h1 j h2 (by omega) h4
            have HNXY:Hid ((putI (msl.getD i bU).2 us).length=ys.length→putI (msl.getD i bU).2 us=ys∧∀j,1≤j→j<i+1→(msl.getD j bU).1=2→(msl.getD j bU).2 ∈ ys):=fun e=>by
             have hl:= @gH (msl.getD i bU).2 us;have eu:us.length=ys.length:=by omega
             obtain⟨e1,h1⟩:=HSM4.out eu;have e2:=hl.2.2 (by omega);refine⟨e2.trans e1,fun j h2 h3 h4 => ?_⟩
             by_cases ej:j=i
             ·have:(msl.getD i bU).2 ∈ putI (msl.getD i bU).2 us:=dP.2 (.inl rfl)
              rw[e2,e1]at this;rw[ej];exact this
             ·exact h1 j h2 (by omega) h4
            clear hc hcc4 e2 hme;generalize msl.getD i bU=e0 at *;obtain⟨ek,en⟩:=e0;simp only at y0 y1 hput HNXN HNXY;by_cases he:ek=2
            ·subst he;have sB:=hB.size;have sBY:=hBY.size;have PT:=iZ hO (by omega) (by omega) en
             have HGP:Hid (Good G (putI en us)):=by
              obtain⟨p,hp,e⟩:=hput rfl;exact pB hgood hp e
             have HGG:Hid (iS (putI en us) L):=nG hgo (fun a ha=>dP.2 (.inr ha));have HLE:Hid (ys.length≤(putI en us).length):=Nat.le_trans hle2 (@gH en us).1;clear hO hgood hgo hsm2 hB hBY hput HNXN;go_wp2_with (go_at_call 90;refine PT.mono ?_;clear PT;rintro e w5 ⟨v5,rfl,o5,b5⟩;obtain⟨va5,vn5,vc5,rfl⟩:=nY (aj o5);have HO5:Hid _:=o5;have HB5:Hid _:=HB4.out.trans (b5.mono sB);have HBY5:Hid _:=HBY4.out.trans (b5.mono sBY);clear o5 b5);exact⟨⟨i+1,_,_,rfl,by omega,by omega,by go_num,HO5.out,HGP.out,HGG.out,HLE.out,HNXY.out,HB5.out,HBY5.out⟩,by simp[intOf];omega⟩
            ·have he':(ek==2)=false:=by simpa using he
             have HNX2:Hid _:=HNXN.out he;clear hO hgood hgo hsm2 hB hBY hput HNXN HNXY he;go_wp2;exact⟨⟨i+1,_,us,rfl,by omega,by omega,by go_num,HO4.out,HG4.out,HGO4.out,hle2,HNX2.out,HB4.out,HBY4.out⟩,by simp[intOf];omega⟩
           ·have e:i=msl.length:=by omega
            subst e
            have HX:Hid (us.length=xs.length→us=xs∧∀j,j<k+1→qp G xs j):=fun e=>by
             obtain⟨e1,h1⟩:=HSM4.out (by omega);obtain⟨e2,h2⟩:=HSM.out (by omega);refine⟨e1.trans e2,fun j hj => ?_⟩
             by_cases ej:j=k
             ·rw[ej,←e2];refine HDF.out fun r hr h3 => ?_
              obtain⟨n',hn',rfl⟩:=List.getElem_of_mem hr;rw[List.length_drop]at hn';rw[List.getElem_drop]at h3 ⊢;have hq:=h1 (1+n') (by omega) (by omega);rw[List.getD_eq_getElem?_getD,List.getElem?_eq_getElem (by omega)]at hq;exact hq h3
             ·exact h2 j (by omega)
            clear hO hgood hgo hsm2 hB hBY;go_wp2;exact⟨⟨k+1,_,us,rfl,by omega,by go_num,HO4.out,HG4.out,HGO4.out,by omega,HX.out,HB4.out⟩,by simp[intOf];omega⟩
         ·rw[decide_eq_false hn0]at HS0;obtain⟨hFl,hsf,hdf⟩:=HFK.out ys HGY.out hin msl.length (.inr (.inr (.inr ⟨rfl,rfl,by show (msl.getD 0 bU).1=2;rw[he0],by show (msl.getD 0 bU).2 ∉ ys;rw[he0];exact hn0⟩)));have HSF:Hid _:=hsf;have HDF:Hid _:=hdf;clear hsf hdf HFK HKEY HFMT HNO;go_wp2_with (go_at_call 61;refine HS0.mono ?_;clear HS0;rintro e w5 ⟨rfl,hw5⟩;rw[hw5];clear hw5);go_loopw [3,10] (fun v p wr=>∃(i:Nat) (vv:Value) (us:List Int),vv=v∧i≤msl.length∧msl.length≤i∧p = .int .i64 i∧rows.Own wr w.heap.size vv us∧Good G us∧iS us L∧ys.length≤us.length∧(us.length=ys.length→us=ys∧∀j,msl.length≤j→j<i→(msl.getD j bU).1=2→(msl.getD j bU).2 ∈ ys)∧Below X2.heap.size X2 wr∧Below Y.heap.size Y wr) (fun _ p _=>msl.length-(intOf p).toNat);case atStart=>exact⟨msl.length,_,ys,rfl,hFl,Nat.le_refl _,by go_num,HOY.out,HGY.out,HGO.out,Nat.le_refl _,fun _=>⟨rfl,fun j h1 h2=>absurd h2 (by omega)⟩,HBY.out,Below.refl _ _⟩
          case round=>
           obtain⟨i,vv,us,rfl,hi,hFi,rfl,hO,hgood,hgo,hle2,hsm2,hB,hBY⟩:=hrel;have hgl3:=HGL.out us hgood
           obtain⟨va3,vc3,hvv⟩:∃a c,vv = .slice a us.length c:=by
            obtain⟨a,c,e,_⟩:=aj hO;exact⟨a,c,e⟩
           subst hvv;obtain⟨_,_,_,_,t4,_⟩:=ak (aJ HTY.out hBY);have HO4:Hid _:=hO;have HG4:Hid _:=hgood;have HGO4:Hid _:=hgo;have HSM4:Hid _:=hsm2;have HB4:Hid _:=hB;have HBY4:Hid _:=hBY;by_cases hlt4:i<msl.length
           ·exact absurd hlt4 (by omega)
           ·have e:i=msl.length:=by omega
            subst e
            have HX:Hid (us.length=xs.length→us=xs∧∀j,j<k+1→qp G xs j):=fun e=>by
             obtain⟨e1,h1⟩:=HSM4.out (by omega);obtain⟨e2,h2⟩:=HSM.out (by omega);refine⟨e1.trans e2,fun j hj => ?_⟩
             by_cases ej:j=k
             ·rw[ej,←e2];refine HDF.out fun r hr h3 => ?_
              obtain⟨n',hn',rfl⟩:=List.getElem_of_mem hr;rw[List.length_drop]at hn';rw[List.getElem_drop]at h3 ⊢;have hq:=h1 (msl.length+n') (by omega) (by omega);rw[List.getD_eq_getElem?_getD,List.getElem?_eq_getElem (by omega)]at hq;exact hq h3
             ·exact h2 j (by omega)
            clear hO hgood hgo hsm2 hB hBY;go_wp2;exact⟨⟨k+1,_,us,rfl,by omega,by go_num,HO4.out,HG4.out,HGO4.out,by omega,HX.out,HB4.out⟩,by simp[intOf];omega⟩
        ·have hk2':(k0==2)=false:=by simpa using hk2
         obtain⟨hFl,hsf,hdf⟩:=HFK.out ys HGY.out hin 1 (.inr (.inr (.inl ⟨rfl,rfl,fun h=>hk2 (by have:=h.1;rw[show (MO.abs ⟨mi,mc,2,mh,_,msl⟩).slots=msl from rfl,he0]at this;exact this)⟩)));have HSF:Hid _:=hsf;have HDF:Hid _:=hdf;clear hsf hdf HFK HKEY HFMT HNO;go_wp2_with fail;go_loopw [3,10] (fun v p wr=>∃(i:Nat) (vv:Value) (us:List Int),vv=v∧i≤msl.length∧1≤i∧p = .int .i64 i∧rows.Own wr w.heap.size vv us∧Good G us∧iS us L∧ys.length≤us.length∧(us.length=ys.length→us=ys∧∀j,1≤j→j<i→(msl.getD j bU).1=2→(msl.getD j bU).2 ∈ ys)∧Below X2.heap.size X2 wr∧Below Y.heap.size Y wr) (fun _ p _=>msl.length-(intOf p).toNat);case atStart=>exact⟨1,_,ys,rfl,hFl,Nat.le_refl _,by go_num,HOY.out,HGY.out,HGO.out,Nat.le_refl _,fun _=>⟨rfl,fun j h1 h2=>absurd h2 (by omega)⟩,HBY.out,Below.refl _ _⟩
         case round=>
          obtain⟨i,vv,us,rfl,hi,hFi,rfl,hO,hgood,hgo,hle2,hsm2,hB,hBY⟩:=hrel;have hgl3:=HGL.out us hgood
          obtain⟨va3,vc3,hvv⟩:∃a c,vv = .slice a us.length c:=by
           obtain⟨a,c,e,_⟩:=aj hO;exact⟨a,c,e⟩
          subst hvv;obtain⟨_,_,_,_,t4,_⟩:=ak (aJ HTY.out hBY);have HO4:Hid _:=hO;have HG4:Hid _:=hgood;have HGO4:Hid _:=hgo;have HSM4:Hid _:=hsm2;have HB4:Hid _:=hB;have HBY4:Hid _:=hBY;by_cases hlt4:i<msl.length
          ·obtain⟨a',cap',e,_,_,_,hc⟩:=aU HSVY.out hBY;injection e with e1 e2 e3
           subst e1 e3;obtain⟨b4,off4,e4,hb4,hcc4⟩:=hc (by omega);injection e4 with e4
           injection e4 with e5 e6
           subst e5 e6;obtain⟨y0,y1⟩:=hcc4 i hlt4
           have hme:msl.getD i bU ∈ msl.drop 1:=by
            rw[List.getD_eq_getElem?_getD,List.getElem?_eq_getElem hlt4];exact List.mem_iff_getElem.2 ⟨i-1,by rw[List.length_drop];omega,by rw[List.getElem_drop];exact getElem_congr_idx (by omega)⟩
           have hput:=HSF.out _ hme
           have HNXN:Hid (¬(msl.getD i bU).1=2→us.length=ys.length→us=ys∧∀j,1≤j→j<i+1→(msl.getD j bU).1=2→(msl.getD j bU).2 ∈ ys):=fun hn e=>by
            obtain⟨e1,h1⟩:=HSM4.out e;refine⟨e1,fun j h2 h3 h4 => ?_⟩
            by_cases ej:j=i
            ·rw[ej]at h4;exact absurd h4 hn
            ·exact h1 j h2 (by omega) h4
           have HNXY:Hid ((putI (msl.getD i bU).2 us).length=ys.length→putI (msl.getD i bU).2 us=ys∧∀j,1≤j→j<i+1→(msl.getD j bU).1=2→(msl.getD j bU).2 ∈ ys):=fun e=>by
            have hl:= @gH (msl.getD i bU).2 us;have eu:us.length=ys.length:=by omega
            obtain⟨e1,h1⟩:=HSM4.out eu;have e2:=hl.2.2 (by omega);refine⟨e2.trans e1,fun j h2 h3 h4 => ?_⟩
            by_cases ej:j=i
            ·have:(msl.getD i bU).2 ∈ putI (msl.getD i bU).2 us:=dP.2 (.inl rfl)
             rw[e2,e1]at this;rw[ej];exact this
            ·exact h1 j h2 (by omega) h4
           clear hc hcc4 e2 hme;generalize msl.getD i bU=e0 at *;obtain⟨ek,en⟩:=e0;simp only at y0 y1 hput HNXN HNXY;by_cases he:ek=2
           ·subst he;have sB:=hB.size;have sBY:=hBY.size;have PT:=iZ hO (by omega) (by omega) en
            have HGP:Hid (Good G (putI en us)):=by
             obtain⟨p,hp,e⟩:=hput rfl;exact pB hgood hp e
            have HGG:Hid (iS (putI en us) L):=nG hgo (fun a ha=>dP.2 (.inr ha));have HLE:Hid (ys.length≤(putI en us).length):=Nat.le_trans hle2 (@gH en us).1;clear hO hgood hgo hsm2 hB hBY hput HNXN;go_wp2_with (go_at_call 90;refine PT.mono ?_;clear PT;rintro e w5 ⟨v5,rfl,o5,b5⟩;obtain⟨va5,vn5,vc5,rfl⟩:=nY (aj o5);have HO5:Hid _:=o5;have HB5:Hid _:=HB4.out.trans (b5.mono sB);have HBY5:Hid _:=HBY4.out.trans (b5.mono sBY);clear o5 b5);exact⟨⟨i+1,_,_,rfl,by omega,by omega,by go_num,HO5.out,HGP.out,HGG.out,HLE.out,HNXY.out,HB5.out,HBY5.out⟩,by simp[intOf];omega⟩
           ·have he':(ek==2)=false:=by simpa using he
            have HNX2:Hid _:=HNXN.out he;clear hO hgood hgo hsm2 hB hBY hput HNXN HNXY he;go_wp2;exact⟨⟨i+1,_,us,rfl,by omega,by omega,by go_num,HO4.out,HG4.out,HGO4.out,hle2,HNX2.out,HB4.out,HBY4.out⟩,by simp[intOf];omega⟩
          ·have e:i=msl.length:=by omega
           subst e
           have HX:Hid (us.length=xs.length→us=xs∧∀j,j<k+1→qp G xs j):=fun e=>by
            obtain⟨e1,h1⟩:=HSM4.out (by omega);obtain⟨e2,h2⟩:=HSM.out (by omega);refine⟨e1.trans e2,fun j hj => ?_⟩
            by_cases ej:j=k
            ·rw[ej,←e2];refine HDF.out fun r hr h3 => ?_
             obtain⟨n',hn',rfl⟩:=List.getElem_of_mem hr;rw[List.length_drop]at hn';rw[List.getElem_drop]at h3 ⊢;have hq:=h1 (1+n') (by omega) (by omega);rw[List.getD_eq_getElem?_getD,List.getElem?_eq_getElem (by omega)]at hq;exact hq h3
            ·exact h2 j (by omega)
           clear hO hgood hgo hsm2 hB hBY;go_wp2;exact⟨⟨k+1,_,us,rfl,by omega,by go_num,HO4.out,HG4.out,HGO4.out,by omega,HX.out,HB4.out⟩,by simp[intOf];omega⟩
      ·rw[decide_eq_false hin]
       have HX:Hid (ys.length=xs.length→ys=xs∧∀j,j<k+1→qp G xs j):=fun e=>by
        obtain⟨e1,h1⟩:=HSM.out e;refine⟨e1,fun j hj => ?_⟩
        by_cases ej:j=k
        ·rw[ej,←e1];exact HNO.out hin
        ·exact h1 j (by omega)
       clear hin;go_wp2;exact⟨⟨k+1,_,ys,rfl,by omega,by go_num,HOY.out,HGY.out,HGO.out,hle,HX.out,HBY.out⟩,by simp[intOf];omega⟩
     ·have e:k=ms.length:=by omega
      subst e;by_cases he:ys.length=xs.length
      ·obtain⟨e1,hd⟩:=hsame he;subst e1;have hfin:ys=zs:=zV (Eh HOK.out hgood (by rw[HLL.out];exact hgo) (fun j hj=>hd j (by rw[HLEN.out];exact hj))) HZ.out;subst hfin;have HF:Hid (rows.Own wr w.heap.size (.slice va2 ys.length vc2) ys):=hO;have HFB:Hid (Below w.heap.size w wr):=HB2.out.trans (hB.mono sz2);have hll:((ys.length:Int)==(ys.length:Int))=true:=by simp
       clear hO hgood hgo hsame hB hd he;go_wp2;go_ret;exact⟨_,rfl,HF.out,HFB.out⟩
      ·have hll:((ys.length:Int)==(xs.length:Int))=false:=by
         rw[beq_eq_false_iff_ne];omega
       have hlt2:xs.length<ys.length:=by omega
       clear hO hgood hgo hsame hB;go_wp2;exact⟨⟨_,ys,rfl,HO.out,HGY.out,HGO.out,HB.out⟩,by simp[slen];omega⟩
end Go.Proofs.YtocidankimefpaaGreatDoor.gr
