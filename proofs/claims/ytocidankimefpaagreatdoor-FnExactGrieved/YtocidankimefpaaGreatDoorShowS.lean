/- Chapter 10 as the specification has it:  -/
import Derived.Test.YtocidankimefpaaGreatDoorM19
import Derived.Test.YtocidankimefpaaGreatDoorM14
set_option linter.unusedSimpArgs false
set_option linter.unusedVariables false
set_option maxRecDepth 100000
namespace Go.Proofs.YtocidankimefpaaGreatDoor.hp
open Go.RowKit rows heads words walks region
theorem vV (s f c h:Int) (p m:Bool) (w:World):(Instr.field 54 (hv s f c h p m) 0).run Tryz.prog w = .ok (.int .i64 s) w:=rfl
theorem vW {ops:Array Oper} {o:Oper} {a:Act} {w:World} {K:Act→World→Prop} {Q:Exit→Act→World→Prop} {E:Prop} (hgd:o.guard=none) (s x:Operand)
    (ho:o.op = .call { callee:=.builtin .append,args:=#[s,x],argTypes:=#[22,22] })
    (base:Nat) (v:Value) (es:List Int) (hs:a.eval s=v) (hown:rows.Own w base v es) (av:Option Addr) (nv cv:Nat) (fs:List Int) (hx:a.eval x = .slice av nv cv) (hR:au w (.slice av nv cv) fs)
    (hb:es.length+fs.length≤1048576) (hbase:base≤w.heap.size)
    (h:∀va vn vc w',rows.Own w' base (.slice va vn vc) (es++fs)→Ch (blk v) w w'→K (a.put o.dst (.slice va vn vc)) w') :
    if Region.wanted o (yielded ops a.tmps)=true then Oper.wp Tryz.prog o a w K Q else E:=by
 obtain⟨i0,hi,hz0,hz1,hz2⟩:=info_parts info;have hw:Region.wanted o (yielded ops a.tmps)=true:=by simp[Region.wanted,hgd]
 have h':=hR;obtain⟨a',c',e',hlc,hcm,hnil,_⟩:=hR;injection e' with e1 e2 e3
 subst e1 e2 e3;cases av with
 |none=>
  have hcap:=hnil rfl;have ef:fs=[]:=List.eq_nil_of_length_eq_zero (by omega);subst hcap ef;rw[if_pos hw];have hrun:=run_append_owned_none (P:=Tryz.prog) (w:=w) base 22 o.type 2 i0 1 Tryz.underlying22 hi v es.length (cellsOf es) hown;obtain⟨va,vn,vc,rfl⟩:=bl (aj hown);have hk:=h va vn vc w (by rw[List.append_nil];exact hown) (Ch.refl _ _);unfold Oper.wp;simp[execOp,ho,resolve,invoke,builtin,hs,hx,hrun,Result.andThen];exact hk
 |some ad=>
  rw[if_pos hw];obtain⟨v',w',hr,h2,h3,_,_⟩:=run_append_own_at (P:=Tryz.prog) w base 22 o.type 2 i0 (.int .i64 0) 1 8 Tryz.underlying22 hi hz0 hz1 hz2 rfl (by decide) v es.length (cellsOf es) hown ad fs.length cv (cellsOf fs) (by simp) (cA h') (ints_oneCell .i64 fs) (by unfold maxLen;omega) (by omega) hbase
  have O':rows.Own w' base v' (es++fs):=by
   show World.ownsRow _ _ _ _ _ _ _
   rw[List.length_append,show cellsOf (es++fs)=cellsOf es++cellsOf fs by simp[cellsOf]];exact h2
  obtain⟨va,vn,vc,rfl⟩:=bl (aj O');unfold Oper.wp;simp[execOp,ho,resolve,invoke,builtin,hs,hx,hr,Result.andThen];exact h va vn vc w' O' (cJ h3)
theorem Aw {xs:List Int} {j:Nat} (h:chunk xs j≠0) (h6:uF (xs.getD j 0)≠6) (h7:uF (xs.getD j 0)≠7):(uF (xs.getD j 0)=0∨uF (xs.getD j 0)=1∨uF (xs.getD j 0)=2)∧(uF (xs.getD j 0)=2→1≤uS (xs.getD j 0))∧0≤uS (xs.getD j 0)∧uS (xs.getD j 0)≤20:=by
 unfold chunk at h;split at h
 ·rename_i h0
  rw[Bool.and_eq_true]at h0;have h1:=h0.1;rw[ok_eq,Bool.and_eq_true]at h1
  have hu:uS (xs.getD j 0)=bS (xs.getD j 0)∧uF (xs.getD j 0)=bF (xs.getD j 0):=by
   unfold uS uF;rw[if_pos h0.1,if_pos h0.1];exact⟨rfl,rfl⟩
  rw[hu.2]at h6 h7;rw[hu.1,hu.2];have hh:=h1.2;have hb:=iq hh;unfold hok at hh;rw[if_neg h6]at hh;simp only[Bool.and_eq_true,Bool.or_eq_true,decide_eq_true_eq,beq_iff_eq]at hh;omega
 ·exact absurd rfl h
theorem D8 {M:List Int} {t:Option Int} (h:t=none):meet M t=M:=by subst h;rfl
theorem zj {M:List Int} {t:Option Int} {a:Int} (h:t=some a) (hm:a ∈ M):meet M t=M:=by subst h;unfold meet;simp only;rw[if_pos hm]
theorem zk {M:List Int} {t:Option Int} {a:Int} (h:t=some a) (hm:a ∉ M):meet M t=M++[a]:=by subst h;unfold meet;simp only;rw[if_neg hm]
set_option maxHeartbeats 64000000 in
theorem vX {w:World} {vr vo vm vs:Value} {H:Hp} (h:eW w vr vo vm vs H) {ps:List Int} (R:Rt H ps) :
    Calls Tryz.prog 42 #[hpv H vr vo vm vs] w fun e w'=>∃v',e = .returned v'∧rows.Own w' w.heap.size v' (bN H)∧Below w.heap.size w w':=by
 obtain⟨a1,c1,a2,c2,a3,c3,a4,c4,e1,e2,e3,e4⟩:=aK h;subst e1 e2 e3 e4;have N:=(bQ R.some').1;have hro:H.roots.length=6:=N.roots;have hmo:=N.a7;have hrl:H.row.length≤1000:=R.len;have B0:Below w.heap.size w ((w.alloc (hpb H (.slice a1 H.row.length c1) (.slice a2 H.roots.length c2) (.slice a3 H.a7.length c3) (.slice a4 H.seen.length c4))).alloc (.cells #[] 2)):=((Below.refl _ _).alloc (Nat.le_refl _) _).alloc (by simp) _;have HO1:Hid (rows.Own ((w.alloc (hpb H (.slice a1 H.row.length c1) (.slice a2 H.roots.length c2) (.slice a3 H.a7.length c3) (.slice a4 H.seen.length c4))).alloc (.cells #[] 2)) w.heap.size (.slice (some ⟨w.heap.size+1,0,none⟩) 0 0) []):=iE (by simp) (by omega);have HT1:Hid (eJ ((w.alloc (hpb H (.slice a1 H.row.length c1) (.slice a2 H.roots.length c2) (.slice a3 H.a7.length c3) (.slice a4 H.seen.length c4))).alloc (.cells #[] 2)) w.heap.size 26 (.int .i64 H.half) (.int .i64 H.old) (.slice a1 H.row.length c1) (.int .i64 H.side) (.int .i64 H.top) (.slice a2 H.roots.length c2) (.slice a3 H.a7.length c3) (.slice a4 H.seen.length c4) (.int .i64 H.seed)):=ai (de w H _ _ _ _) ((Below.refl _ _).alloc (Nat.le_refl _) _);have HB1:Hid _:=B0;have HH1:Hid _:=aD h B0;have HH0:Hid _:=h;have HR:Hid _:=R;have HLN:Hid (∀xs,Og H ps xs→xs.length≤500):=fun xs hx=>hx.len R
 have hA46:(H.roots++H.a7).length≤46:=by rw[List.length_append];omega
 have HRO:Hid _:=hro;have HSZ1:Hid (w.heap.size+2≤((w.alloc (hpb H (.slice a1 H.row.length c1) (.slice a2 H.roots.length c2) (.slice a3 H.a7.length c3) (.slice a4 H.seen.length c4))).alloc (.cells #[] 2)).heap.size):=by show _≤_;simp
 obtain⟨RR,hRR⟩:∃RR,bN H=RR:=⟨_,rfl⟩
 rw[hRR];have HRR:Hid (ordN H 1000 0 (aW H [] (H.roots++H.a7))=RR):=hRR;clear B0 h R N hro hRR;go_enter Tryz.func42,Tryz.ntmps42;go_upto_region 2 with fail
 generalize ((w.alloc (hpb H (.slice a1 H.row.length c1) (.slice a2 H.roots.length c2) (.slice a3 H.a7.length c3) (.slice a4 H.seen.length c4))).alloc (.cells #[] 2))=X1 at *;have NL:Below X1.heap.size X1 (X1.alloc (.cells #[] 2)).drew:=((Below.refl _ _).alloc (Nat.le_refl _) _).drew;obtain⟨⟨z0,z1,z2,z3,z4⟩,⟨z5,z6,z7,z8⟩,_⟩:=ag HT1.out;obtain⟨⟨y0,y1,y2,y3,y4⟩,⟨y5,y6,y7,y8⟩,_⟩:=ag (ai HT1.out ((Below.refl _ X1).alloc (Nat.le_refl _) (.cells #[] 2)));have HLIT:Hid (rows.Own (X1.alloc (.cells #[] 2)).drew X1.heap.size (.slice (some ⟨X1.heap.size,0,none⟩) 0 0) []):=fR X1 X1.heap.size (Nat.le_refl _);have HRT:Hid _:=aa HH1.out.2.1 NL;have HNL:Hid _:=NL;have hnl:=NL.size;clear NL;go_cut [4] from 13 to 19 (fun v wx=>∃avl nv cv,v = .slice avl nv cv∧Hid (rows.Own wx X1.heap.size (.slice avl nv cv) (H.roots++H.a7))∧Hid (Below X1.heap.size X1 wx))
 case first=>
  go_region_law (first
   |(refine vW rfl (.tmp 13) (.tmp 15) rfl X1.heap.size _ [] rfl HLIT.out a2 H.roots.length c2 H.roots rfl HRT.out (by have:=HRO.out;simp;omega) hnl ?_
     intro va vn vc w3 hO hc;have B3:Below X1.heap.size X1 w3:=HNL.out.trans (bn hc hnl (fun k hk=>(aM HLIT.out k hk).1));have HM3:Hid _:=aa HH1.out.2.2.1 B3;obtain⟨⟨x0,x1,x2,x3,x4⟩,⟨x5,x6,x7,x8⟩,_⟩:=ag (ai HT1.out B3);have HB3:Hid _:=B3;have HOW3:Hid (rows.Own w3 X1.heap.size (.slice va vn vc) H.roots):=hO;have hs3:=B3.size;clear hO hc B3)
   |(refine vW rfl (.tmp 16) (.tmp 18) rfl X1.heap.size _ H.roots rfl HOW3.out a3 H.a7.length c3 H.a7 rfl HM3.out (by have:=HRO.out;omega) hs3 ?_
     intro va4 vn4 vc4 w4 hO4 hc4;have HR4:Hid _:=hO4;have HB4:Hid (Below X1.heap.size X1 w4):=HB3.out.trans (bn hc4 hs3 (fun k hk=>(aM HOW3.out k hk).1));clear hO4 hc4))
  all_goals go_wp2
  all_goals go_meet
  all_goals exact⟨va4,vn4,vc4,rfl,HR4,HB4⟩
 obtain⟨avl,nv,cv,rfl,HALL,HBX⟩:=hcut;obtain⟨X2,hX2⟩:∃X2,X2=wc:=⟨_,rfl⟩
 subst hX2;clear z0 z1 z2 z3 z4 z5 z6 z7 z8 y0 y1 y2 y3 y4 y5 y6 y7 y8 HLIT HRT HNL
 have hnv:nv=(H.roots++H.a7).length:=by
  obtain⟨_,_,e,_⟩:=aj HALL.out;injection e with _ e _
 subst hnv;have HO2:Hid _:=aB HO1.out HBX.out;have HB2:Hid (Below w.heap.size w X2):=HB1.out.trans (HBX.out.mono HB1.out.size);have HT2:Hid _:=ai HT1.out HBX.out;have HH2:Hid _:=aD HH1.out HBX.out;have HHW:Hid (∀q,q<w.heap.size+1→True):=fun _ _=>trivial
 have sz2:=HB2.out.size
 have HKE:Hid (∀(V:World),Ch [w.heap.size+1] X2 V→eJ V w.heap.size 26 (.int .i64 H.half) (.int .i64 H.old) (.slice a1 H.row.length c1) (.int .i64 H.side) (.int .i64 H.top) (.slice a2 H.roots.length c2) (.slice a3 H.a7.length c3) (.slice a4 H.seen.length c4) (.int .i64 H.seed)∧eW V (.slice a1 H.row.length c1) (.slice a2 H.roots.length c2) (.slice a3 H.a7.length c3) (.slice a4 H.seen.length c4) H∧au V (.slice avl (H.roots++H.a7).length cv) (H.roots++H.a7)∧Below w.heap.size w V):=fun V hV=>by
  have hsz:=HSZ1.out;have b0:Below w.heap.size w V:=HB2.out.trans (bn hV sz2 (fun q hq=>by have e:q=w.heap.size+1:=(by simpa using hq);omega));refine⟨cx HT2.out hV (by simp),aD HH0.out b0,aj (aE HALL.out hV (fun q hq hc=>by have:=(aM HALL.out q hq).1;have e:q=w.heap.size+1:=(by simpa using hc);omega)),b0⟩
 have HWA:Hid (∀k,k<(H.roots++H.a7).length→aP H ps ((H.roots++H.a7).getD k 0)=true∧∀b,tgt H ((H.roots++H.a7).getD k 0)=some b→pg H ps b):=fun k hk=>by
  have hm:(H.roots++H.a7).getD k 0 ∈ H.roots++H.a7:=by
   rw[List.getD_eq_getElem?_getD,List.getElem?_eq_getElem hk];exact List.getElem_mem hk
  exact⟨HR.out.km hm,HR.out.uj _ hm⟩
 have HFO:Hid (∀(V:World),eW V (.slice a1 H.row.length c1) (.slice a2 H.roots.length c2) (.slice a3 H.a7.length c3) (.slice a4 H.seen.length c4) H→∀x,aP H ps x=true→∀E:Ext V.heap.size V,Calls Tryz.prog 91 #[hpv H (.slice a1 H.row.length c1) (.slice a2 H.roots.length c2) (.slice a3 H.a7.length c3) (.slice a4 H.seen.length c4),.int .i64 x] E.to fun e w''=>e = .returned (.int .i64 (fol H x))∧∃y:Ext V.heap.size V,w''=y.to):=fun V hV x hx E=>bJ (Nat.le_refl _) (mQ (aD hV E.below) HR.out x hx)
 have HSA:Hid (∀(V:World) (z:Int) (E:Ext V.heap.size V),Calls Tryz.prog 87 #[.int .i64 z] E.to fun e w''=>e = .returned (.tuple #[.int .i64 (av z),.bool (isA z)])∧∃y:Ext V.heap.size V,w''=y.to):=fun V z E=>(dG z E.to).mono fun e w' ⟨he,hw⟩=>⟨he,E,hw⟩
 -- one more behind the list
 have HAP:Hid (∀(V:World) (va:Option Addr) (vn vc:Nat) (M:List Int) (x:Int),Ch [w.heap.size+1] X2 V→(∀q ∈ blk (.slice va vn vc),q=w.heap.size+1∨X2.heap.size≤q)→rows.Own V w.heap.size (.slice va vn vc) M→∀(a6:Option Addr) (c6:Nat) (w6:World),w6.ownsRow w.heap.size 2 1 (.slice a6 (M.length+1) c6) (M.length+1) (cellsOf (M++[x]))→Ch (blk (.slice va vn vc)) (V.alloc (.cells #[.int .i64 x] 2)) w6→(∀q ∈ blk (.slice a6 (M.length+1) c6),q ∈ blk (.slice va vn vc)∨(V.alloc (.cells #[.int .i64 x] 2)).heap.size≤q)→rows.Own w6 w.heap.size (.slice a6 (M.length+1) c6) (M++[x])∧Ch [w.heap.size+1] X2 w6∧∀q ∈ blk (.slice a6 (M.length+1) c6),q=w.heap.size+1∨X2.heap.size≤q):=fun V va vn vc M x hC hQ hO a6 c6 w6 h1 h2 h3=>by
  have B5:Below V.heap.size V (V.alloc (.cells #[.int .i64 x] 2)):=(Below.refl _ _).alloc (Nat.le_refl _) _;refine⟨?_,⟨h2.os.trans (B5.os.trans hC.os),h2.tape.trans (B5.tape.trans hC.tape),h2.output.trans (B5.output.trans hC.output),Nat.le_trans hC.size (Nat.le_trans B5.size h2.size),fun q hq hn => ?_⟩,fun q hq => ?_⟩
  ·show World.ownsRow _ _ _ _ _ _ _
   rw[List.length_append];exact h1
  ·have h4:q<V.heap.size:=Nat.lt_of_lt_of_le hq hC.size
   have h5:q ∉ blk (Value.slice va vn vc):=fun hc=>by
    rcases hQ q hc with e|e
    ·exact hn (by simp[e])
    ·omega
   exact (h2.block q (Nat.lt_of_lt_of_le h4 B5.size) h5).trans ((B5.block q h4).trans (hC.block q hq hn))
  ·rcases h3 q hq with e|e
   ·exact hQ q e
   ·exact .inr (Nat.le_trans hC.size (Nat.le_trans B5.size e))
 clear HO1 HB1 HT1 HBX HH1 HT2 hmo HALL;generalize hAA:H.roots++H.a7=A at *;clear hAA;go_wp2_with fail;go_loopw [3,5,6,7] (fun v p _ _ wr=>∃(k:Nat) (vv:Value),vv=v∧k≤A.length∧p = .int .i64 k∧rows.Own wr w.heap.size vv (aW H [] (A.take k))∧Og H ps (aW H [] (A.take k))∧Ch [w.heap.size+1] X2 wr∧∀q ∈ blk vv,q=w.heap.size+1∨X2.heap.size≤q) (fun _ p _ _ _=>A.length-(intOf p).toNat);case atStart=>exact⟨0,_,rfl,Nat.zero_le _,rfl,HO2.out,⟨by simp[aW],fun a ha=>by simp[aW]at ha⟩,Ch.refl _ _,fun q hq => .inl (by simpa [blk,Value.ownBlock] using hq)⟩
 case round=>
  obtain⟨k,vv,rfl,hk,rfl,hO,hgood,hC,hQ⟩:=hrel;clear HO2;have HO:Hid _:=hO;have HGD:Hid _:=hgood;have HC:Hid _:=hC;have HQ:Hid _:=hQ;have hgl:=HLN.out _ hgood
  obtain⟨va,vc,hvv⟩:∃a c,vv = .slice a (aW H [] (A.take k)).length c:=by
   obtain⟨a,c,e,_⟩:=aj hO;exact⟨a,c,e⟩
  subst hvv;obtain⟨kN,kH,kA,kB⟩:=HKE.out wr hC;by_cases hlt:k<A.length
  ·obtain⟨lb,lo,ea,hlb,x0⟩:=bp kA hlt;subst ea;obtain⟨hwi,hob⟩:=HWA.out k hlt;obtain⟨⟨z0,z1,z2,z3,z4⟩,⟨z5,z6,z7,z8⟩⟩:=dn kN;have Y0:=dU x0;have HF:Hid _:=HFO.out wr kH _ hwi;have HS:Hid _:=HSA.out wr;have hlt':(k:Int)<(A.length:Int):=by omega
   have HNX:Hid _:=tg (H:=H) (M:=[]) hlt;have HGN:Hid (Og H ps (aW H [] (A.take (k+1)))):=by show Og _ _ _;rw[HNX.out];exact hgood.meet hob
   have HTN:Hid (isA (fol H (A.getD k 0))=false→tgt H (A.getD k 0)=none):=fun e=>by unfold tgt;rw[if_neg (by rw[e];decide)]
   have HTS:Hid (isA (fol H (A.getD k 0))=true→tgt H (A.getD k 0)=some (av (fol H (A.getD k 0)))):=fun e=>by unfold tgt;rw[if_pos e]
   have sW:=kB.size;clear hO hgood hC hQ hwi hob kN kH kA kB;generalize A.getD k 0=x at *;generalize fol H x=z at *;obtain⟨M2,hM2⟩:∃M2,aW H [] (A.take (k+1))=M2:=⟨_,rfl⟩
   rw[hM2]at HNX HGN;have HM2:Hid _:=hM2;clear hM2;obtain⟨M1,hM1⟩:∃M1,aW H [] (A.take k)=M1:=⟨_,rfl⟩
   rw[hM1]at HNX HGD HO hgl ⊢;simp only[hM1]at HQ;clear hM1;go_upto_region 6 with fail
   haveI:=fA wr
   refine bY (n:=wr.heap.size) (by kernel_rfl) (by kernel_rfl) ?_;repeat (go_big_quiet_step (first|(go_at_call 91;exact HF.out _)|(go_at_call 87;exact HS.out _ _)))
   refine wpQuiet_nil ?_;intro _ hw';obtain⟨E,rfl⟩:=hw';have HCx:Hid (Ch [w.heap.size+1] X2 E.to):=HC.out.trans (bu E.below);have HOX:Hid _:=aB HO.out E.below;have sX:=E.below.size;clear z0 z1 z2 z3 z4 z5 z6 z7 z8 Y0 HF HS HO HC x0;generalize E.to=W at *;clear E this;cases dA:isA z
   ·have HE:Hid (M2=M1):=by show _=_;rw[HNX.out];exact D8 (HTN.out dA)
    clear dA HNX HTN HTS;go_wp2;exact⟨⟨k+1,_,rfl,by omega,by go_num,by rw[HM2.out,HE.out];exact HOX.out,by rw[HM2.out];exact HGN.out,HCx.out,HQ.out⟩,by simp[intOf];omega⟩
   ·have ht:=HTS.out dA;have HS:=fC (aj HOX.out) (by omega) (av z);by_cases hin:av z ∈ M1
    ·have HE:Hid (M2=M1):=by show _=_;rw[HNX.out];exact zj ht hin
     rw[decide_eq_true hin]at HS;generalize av z=az at *;clear dA HNX HTN HTS ht hin;go_wp2_with (go_at_call 61;refine HS.mono ?_;clear HS;rintro e w4 ⟨rfl,hw4⟩;rw[hw4];clear hw4 w4);exact⟨⟨k+1,_,rfl,by omega,by go_num,by rw[HM2.out,HE.out];exact HOX.out,by rw[HM2.out];exact HGN.out,HCx.out,HQ.out⟩,by simp[intOf];omega⟩
    ·have HE:Hid (M2=M1++[av z]):=by show _=_;rw[HNX.out];exact zk ht hin
     rw[decide_eq_false hin]at HS;generalize av z=az at *;clear dA HNX HTN HTS ht hin;have HVB:Hid ((W.alloc (.cells #[.int .i64 az] 2)).heap[W.heap.size]? = some (.cells #[.int .i64 az] 2 (0,0))):=heap_alloc_new W _;have HOY:Hid _:=aB HOX.out ((Below.refl _ _).alloc (Nat.le_refl _) (.cells #[.int .i64 az] 2));have hbs:w.heap.size≤(W.alloc (.cells #[.int .i64 az] 2)).heap.size:=by have:=((Below.refl W.heap.size W).alloc (Nat.le_refl _) (.cells #[.int .i64 az] 2)).size;omega
     have HAQ:Hid _:=HAP.out W va M1.length vc M1 az HCx.out HQ.out HOX.out
     go_wp2_with (first
      |(go_at_call 61;refine HS.mono ?_;clear HS;rintro e w4 ⟨rfl,hw4⟩;rw[hw4];clear hw4 w4)
      |(at_builtin;refine ry (base:=w.heap.size) (vb:=W.heap.size) hbs HOY.out HVB.out (by omega) rfl _ _ rfl rfl rfl ?_;intro a6 c6 w6 hO6 hC6 hK6;have HR6:Hid _:=HAQ.out a6 c6 w6 hO6 hC6 hK6;clear hO6 hC6 hK6))
     exact⟨⟨k+1,_,rfl,by omega,by go_num,by rw[HM2.out,HE.out];exact HR6.out.1,by rw[HM2.out];exact HGN.out,HR6.out.2.1,HR6.out.2.2⟩,by simp[intOf];omega⟩
  ·have e:k=A.length:=by omega
   subst e;have hlt':¬(A.length:Int)<(A.length:Int):=by omega
   rw[List.take_length]at HO HGD hgl HQ ⊢;have HST:Hid (ordN H (1000-0) 0 (aW H [] A)=RR):=HRR.out;clear hO hgood hC hQ kN kH kA kB HRR HWA;obtain⟨M0,hM0⟩:∃M0,aW H [] A=M0:=⟨_,rfl⟩
   rw[hM0]at HO HGD hgl HST HQ ⊢;clear hM0;go_wp2_with fail;go_loopw [3,8,9,10,11] (fun v p _ _ _ wr=>∃(k:Nat) (vv:Value) (M:List Int),vv=v∧k≤M.length∧p = .int .i64 k∧rows.Own wr w.heap.size vv M∧Og H ps M∧ordN H (1000-k) k M=RR∧Ch [w.heap.size+1] X2 wr∧∀q ∈ blk vv,q=w.heap.size+1∨X2.heap.size≤q) (fun _ p _ _ _ _=>600-(intOf p).toNat);case atStart=>exact⟨0,_,M0,rfl,Nat.zero_le _,rfl,HO.out,HGD.out,HST.out,HC.out,HQ.out⟩
   case round=>
    clear HO HGD HC HST HQ hgl;obtain⟨k,vv,M,rfl,hk,rfl,hO,hgood,hst,hC,hQ⟩:=hrel;have hgl:=HLN.out M hgood
    obtain⟨va2,vc2,hvv⟩:∃a c,vv = .slice a M.length c:=by
     obtain⟨a,c,e,_⟩:=aj hO;exact⟨a,c,e⟩
    subst hvv;have HO:Hid _:=hO;have HGD:Hid _:=hgood;have HC:Hid _:=hC;have HQ:Hid _:=hQ;by_cases hlt2:k<M.length
    ·have hlt2':(k:Int)<(M.length:Int):=by omega
     have hpm:M.getD k 0 ∈ M:=by rw[List.getD_eq_getElem?_getD,List.getElem?_eq_getElem hlt2];exact List.getElem_mem hlt2
     obtain⟨hpp,h6,h7⟩:=hgood.2 _ hpm;obtain⟨j,hj,hjl,hch⟩:=HR.out.plc _ hpp;have HJ:Hid _:=hj;rw[hj]at hpp h6 h7;unfold fm at h6 h7;rw[Int.toNat_natCast]at h6 h7;obtain⟨_,_,hs0,hs20⟩:=Aw hch h6 h7;have qq:=ee hch;obtain⟨sn,hsn⟩:∃sn:Nat,uS (H.row.getD j 0)=(sn:Int):=⟨(uS (H.row.getD j 0)).toNat,by omega⟩
     have hso:slotsOf H (j:Int)=(H.row.drop (j+1)).take sn:=by
      unfold slotsOf cnS;rw[Int.toNat_natCast,if_neg h7,if_neg h6,hsn,Int.toNat_natCast]
     have hjs:j+1+sn≤H.row.length:=by
      have:=qq.2
      unfold cnS at this;rw[if_neg h7,if_neg h6,hsn]at this;omega
     have HST:Hid (ordN H (1000-(k+1)) (k+1) (aW H M (slotsOf H (j:Int)))=RR):=by show _=_;rw[←HJ.out,←wh hlt2 (by omega)];exact hst
     have HTL:Hid ((slotsOf H (j:Int)).length=sn):=by show _=_;rw[hso,List.length_take,List.length_drop];omega
     have HTG:Hid (∀i,i<sn→(slotsOf H (j:Int)).getD i 0=H.row.getD (j+1+i) 0):=fun i hi=>by
      rw[hso,List.getD_eq_getElem?_getD,List.getElem?_take,if_pos hi,List.getElem?_drop,←List.getD_eq_getElem?_getD]
     have HTM:Hid (∀i,i<sn→(slotsOf H (j:Int)).getD i 0 ∈ slotsOf H (j:Int)):=fun i hi=>by
      have:=HTL.out
      rw[List.getD_eq_getElem?_getD,List.getElem?_eq_getElem (by omega)];exact List.getElem_mem _
     have HTW:Hid (∀i,i<sn→aP H ps (H.row.getD (j+1+i) 0)=true∧∀b,tgt H (H.row.getD (j+1+i) 0)=some b→pg H ps b):=fun i hi=>by
      rw[←HTG.out i hi];exact⟨HR.out.uh hpp (HTM.out i hi),HR.out.pI hpp _ (HTM.out i hi)⟩
     have HL4:Hid (∀V,eW V (.slice a1 H.row.length c1) (.slice a2 H.roots.length c2) (.slice a3 H.a7.length c3) (.slice a4 H.seen.length c4) H→∀E:Ext V.heap.size V,Calls Tryz.prog 45 #[(.slice a1 H.row.length c1),.int .i64 (j:Int)] E.to fun e w''=>e = .returned (hv (sn:Int) (uF (H.row.getD j 0)) (uC (H.row.getD j 0)) (uH (H.row.getD j 0)) (uP (H.row.getD j 0)) (uM (H.row.getD j 0)))∧∃y:Ext V.heap.size V,w''=y.to):=fun V hV E=>by
      have:=eD (aa hV.1 E.below) j hjl
      unfold hw at this;rw[hsn]at this;exact bJ (Nat.le_refl _) this
     have FF:=vV (sn:Int) (uF (H.row.getD j 0)) (uC (H.row.getD j 0)) (uH (H.row.getD j 0)) (uP (H.row.getD j 0)) (uM (H.row.getD j 0));have hsn20:sn≤20:=by omega
     have hjl1:j<1000:=by omega
     clear hO hgood hC hQ hst hpp h6 h7 hj hch hs0 hs20 qq hsn hso hpm;generalize uF (H.row.getD j 0)=f at *;generalize uC (H.row.getD j 0)=c at *;generalize uH (H.row.getD j 0)=g at *;generalize uP (H.row.getD j 0)=p at *;generalize uM (H.row.getD j 0)=m at *;obtain⟨T,hTT⟩:∃T,slotsOf H (j:Int)=T:=⟨_,rfl⟩
     rw[hTT]at HTL HST;simp only[hTT]at HTG;clear hTT HTM;go_wp2_with fail;go_loopw [3,9,10,11] (fun o q _ _ wz=>∃(i:Nat) (v:Value),v=o∧i≤sn∧q = .int .i64 (i:Int)∧rows.Own wz w.heap.size v (aW H M (T.take i))∧Og H ps (aW H M (T.take i))∧Ch [w.heap.size+1] X2 wz∧∀q ∈ blk v,q=w.heap.size+1∨X2.heap.size≤q) (fun _ q _ _ _=>sn-(intOf q).toNat);case atStart=>exact⟨0,_,rfl,Nat.zero_le _,rfl,HO.out,HGD.out,HC.out,HQ.out⟩
     case round=>
      clear HO HGD HC HQ;obtain⟨i,v,rfl,hi,rfl,hO,hgood,hC,hQ⟩:=hrel;have hgl3:=HLN.out _ hgood
      obtain⟨va3,vc3,hvv⟩:∃a c,v = .slice a (aW H M (T.take i)).length c:=by
       obtain⟨a,c,e,_⟩:=aj hO;exact⟨a,c,e⟩
      subst hvv;obtain⟨l5,e5⟩:=ie (H:=H) (A:=T.take i) (M:=M);have hkl:k<(aW H M (T.take i)).length:=by rw[e5,List.length_append];omega
      have hgk:(aW H M (T.take i)).getD k 0=(j:Int):=by rw[e5,pH hlt2];exact HJ.out
      obtain⟨lb,lo,ea,hlb,x0⟩:=bp (aj hO) hkl;subst ea;rw[hgk]at x0;obtain⟨kN,kH,_,kB⟩:=HKE.out wr hC;have HO3:Hid _:=hO;have HGD3:Hid _:=hgood;have HC3:Hid _:=hC;have HQ3:Hid _:=hQ;have hkl':(k:Int)<((aW H M (T.take i)).length:Int):=by omega
      have sW:=kB.size;obtain⟨⟨z0,z1,z2,z3,z4⟩,⟨z5,z6,z7,z8⟩⟩:=dn kN;have Y0:=dU x0;have HLX:Hid _:=HL4.out wr kH;have HKH:Hid _:=kH;have HXI:Hid (i<sn→aW H M (T.take (i+1))=meet (aW H M (T.take i)) (tgt H (H.row.getD (j+1+i) 0))):=fun hil=>by rw[tg (by rw[HTL.out];exact hil),HTG.out i hil]
      clear hO hgood hC hQ kN kH kB e5 hgk;obtain⟨M1,hM1⟩:∃M1,aW H M (T.take i)=M1:=⟨_,rfl⟩
      rw[hM1]at HO3 HGD3 hgl3 hkl hkl' ⊢;simp only[hM1]at HQ3 HXI;have HM1:Hid _:=hM1;clear hM1;go_upto_region 13 with fail
      haveI:=fA wr
      refine bY (n:=wr.heap.size) (by kernel_rfl) (by kernel_rfl) ?_;repeat (go_big_quiet_step ((go_at_call 45;exact HLX.out _)))
      refine wpQuiet_nil ?_;intro _ hw';obtain⟨E,rfl⟩:=hw';have HCx:Hid (Ch [w.heap.size+1] X2 E.to):=HC3.out.trans (bu E.below);have HOX:Hid _:=aB HO3.out E.below;have x1:=Y0 E;clear z0 z1 z2 z3 z4 z5 z6 z7 z8 Y0 HLX HO3 HC3 x0 HKH sW;generalize E.to=W7 at *;clear E this;by_cases hil:i<sn
      ·have hil':(i:Int)<(sn:Int):=by omega
       obtain⟨kN,kH,_,kB⟩:=HKE.out W7 HCx.out;obtain⟨hwi,hob⟩:=HTW.out i hil;obtain⟨rb,ro,erb,hrb,y0⟩:=bp kH.1 (k:=j+1+i) (by omega);subst erb;obtain⟨⟨z0,z1,z2,z3,z4⟩,⟨z5,z6,z7,z8⟩⟩:=dn kN;have Y0:=dU y0;have Y1:=dU x1;have HF3:Hid _:=HFO.out W7 kH _ hwi;have HS3:Hid _:=HSA.out W7;have sW:=kB.size;have HNX:Hid _:=HXI.out hil;have HGN:Hid (Og H ps (aW H M (T.take (i+1)))):=by show Og _ _ _;rw[HNX.out];exact Og.meet HGD3.out hob
       have HTN:Hid (isA (fol H (H.row.getD (j+1+i) 0))=false→tgt H (H.row.getD (j+1+i) 0)=none):=fun e=>by unfold tgt;rw[if_neg (by rw[e];decide)]
       have HTS:Hid (isA (fol H (H.row.getD (j+1+i) 0))=true→tgt H (H.row.getD (j+1+i) 0)=some (av (fol H (H.row.getD (j+1+i) 0)))):=fun e=>by unfold tgt;rw[if_pos e]
       have i1:((j:Int)+1+(i:Int)).toNat=j+1+i:=by omega
       have i2:(0:Int)≤(j:Int)+1+(i:Int):=by omega
       have i3:(j:Int)+1+(i:Int)<(H.row.length:Int):=by omega
       clear hwi hob y0 x1 kN kH kB HXI;generalize H.row.getD (j+1+i) 0=x at *;generalize fol H x=z at *;obtain⟨M2,hM2⟩:∃M2,aW H M (T.take (i+1))=M2:=⟨_,rfl⟩
       rw[hM2]at HNX HGN;have HM2:Hid _:=hM2;clear hM2;go_upto_region 15 with fail
       haveI:=fA W7
       refine bY (n:=W7.heap.size) (by kernel_rfl) (by kernel_rfl) ?_;repeat (go_big_quiet_step (first|(go_at_call 91;exact HF3.out _)|(go_at_call 87;exact HS3.out _ _)))
       refine wpQuiet_nil ?_;intro _ hw';obtain⟨E,rfl⟩:=hw';have HCy:Hid (Ch [w.heap.size+1] X2 E.to):=HCx.out.trans (bu E.below);have HOZ:Hid _:=aB HOX.out E.below;have sX:=E.below.size;clear z0 z1 z2 z3 z4 z5 z6 z7 z8 Y0 Y1 HF3 HS3 HOX HCx;generalize E.to=W at *;clear E this;cases dA:isA z
       ·have HE:Hid (M2=M1):=by show _=_;rw[HNX.out];exact D8 (HTN.out dA)
        clear dA HNX HTN HTS;go_wp2;exact⟨⟨i+1,_,rfl,by omega,by go_num,by rw[HM2.out,HE.out];exact HOZ.out,by rw[HM2.out];exact HGN.out,HCy.out,HQ3.out⟩,by simp[intOf];omega⟩
       ·have ht:=HTS.out dA;have HS:=fC (aj HOZ.out) (by omega) (av z);by_cases hin:av z ∈ M1
        ·have HE:Hid (M2=M1):=by show _=_;rw[HNX.out];exact zj ht hin
         rw[decide_eq_true hin]at HS;generalize av z=az at *;clear dA HNX HTN HTS ht hin;go_wp2_with (go_at_call 61;refine HS.mono ?_;clear HS;rintro e w4 ⟨rfl,hw4⟩;rw[hw4];clear hw4 w4);exact⟨⟨i+1,_,rfl,by omega,by go_num,by rw[HM2.out,HE.out];exact HOZ.out,by rw[HM2.out];exact HGN.out,HCy.out,HQ3.out⟩,by simp[intOf];omega⟩
        ·have HE:Hid (M2=M1++[av z]):=by show _=_;rw[HNX.out];exact zk ht hin
         rw[decide_eq_false hin]at HS;generalize av z=az at *;clear dA HNX HTN HTS ht hin;have HVB:Hid ((W.alloc (.cells #[.int .i64 az] 2)).heap[W.heap.size]? = some (.cells #[.int .i64 az] 2 (0,0))):=heap_alloc_new W _;have HOY:Hid _:=aB HOZ.out ((Below.refl _ _).alloc (Nat.le_refl _) (.cells #[.int .i64 az] 2));have hbs:w.heap.size≤(W.alloc (.cells #[.int .i64 az] 2)).heap.size:=by have:=((Below.refl W.heap.size W).alloc (Nat.le_refl _) (.cells #[.int .i64 az] 2)).size;omega
         have HAQ:Hid _:=HAP.out W (some ⟨lb,lo,none⟩) M1.length vc3 M1 az HCy.out HQ3.out HOZ.out
         go_wp2_with (first
          |(go_at_call 61;refine HS.mono ?_;clear HS;rintro e w4 ⟨rfl,hw4⟩;rw[hw4];clear hw4 w4)
          |(at_builtin;refine ry (base:=w.heap.size) (vb:=W.heap.size) hbs HOY.out HVB.out (by omega) rfl _ _ rfl rfl rfl ?_;intro a6 c6 w6 hO6 hC6 hK6;have HR6:Hid _:=HAQ.out a6 c6 w6 hO6 hC6 hK6;clear hO6 hC6 hK6))
         exact⟨⟨i+1,_,rfl,by omega,by go_num,by rw[HM2.out,HE.out];exact HR6.out.1,by rw[HM2.out];exact HGN.out,HR6.out.2.1,HR6.out.2.2⟩,by simp[intOf];omega⟩
      ·have hil':¬(i:Int)<(sn:Int):=by omega
       have ei:i=sn:=by omega
       have HE:Hid (aW H M T=M1):=by show _=_;rw[←HM1.out,ei,List.take_of_length_le (by rw[HTL.out];exact Nat.le_refl _)]
       clear x1 HXI ei;go_wp2;exact⟨⟨k+1,_,M1,rfl,by omega,by go_num,HOX.out,HGD3.out,by rw[←HE.out];exact HST.out,HCx.out,HQ3.out⟩,by simp[intOf];omega⟩
    ·have hlt2':¬(k:Int)<(M.length:Int):=by omega
     have HE:Hid (M=RR):=by show _=_;rw[←hst,zm hlt2]
     have HBE:Hid _:=(HKE.out wr hC).2.2.2;clear hO hgood hC hQ hst;go_wp2;go_ret;exact⟨_,rfl,by rw[←HE.out];exact HO.out,HBE.out⟩
end Go.Proofs.YtocidankimefpaaGreatDoor.hp
