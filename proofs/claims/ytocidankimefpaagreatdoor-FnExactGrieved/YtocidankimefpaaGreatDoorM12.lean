/- Chapter 9 as the program has it: the chu -/
import Derived.Test.YtocidankimefpaaGreatDoorM11
set_option linter.unusedSimpArgs false
set_option linter.unusedVariables false
set_option maxRecDepth 100000
namespace Go.Proofs.YtocidankimefpaaGreatDoor.hp
open Go.RowKit rows heads words walks
def dR (a:Option Addr) (xs:List Int) (ps:List Int):List Pd:=ps.map (fun p=>iP a xs p.toNat)
theorem iy (a:Option Addr) (xs:List Int) (ps:List Int):ck (dR a xs ps):=by
 intro d hd;obtain⟨p,_,rfl⟩:=List.mem_map.1 hd;exact⟨_,_,_,rfl⟩
theorem Ig (W:World) (d:Pd):∀j u,(cellsP [d])[j]? = some u→(W.alloc (pdb d)).cell? ((⟨W.heap.size,0,none⟩:Addr).add j)=some u:=by
 intro j u hj;have e2:(⟨W.heap.size,0,none⟩:Addr).add j=⟨W.heap.size,j,none⟩:=by cases j<;>simp[Addr.add]
 rw[e2];have hl:j<8:=by have:=(List.getElem?_eq_some_iff.1 hj).1;simpa [cellsP] using this
 have hb:(W.alloc (pdb d)).heap[W.heap.size]? = some (pdb d):=heap_alloc_new W _;rcases (show j=0∨j=1∨j=2∨j=3∨j=4∨j=5∨j=6∨j=7 by omega) with rfl|rfl|rfl|rfl|rfl|rfl|rfl|rfl
 all_goals
  simp only[cellsP,List.getElem?_cons_zero,List.getElem?_cons_succ,Option.some.injEq]at hj;subst hj;unfold World.cell?;rw[hb];rfl
theorem EA {W:World} {base:Nat} {v:Value} {ds:List Pd} {d:Pd} (h:W.ownsRow base 58 8 v (ds.length+1) (cellsP ds++cellsP [d])):fg W base v (ds++[d]):=by
 unfold fg;rw[fF,List.length_append];exact h
theorem Ae {W:World} {base g:Nat} (hg:W.heap[g]? = some (.cells #[] 58 (0,0))) (hb:base≤g):fg W base (.slice (some ⟨g,0,none⟩) 0 0) []:=
 ⟨rfl,.inr ⟨g,0,#[],rfl,hb,hg,Nat.le_refl _,by decide,rfl,rfl⟩⟩
set_option maxHeartbeats 8000000 in
theorem oI {w:World} {a:Option Addr} {cap:Nat} {xs:List Int} (h:au w (.slice a xs.length cap) xs) (hl:xs.length≤1048576) (ha:iO xs) (f t:Int) (hf:I64 f) (ht:I64 t) :
    Calls Tryz.prog 131 #[.slice a xs.length cap,.int .i64 f,.int .i64 t] w fun e w'=>∃v',e = .returned (.tuple #[v',.bool (fK xs f t)])∧fg w' w.heap.size v' (dR a xs (walked xs f t))∧Below w.heap.size w w':=by
 obtain⟨L,hL⟩:∃L,walked xs f t=L:=⟨_,rfl⟩
 obtain⟨ok,hok⟩:∃ok,fK xs f t=ok:=⟨_,rfl⟩
 have HM:Hid (∀x ∈ L,∃j:Nat,x=j∧j<xs.length∧jl xs=true∧chunk xs j≠0):=fun x hx=>nX (hL▸hx)
 have hLl:L.length≤1000:=by have:=(jq xs f t).1;rw[hL]at this;exact this
 have WK:=Ed w _ xs f t h hl ha hf ht;rw[hL,hok]at WK;rw[hL,hok];obtain⟨i0,hi,hz0,hz1,hz2⟩:=info_parts infoP;have HI:Hid _:=And.intro hi (And.intro hz0 (And.intro hz1 hz2));have HH:Hid (au w (.slice a xs.length cap) xs):=h;have HA:Hid _:=ha;clear hL hok hi hz0 hz1 hz2 h ha;go_enter Tryz.func131,Tryz.ntmps131;go_wp2_with fail;refine WK.mono ?_;clear WK;rintro e w1 ⟨vl,rfl,O1,b1⟩;have HO1:Hid (rows.Own w1 w.heap.size vl L):=O1;obtain⟨la,lc,rfl,hl1,hl2,_,_⟩:=aj O1;have HB1:Hid _:=b1;have s1:=b1.size;have OE:fg (w1.alloc (.cells #[] 58)) w.heap.size (.slice (some ⟨w1.heap.size,0,none⟩) 0 0) []:=Ae (heap_alloc_new w1 _) s1;have BE:Below w.heap.size w (w1.alloc (.cells #[] 58)):=b1.alloc s1 _;have HOE:Hid _:=OE;have HBE:Hid _:=BE;have HOL:Hid (rows.Own (w1.alloc (.cells #[] 58)) w.heap.size (.slice la L.length lc) L):=aB HO1.out ((Below.refl _ _).alloc (Nat.le_refl _) _);have HLT:Hid (∀k,(Value.slice la L.length lc).ownBlock=some k→k<w1.heap.size):=fun k e=>(World.ownsRow.lt HO1.out k e).2
 have sX:w1.heap.size≤(w1.alloc (.cells #[] 58)).heap.size:=by simp
 clear O1 b1 OE BE;go_wp2_with fail;generalize (w1.alloc (.cells #[] 58))=X at *;go_loopw [10,25] (fun o i wr=>∃(k:Nat) (v:Value),v=o∧k≤L.length∧i = .int .i64 (k:Int)∧fg wr w.heap.size v (dR a xs (L.take k))∧(∀b,v.ownBlock=some b→w1.heap.size≤b)∧rows.Own wr w.heap.size (.slice la L.length lc) L∧w1.heap.size≤wr.heap.size∧Below w.heap.size w wr) (fun _ i _=>L.length-(intOf i).toNat);case atStart=>exact⟨0,_,rfl,Nat.zero_le _,rfl,HOE.out,fun b e=>by simp[Value.ownBlock]at e;omega,HOL.out,sX,HBE.out⟩
 case round=>
  obtain⟨k,v,rfl,hk,rfl,hO,hbk,hOL,hws,hB⟩:=hrel;by_cases hlt:k<L.length
  ·have hlt':(k:Int)<(L.length:Int):=by omega
   obtain⟨j,hj,hjl,hro,hch⟩:=HM.out (L.getD k 0) (by rw[List.getD_eq_getElem?_getD,List.getElem?_eq_getElem hlt];exact List.getElem_mem hlt);obtain⟨la',lc',e',_,_,_,hcy⟩:=aj hOL;injection e' with e1 e2 e3
   subst e1 e3;obtain⟨lb,lo,rfl,_,hcy⟩:=hcy (by omega);have x0:=hcy k hlt;rw[hj]at x0;have hokj:oB xs (j:Int)=true:=by simp only[oB,DA,hro,Bool.true_and,Bool.and_eq_true,decide_eq_true_eq];omega
   have CH:=tc (aa HH.out hB) hl HA.out j hokj;have ech:tU a xs j = .tuple #[cv (uS (xs.getD j 0)) (uF (xs.getD j 0)) (uC (xs.getD j 0)) (uH (xs.getD j 0)) (uP (xs.getD j 0)) (uM (xs.getD j 0)) (piece a j (chunk xs j).toNat),.bool true]:=by unfold tU;rw[if_neg hch]
   rw[ech]at CH;obtain⟨pa,pn,pc,hpe⟩:∃pa pn pc,piece a j (chunk xs j).toNat = .slice pa pn pc:=⟨_,_,_,rfl⟩
   have HPD:Hid (iP a xs j=⟨uS (xs.getD j 0),uF (xs.getD j 0),uC (xs.getD j 0),uH (xs.getD j 0),uP (xs.getD j 0),uM (xs.getD j 0),.slice pa pn pc,j⟩):=by show iP a xs j=_;unfold iP;rw[hpe]
   have HNX:Hid (dR a xs (L.take (k+1))=dR a xs (L.take k)++[iP a xs j]):=by
    show dR a xs (L.take (k+1))=_
    unfold dR;rw[List.take_add_one,List.map_append,List.getElem?_eq_getElem hlt];have:L[k]=(j:Int):=by rw[←hj,List.getD_eq_getElem?_getD,List.getElem?_eq_getElem hlt];rfl
    simp[this]
   rw[hpe]at CH;rw[HPD.out]at HNX;have hdl:(dR a xs (L.take k)).length=k:=by unfold dR;simp;omega
   clear hj hcy ech hpe hokj hro hch HPD;generalize uF (xs.getD j 0)=f' at *;generalize uS (xs.getD j 0)=s' at *;generalize uC (xs.getD j 0)=c' at *;generalize uH (xs.getD j 0)=g' at *;generalize uP (xs.getD j 0)=p' at *;generalize uM (xs.getD j 0)=m' at *;generalize dR a xs (L.take k)=ds at *;have HOV:Hid _:=hO;have HOL2:Hid _:=hOL;have HB2:Hid _:=hB;have HBK:Hid _:=hbk;clear hO hOL hB hbk;go_wp2_with fail;refine CH.mono ?_;clear CH;rintro e w3 ⟨rfl,b3⟩;have s3:=b3.size;have B4:Below wr.heap.size wr (w3.alloc (cb s' f' c' g' p' m' (.slice pa pn pc))):=b3.alloc b3.size _;have T4:=ku w3 s' f' c' g' p' m' (.slice pa pn pc);obtain⟨t0,t1,t2,t3,t4,t5,t6,_⟩:=dJ T4;have O4:=cg HOV.out B4;have L4:=aB HOL2.out B4;have W4:=HB2.out.trans (B4.mono HB2.out.size);have s4:w3.heap.size<(w3.alloc (cb s' f' c' g' p' m' (.slice pa pn pc))).heap.size:=by simp
   obtain⟨va,vc,rfl⟩:=aQ (bx HOV.out);have HDL:Hid _:=hdl;have bdl:ds.length≤1000:=by omega
   clear hdl HOV HOL2 HB2 b3 T4;go_upto_region 7 with fail
   generalize hY:w3.alloc (cb s' f' c' g' p' m' (.slice pa pn pc))=Y at *;clear hY B4;have HOA:Hid ((Y.alloc (pdb ⟨s',f',c',g',p',m',.slice pa pn pc,j⟩)).ownsRow w.heap.size 58 8 (.slice va ds.length vc) ds.length (cellsP ds)):=World.ownsRow.alloc O4 _;have HNW:Hid _:=Ig Y ⟨s',f',c',g',p',m',.slice pa pn pc,j⟩;have HON:Hid (∀v ∈ cellsP [(⟨s',f',c',g',p',m',.slice pa pn pc,j⟩:Pd)],v.oneCell'=true):=kQ (fun d hd=>by rw[List.mem_singleton]at hd;subst hd;exact⟨_,_,_,rfl⟩);have sb:w.heap.size≤(Y.alloc (pdb ⟨s',f',c',g',p',m',.slice pa pn pc,j⟩)).heap.size:=by have:=W4.size;simp;omega
   have HSTEP:Hid (∀(v':Value) (w5:World),w5.ownsRow w.heap.size 58 8 v' (ds.length+1) (cellsP ds++cellsP [(⟨s',f',c',g',p',m',.slice pa pn pc,j⟩:Pd)])→(Y.alloc (pdb ⟨s',f',c',g',p',m',.slice pa pn pc,j⟩)).grownBy w5 (Value.slice va ds.length vc).ownBlock→(v'.ownBlock=(Value.slice va ds.length vc).ownBlock∨v'.ownBlock=some (Y.alloc (pdb ⟨s',f',c',g',p',m',.slice pa pn pc,j⟩)).heap.size)→(∃a n c,v' = .slice a n c)∧fg w5 w.heap.size v' (dR a xs (L.take (k+1)))∧(∀b,v'.ownBlock=some b→w1.heap.size≤b)∧rows.Own w5 w.heap.size (.slice (some ⟨lb,lo,none⟩) L.length lc) L∧w1.heap.size≤w5.heap.size∧Below w.heap.size w w5):=by
    intro v' w5 h1 h2 h3;have O5:=EA h1;have hv:=aQ (bx O5);have C1:Ch (blk (Value.slice va ds.length vc)) Y (Y.alloc (pdb ⟨s',f',c',g',p',m',.slice pa pn pc,j⟩)):=bu ((Below.refl _ _).alloc (Nat.le_refl _) _);have C2:=C1.trans (cJ h2);have hsz:=C2.size;refine⟨?_,?_,?_,?_,by omega,?_⟩
    ·obtain⟨a',c',e⟩:=hv;exact⟨a',_,c',e⟩
    ·rw[HNX.out];exact O5
    ·intro b hb;rcases h3 with h3|h3
     ·exact HBK.out b (by rw[←h3];exact hb)
     ·rw[h3]at hb;injection hb with hb;simp at hb;omega
    ·refine aE L4 C2 (fun q hq e => ?_);have q1:=HLT.out q (by unfold blk at hq;exact Option.mem_toList.1 hq);have q2:=HBK.out q (by unfold blk at e;exact Option.mem_toList.1 e);omega
    ·exact W4.trans (bn C2 W4.size (fun q hq=>(aM O4 q hq).1))
   clear O4 L4 W4;go_wp2_with (refine wpList_append_own_at _ rfl (.tmp 35) (.tmp 39) 37 rfl w.heap.size 58 i0 (pdv pdD) 8 72 Tryz.underlying37 HI.out.1 HI.out.2.1 HI.out.2.2.1 HI.out.2.2.2 rfl (by decide) (.slice va ds.length vc) ds.length (cellsP ds) rfl HOA.out ⟨Y.heap.size,0,none⟩ 1 1 (cellsP [(⟨s',f',c',g',p',m',.slice pa pn pc,j⟩:Pd)]) rfl rfl HNW.out HON.out (by unfold maxLen;omega) (by omega) sb ?_;intro v' w5 h1 h2 _ h3;obtain⟨⟨na,nn,nc,rfl⟩,hh⟩:=HSTEP.out v' w5 h1 h2 h3;have HFN:Hid _:=hh;clear h1 h2 h3 hh HSTEP HOA HNW HON);exact⟨⟨k+1,_,rfl,by omega,by go_num,HFN.out.1,HFN.out.2.1,HFN.out.2.2.1,HFN.out.2.2.2.1,HFN.out.2.2.2.2⟩,by simp[intOf];omega⟩
  ·have hlt':¬(k:Int)<(L.length:Int):=by omega
   have HF:Hid (fg wr w.heap.size v (dR a xs L)):=by
    show fg _ _ _ _
    have:=hO
    rwa [List.take_of_length_le (show L.length≤k by omega)]at this
   have HBF:Hid _:=hB;obtain⟨va,vc,rfl⟩:=aQ (bx hO);clear hO hbk hOL hB;go_wp2;go_ret2;exact⟨_,rfl,HF.out,HBF.out⟩
theorem fU {w:World} {a:Option Addr} {n cap:Nat} {xs:List Int} (h:au w (.slice a n cap) xs) {k:Nat} (hk:k<xs.length):∃b off,a=some ⟨b,off,none⟩∧b<w.heap.size∧w.cell? ⟨b,off+k,none⟩=some (.int .i64 (xs.getD k 0)):=by
 obtain⟨a',c',e,_,_,_,hc⟩:=h;injection e with e1 e2 e3
 subst e1;obtain⟨b,off,rfl,hb,hcc⟩:=hc (by omega);exact⟨b,off,rfl,hb,hcc k hk⟩
def CO (t:Pd→Bool) (ds:List Pd):Int:=match ds.findIdx? t with|some i=>(i:Int)|none => -1
theorem xL {t:Pd→Bool} {ds:List Pd} {k:Nat} (hk:k<ds.length) (h:t (ds.getD k pdD)=true) (hn:∀m,m<k→t (ds.getD m pdD)=false):CO t ds=k:=by
 unfold CO
 have e:ds.findIdx? t=some k:=by
  rw[List.findIdx?_eq_some_iff_getElem];refine⟨hk,?_,fun j hj => ?_⟩
  ·rwa [List.getD_eq_getElem?_getD,List.getElem?_eq_getElem hk]at h
  ·have:=hn j hj
   rw[List.getD_eq_getElem?_getD,List.getElem?_eq_getElem (by omega)]at this;simpa using this
 rw[e]
theorem xM {t:Pd→Bool} {ds:List Pd} (hn:∀m,m<ds.length→t (ds.getD m pdD)=false):CO t ds = -1:=by
 unfold CO
 have e:ds.findIdx? t=none:=by
  rw[List.findIdx?_eq_none_iff];intro e he;obtain⟨i,hi,rfl⟩:=List.getElem_of_mem he;have:=hn i hi
  rw[List.getD_eq_getElem?_getD,List.getElem?_eq_getElem hi]at this;simpa using this
 rw[e]
theorem EB (t:Pd→Bool) (ds:List Pd):decide (CO t ds ≥ 0)=ds.any t:=by
 unfold CO;cases e:ds.findIdx? t with
 |none=>
  rw[List.findIdx?_eq_none_iff]at e;have:ds.any t=false:=by rw[List.any_eq_false];intro x hx;simp[e x hx]
  rw[this];decide
 |some i=>
  rw[List.findIdx?_eq_some_iff_getElem]at e;obtain⟨hi,h1,_⟩:=e;have:ds.any t=true:=by rw[List.any_eq_true];exact⟨_,List.getElem_mem hi,h1⟩
  rw[this];simp
def gF (d:Pd):Bool:=(d.f==6) || d.p
def iJ (d:Pd):Bool:=d.f==6
set_option maxHeartbeats 2000000 in
theorem ED (d:Pd) {ua:Option Addr} {un uc:Nat} (hu:d.u = .slice ua un uc) (w:World) :
    Calls Tryz.prog 133 #[pdv d] w fun e w'=>e = .returned (.bool (gF d))∧Below w.heap.size w w':=by
 obtain⟨s,f,c,h,p,m,u,pl⟩:=d;simp only at hu;subst hu;unfold gF;have B0:Below w.heap.size w (w.alloc (pdb ⟨s,f,c,h,p,m,.slice ua un uc,pl⟩)):=(Below.refl _ _).alloc (Nat.le_refl _) _;have IF:=tv s f c h p m (.slice ua un uc) (w.alloc (pdb ⟨s,f,c,h,p,m,.slice ua un uc,pl⟩));have B1:Below w.heap.size w ((w.alloc (pdb ⟨s,f,c,h,p,m,.slice ua un uc,pl⟩)).alloc (cb s f c h p m (.slice ua un uc))):=B0.alloc (by simp) _;have HB1:Hid _:=B1;clear B0 B1;cases e:(f==6)
 ·rw[e]at IF;go_enter Tryz.func133,Tryz.ntmps133;go_wp2_with (go_at_call 136;refine IF.mono ?_;clear IF;rintro e w3 ⟨rfl,hw3⟩;rw[hw3];clear hw3 w3);go_ret;exact⟨rfl,HB1.out⟩
 ·rw[e]at IF;go_enter Tryz.func133,Tryz.ntmps133;go_wp2_with (go_at_call 136;refine IF.mono ?_;clear IF;rintro e w3 ⟨rfl,hw3⟩;rw[hw3];clear hw3 w3);go_ret;exact⟨rfl,HB1.out⟩
set_option maxHeartbeats 8000000 in
theorem xN {w:World} {v:Value} {ds:List Pd} (h:eF w v ds) (hs:ck ds) (hl:ds.length≤1048576) :
    Calls Tryz.prog 165 #[v,.func (.func 133) #[] #[]] w fun e w'=>e = .returned (.int .i64 (CO gF ds))∧Below w.heap.size w w':=by
 have HP:Hid _:=h;obtain⟨a,cap,rfl⟩:=aQ h;obtain⟨_,hlc,hcm⟩:=ye h;obtain⟨R,hR⟩:∃R,CO gF ds=R:=⟨_,rfl⟩
 rw[hR];have HR:Hid _:=hR;have HS:Hid _:=hs;clear hR h hs;go_enter Tryz.func165,Tryz.ntmps165;go_wp2_with fail;go_loopw [8] (fun q wr=>∃k:Nat,k≤ds.length∧q = .int .i64 (k:Int)∧(∀m,m<k→gF (ds.getD m pdD)=false)∧Below w.heap.size w wr) (fun q _=>ds.length-(intOf q).toNat);case atStart=>exact⟨0,Nat.zero_le _,rfl,fun m hm=>by omega,Below.refl _ _⟩
 case round=>
  obtain⟨k,hk,rfl,hne,Br⟩:=hrel;have HNE:Hid _:=hne;have HB:Hid _:=Br;clear hne Br;by_cases hlt:k<ds.length
  ·obtain⟨b,off,ea,hbl,k0,k1,k2,k3,k4,k5,k6,k7⟩:=iB (aT HP.out HB.out) hlt;subst ea;obtain⟨ua,un,uc,hu⟩:=HS.out (ds.getD k pdD) (by rw[List.getD_eq_getElem?_getD,List.getElem?_eq_getElem hlt];exact List.getElem_mem hlt);obtain⟨x,hx⟩:∃x,ds.getD k pdD=x:=⟨_,rfl⟩
   have HF1:Hid (gF x=false→∀m,m<k+1→gF (ds.getD m pdD)=false):=fun e m hm=>by
    by_cases e':m=k
    ·rw[e',hx];exact e
    ·exact HNE.out m (by omega)
   have HF2:Hid (gF x=true→R=k):=fun e=>HR.out.symm.trans (xL hlt (by rw[hx];exact e) HNE.out)
   rw[hx]at k0 k1 k2 k3 k4 k5 k6 k7 hu;clear HNE HR hx;obtain⟨s',f',c',h',p',m',u',pl'⟩:=x;simp only at k0 k1 k2 k3 k4 k5 k6 k7 hu;subst hu;have IS:=ED (⟨s',f',c',h',p',m',.slice ua un uc,pl'⟩:Pd) (ua:=ua) (un:=un) (uc:=uc) rfl wr;obtain⟨tb,htb⟩:∃tb,gF (⟨s',f',c',h',p',m',.slice ua un uc,pl'⟩:Pd)=tb:=⟨_,rfl⟩
   rw[htb]at IS HF1 HF2;clear htb;cases tb with
   |true=>
    have HF3:Hid _:=HF2.out rfl;clear HF1 HF2;go_wp2_with (go_at_call 133;refine IS.mono ?_;clear IS;rintro e w3 ⟨rfl,b3⟩;have HB3:Hid _:=HB.out.trans (b3.mono HB.out.size);clear b3);go_ret;exact⟨by rw[HF3.out];rfl,HB3⟩
   |false=>
    have HF3:Hid _:=HF1.out rfl;clear HF1 HF2;go_wp2_with (go_at_call 133;refine IS.mono ?_;clear IS;rintro e w3 ⟨rfl,b3⟩;have HB3:Hid _:=HB.out.trans (b3.mono HB.out.size);clear b3);exact⟨⟨k+1,by omega,by go_num,HF3,HB3⟩,by simp[intOf];omega⟩
  ·have HF3:Hid (R = -1):=HR.out.symm.trans (xM (fun m hm=>HNE.out m (by omega)));clear HNE HR;go_wp2;go_ret;exact⟨by rw[HF3.out];rfl,HB⟩
theorem rS {w:World} {v:Value} {ds:List Pd} (h:eF w v ds) (hs:ck ds) (hl:ds.length≤1048576) :
    Calls Tryz.prog 132 #[v,.func (.func 133) #[] #[]] w fun e w'=>e = .returned (.bool (ds.any gF))∧Below w.heap.size w w':=by
 have IX:=xN h hs hl;obtain⟨a,cap,rfl⟩:=aQ h;rw[←EB];generalize CO gF ds=R at *;clear h hs;go_enter Tryz.func132,Tryz.ntmps132;go_wp2_with (go_at_call 165;refine IX.mono ?_;clear IX;rintro e w3 ⟨rfl,b3⟩;have HB3:Hid _:=b3;clear b3);go_ret;exact⟨rfl,HB3.out⟩
set_option maxHeartbeats 2000000 in
theorem qO {w:World} {v:Value} {xs:List Int} (h:au w v xs) (hl:xs.length≤1048576) :
    Calls Tryz.prog 134 #[v] w fun e w'=>e = .returned (.bool (xs.all (· == 0)))∧w'=w:=by
 have HI:Hid _:=h;obtain⟨a,cap,rfl,hlc,hcm,_,hc⟩:=h;obtain⟨R,hR⟩:∃R,xs.all (· == 0)=R:=⟨_,rfl⟩
 rw[hR];have HR:Hid _:=hR;clear hR hc;go_enter Tryz.func134,Tryz.ntmps134;go_wp2_with fail;go_loopw [7] (fun q wr=>∃k:Nat,k≤xs.length∧q = .int .i64 (k:Int)∧(∀m,m<k→(xs.getD m 0==0)=true)∧wr=w) (fun q _=>xs.length-(intOf q).toNat);case atStart=>exact⟨0,Nat.zero_le _,rfl,fun m hm=>by omega,rfl⟩
 case round=>
  obtain⟨k,hk,rfl,hall,hw⟩:=hrel;subst hw;by_cases hlt:k<xs.length
  ·obtain⟨b,off,ea,_,x0⟩:=fU HI.out hlt;subst ea;obtain⟨y,hy⟩:∃y,xs.getD k 0=y:=⟨_,rfl⟩
   rw[hy]at x0
   have HF:Hid ((y==0)=false→R=false):=fun e=>by
    rw[←HR.out,List.all_eq_false];refine⟨y,?_,by rw[e];decide⟩
    rw[←hy,List.getD_eq_getElem?_getD,List.getElem?_eq_getElem hlt];exact List.getElem_mem hlt
   have HV:Hid ((y==0)=true→∀m,m<k+1→(xs.getD m 0==0)=true):=fun e m hm=>by
    by_cases e':m=k
    ·rw[e',hy];exact e
    ·exact hall m (by omega)
   clear hall hy HR;cases dy:(y==0)
   ·have HF2:Hid _:=HF.out dy;have d2:(y != 0)=true:=by simp[bne,dy]
    clear HF HV dy;go_wp2;go_ret;exact⟨by rw[HF2.out];rfl,rfl⟩
   ·have HV2:Hid _:=HV.out dy;have d2:(y != 0)=false:=by simp[bne,dy]
    clear HF HV dy;go_wp2;exact⟨⟨k+1,by omega,by go_num,HV2,by trivial⟩,by simp[intOf];omega⟩
  ·have HF2:Hid (R=true):=by
     show R=true
     rw[←HR.out,List.all_eq_true];intro x hx;obtain⟨i,hi,rfl⟩:=List.getElem_of_mem hx;have:=hall i (by omega)
     rwa [List.getD_eq_getElem?_getD,List.getElem?_eq_getElem hi]at this
   clear hall HR;go_wp2;go_ret;exact⟨by rw[HF2.out];rfl,rfl⟩
theorem vF (s f c h:Int) (p m:Bool) (ua:Option Addr) (un uc:Nat) (pl:Int) (w:World):(method 377 58 (pdv ⟨s,f,c,h,p,m,.slice ua un uc,pl⟩) "loop.example/g00337/impl.isFree").run Tryz.prog w = .ok (136,cv s f c h p m (.slice ua un uc)) w:=rfl
theorem sN:∀(ds:List Pd) (i:Nat) (d:Pd),(((((((((cellsP ds).set (i*8) (.int .i64 d.s)).set (i*8+1) (.int .i64 d.f)).set (i*8+2) (.int .i64 d.c)).set (i*8+3) (.int .i64 d.h)).set (i*8+4) (.bool d.p)).set (i*8+5) (.bool d.m)).set (i*8+6) d.u).set (i*8+7) (.int .i64 d.pl))=cellsP (ds.set i d)
 | [],i,d=>by simp[cellsP]
 |e :: ds,0,d=>by simp[cellsP]
 |e :: ds,i+1,d=>by
  rw[show (i+1)*8=i*8+1+1+1+1+1+1+1+1 by omega];simp[cellsP,←sN ds i d]
theorem qP (d:Pd) {ua:Option Addr} {un uc:Nat} (hu:d.u = .slice ua un uc) (w:World) :
    Calls Tryz.prog 136 #[cv d.s d.f d.c d.h d.p d.m d.u] w fun e w'=>e = .returned (.bool (iJ d))∧Below w.heap.size w w':=
 (tv d.s d.f d.c d.h d.p d.m d.u w).mono fun e w' ⟨he,hw⟩=>⟨he,by rw[hw];exact (Below.refl _ _).alloc (Nat.le_refl _) _⟩
set_option maxHeartbeats 8000000 in
theorem tQ {w:World} {v:Value} {ds:List Pd} (h:eF w v ds) (hs:ck ds) (hl:ds.length≤1048576) :
    Calls Tryz.prog 165 #[v,.func (.methodOf 58 "loop.example/g00337/impl.isFree") #[] #[]] w fun e w'=>e = .returned (.int .i64 (CO iJ ds))∧Below w.heap.size w w':=by
 have HP:Hid _:=h;obtain⟨a,cap,rfl⟩:=aQ h;obtain⟨_,hlc,hcm⟩:=ye h;obtain⟨R,hR⟩:∃R,CO iJ ds=R:=⟨_,rfl⟩
 rw[hR];have HR:Hid _:=hR;have HS:Hid _:=hs;clear hR h hs;go_enter Tryz.func165,Tryz.ntmps165;go_wp2_with fail;go_loopw [8] (fun q wr=>∃k:Nat,k≤ds.length∧q = .int .i64 (k:Int)∧(∀m,m<k→iJ (ds.getD m pdD)=false)∧Below w.heap.size w wr) (fun q _=>ds.length-(intOf q).toNat);case atStart=>exact⟨0,Nat.zero_le _,rfl,fun m hm=>by omega,Below.refl _ _⟩
 case round=>
  obtain⟨k,hk,rfl,hne,Br⟩:=hrel;have HNE:Hid _:=hne;have HB:Hid _:=Br;clear hne Br;by_cases hlt:k<ds.length
  ·obtain⟨b,off,ea,hbl,k0,k1,k2,k3,k4,k5,k6,k7⟩:=iB (aT HP.out HB.out) hlt;subst ea;obtain⟨ua,un,uc,hu⟩:=HS.out (ds.getD k pdD) (by rw[List.getD_eq_getElem?_getD,List.getElem?_eq_getElem hlt];exact List.getElem_mem hlt);obtain⟨x,hx⟩:∃x,ds.getD k pdD=x:=⟨_,rfl⟩
   have HF1:Hid (iJ x=false→∀m,m<k+1→iJ (ds.getD m pdD)=false):=fun e m hm=>by
    by_cases e':m=k
    ·rw[e',hx];exact e
    ·exact HNE.out m (by omega)
   have HF2:Hid (iJ x=true→R=k):=fun e=>HR.out.symm.trans (xL hlt (by rw[hx];exact e) HNE.out)
   rw[hx]at k0 k1 k2 k3 k4 k5 k6 k7 hu;clear HNE HR hx;obtain⟨s',f',c',h',p',m',u',pl'⟩:=x;simp only at k0 k1 k2 k3 k4 k5 k6 k7 hu;subst hu;have IS:=qP (⟨s',f',c',h',p',m',.slice ua un uc,pl'⟩:Pd) (ua:=ua) (un:=un) (uc:=uc) rfl wr;have MF:=vF s' f' c' h' p' m' ua un uc pl' wr;obtain⟨tb,htb⟩:∃tb,iJ (⟨s',f',c',h',p',m',.slice ua un uc,pl'⟩:Pd)=tb:=⟨_,rfl⟩
   rw[htb]at IS HF1 HF2;clear htb;cases tb with
   |true=>
    have HF3:Hid _:=HF2.out rfl;clear HF1 HF2;go_wp2_with (go_at_call 136;refine IS.mono ?_;clear IS;rintro e w3 ⟨rfl,b3⟩;have HB3:Hid _:=HB.out.trans (b3.mono HB.out.size);clear b3);go_ret;exact⟨by rw[HF3.out];rfl,HB3⟩
   |false=>
    have HF3:Hid _:=HF1.out rfl;clear HF1 HF2;go_wp2_with (go_at_call 136;refine IS.mono ?_;clear IS;rintro e w3 ⟨rfl,b3⟩;have HB3:Hid _:=HB.out.trans (b3.mono HB.out.size);clear b3);exact⟨⟨k+1,by omega,by go_num,HF3,HB3⟩,by simp[intOf];omega⟩
  ·have HF3:Hid (R = -1):=HR.out.symm.trans (xM (fun m hm=>HNE.out m (by omega)));clear HNE HR;go_wp2;go_ret;exact⟨by rw[HF3.out];rfl,HB⟩
end Go.Proofs.YtocidankimefpaaGreatDoor.hp
