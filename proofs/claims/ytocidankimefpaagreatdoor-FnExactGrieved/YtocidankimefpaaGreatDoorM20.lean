/- Chapter 14 as lists: what mourning keeps -/
import Derived.Test.YtocidankimefpaaGreatDoorM19
import Derived.Test.YtocidankimefpaaGreatDoorM14
set_option linter.unusedSimpArgs false
set_option linter.unusedVariables false
set_option maxRecDepth 100000
namespace Go.Proofs.YtocidankimefpaaGreatDoor.gr
open Go.RowKit rows heads
def oU (G R:Gr):Prop:=R.objs.length=G.objs.length∧R.objs.map Ob.id=G.objs.map Ob.id∧∃more,R.a7=G.a7++more∧∀r ∈ more,∃p,p<G.objs.length∧r=(2,(G.objs.getD p obD).id)
theorem oU.refl (G:Gr):oU G G:=⟨rfl,rfl,[],by simp,fun r hr=>by cases hr⟩
theorem oU.trans {G R T:Gr} (h:oU G R) (k:oU R T):oU G T:=by
 obtain⟨h1,h2,m1,e1,a1⟩:=h;obtain⟨k1,k2,m2,e2,a2⟩:=k;refine⟨k1.trans h1,k2.trans h2,m1++m2,by rw[e2,e1,List.append_assoc],fun r hr => ?_⟩
 rcases List.mem_append.1 hr with hr|hr
 ·exact a1 r hr
 ·obtain⟨p,hp,e⟩:=a2 r hr;exact⟨p,by omega,by rw[e,qm h2]⟩
theorem CV {G:Gr} {p:Nat} (hp:p<G.objs.length):oU G (eK G p):=by
 refine⟨iX G p,qJ _ _,?_⟩
 unfold eK;by_cases h:G.a7.length<40
 ·exact⟨[(2,(G.objs.getD p obD).id)],by simp[h],fun r hr=>⟨p,hp,by simpa using hr⟩⟩
 ·exact⟨[],by simp[h],fun r hr=>by cases hr⟩
theorem qT:∀ {ps:List Nat} {G:Gr},(∀p ∈ ps,p<G.objs.length)→oU G (dH G ps)
 | [],G,_=>oU.refl G
 |p :: ps,G,h=>(CV (h p (by simp))).trans (qT (ps:=ps) (fun q hq=>by rw[iX];exact h q (by simp[hq])))
theorem oL:∀ {L:List (List Nat)} {G R:Gr},qI L G R→oU G R
 | [],G,R,h=>by
   have e:R=G:=h.2;rw[e];exact oU.refl G
 |ps :: L,G,R,h=>by
  obtain⟨h1,h2,h3⟩:=h;exact (qT (fun p hp=>jY ((h2.2 p).1 hp))).trans (oL h3)
theorem vJ {G R:Gr} (h:fe G R):oU G R:=by
 obtain⟨L,hL⟩:=h;exact oL hL
end Go.Proofs.YtocidankimefpaaGreatDoor.gr
namespace Go.Proofs.YtocidankimefpaaGreatDoor.hp
open Go.RowKit rows heads words walks
def il (R:gr.Gr):List Int:=R.objs.map gr.Ob.fmt
def rU (H:Hp) (R:gr.Gr):List Int:=(R.a7.drop H.a7.length).map (fun r=>4*(bN H).getD (r.2-1).toNat 0+4)
def xU (H:Hp) (R:gr.Gr):Hp:= { H with row:=n9 H (bN H) (il R) (bN H).length,a7:=H.a7++rU H R }
theorem yY {H:Hp} {R:gr.Gr} (h:gr.fe (grS H (bN H)) R):R.objs.length=(bN H).length∧(∀i,i<(bN H).length→(R.objs.getD i gr.obD).id=(i:Int)+1)∧H.a7.length≤R.a7.length∧∀r ∈ R.a7.drop H.a7.length,∃p:Nat,p<(bN H).length∧r=(2,(p:Int)+1):=by
 obtain⟨h1,h2,more,e,a⟩:=gr.vJ h;have hl:(grS H (bN H)).objs.length=(bN H).length:=by simp[grS]
 have hm:(grS H (bN H)).a7.length=H.a7.length:=by simp[grS]
 have hid:∀i,i<(bN H).length→((grS H (bN H)).objs.getD i gr.obD).id=(i:Int)+1:=fun i hi=>by
  show (((List.range (bN H).length).map (obS H (bN H))).getD i gr.obD).id=_
  rw[ju hi];rfl
 refine⟨h1.trans hl,fun i hi=>(gr.qm h2 i).trans (hid i hi),?_,fun r hr => ?_⟩
 ·rw[e,List.length_append,hm];omega
 ·rw[e,←hm,List.drop_left]at hr;obtain⟨p,hp,er⟩:=a r hr;rw[hl]at hp;exact⟨p,hp,by rw[er,hid p hp]⟩
structure HH (W:World) (P base:Nat) (vr vo vm vs:Value) (H:Hp):Prop where
 nine:eJ W P 26 (.int .i64 H.half) (.int .i64 H.old) vr (.int .i64 H.side) (.int .i64 H.top) vo vm vs (.int .i64 H.seed)
 own:rR W base vr vo vm vs H
 np:P ∉ lK vr vo vm vs
theorem HH.below {W W':World} {P base:Nat} {vr vo vm vs:Value} {H:Hp} (h:HH W P base vr vo vm vs H) (hb:Below W.heap.size W W'):HH W' P base vr vo vm vs H:=⟨ai h.nine hb,aV h.own hb,h.np⟩
theorem HH.ch {W W':World} {P base:Nat} {vr vo vm vs:Value} {H:Hp} {S:List Nat} (h:HH W P base vr vo vm vs H) (hc:Ch S W W') (hP:P ∉ S) (hd:∀k ∈ lK vr vo vm vs,k ∉ S):HH W' P base vr vo vm vs H:=⟨cx h.nine hc hP,lC h.own hc hd,h.np⟩
theorem vK (v:Value):(blk v).Nodup:=by
 unfold blk;cases v.ownBlock<;>simp
theorem HH.Ik {w W:World} {P base gr go gm cr co cm nr no nm:Nat} {vs vl:Value} {H:Hp} {os xs rs ms:List Int} (h:SS w W P base gr go gm cr co cm nr no nm vs vl H os xs rs ms) (d:Dst w P base gr go gm vs):HH W P base (.slice (some ⟨gr,0,none⟩) nr cr) (.slice (some ⟨go,0,none⟩) no co) (.slice (some ⟨gm,0,none⟩) nm cm) vs { H with row:=xs,roots:=rs,a7:=ms }:=by
 have h1:=h.row;have h2:=h.roots;have h3:=h.mour
 have ho:rR W base (.slice (some ⟨gr,0,none⟩) nr cr) (.slice (some ⟨go,0,none⟩) no co) (.slice (some ⟨gm,0,none⟩) nm cm) vs { H with row:=xs,roots:=rs,a7:=ms }:=by
  refine⟨⟨?_,?_,?_,h.seen⟩,?_⟩
  ·show World.ownsRow _ _ _ _ _ _ _
   rw[h.lr];exact h1
  ·show World.ownsRow _ _ _ _ _ _ _
   rw[h.lo];exact h2
  ·show World.ownsRow _ _ _ _ _ _ _
   rw[h.lm];exact h3
  ·unfold lK;rw[cN,cN,cN];have d1:=d.ro;have d2:=d.rm;have d3:=d.om;have d4:=d.sr;refine List.nodup_append.2 ⟨by simp;omega,vK vs,fun a ha b hb e => ?_⟩;have:=d4 b hb
   have ha':a=gr∨a=go∨a=gm:=by simpa using ha
   omega
 refine⟨h.nine,ho,?_⟩
 unfold lK;rw[cN,cN,cN];have d1:=d.pr;have d2:=d.po;have d3:=d.pm;intro hm;rcases List.mem_append.1 hm with hm|hm
 ·have ha':P=gr∨P=go∨P=gm:=by simpa using hm
  omega
 ·exact (d.sr P hm).2.2.2 rfl
theorem HH.GA {W w10:World} {P base:Nat} {vr vo vm vs v':Value} {H:Hp} {x:Int} (h:HH W P base vr vo vm vs H) (hrow:rows.Own w10 base v' (H.a7++[x])) (hC:Ch (blk vm) W w10) (hat:∀k ∈ blk v',k ∈ blk vm∨W.heap.size≤k) :
    w10.cell? ⟨P,6,none⟩=some vm∧w10.frozen? ⟨P,6,none⟩=false∧HH (w10.setCell ⟨P,6,none⟩ v') P base vr vo v' vs { H with a7:=H.a7++[x] }∧Ch (P :: blk vm) W (w10.setCell ⟨P,6,none⟩ v'):=by
 have npm:P ∉ blk vm:=fun e=>h.np (dV.2.2.1 _ e)
 have N10:=cx h.nine hC npm;obtain⟨_,⟨_,z6,_,_⟩,zf⟩:=ag N10;have hl:=iH h.own;have hPl:=lt_of_block h.nine;obtain⟨⟨A1,A2,A3⟩,⟨B1,B2⟩,C1⟩:=sJ h.own.2;have O1:=aH w10 P 6 v'
 have npv:P ∉ blk v':=fun e=>by
  rcases hat P e with e|e
  ·exact npm e
  ·omega
 have n1:P ∉ blk vr:=fun e=>h.np (dV.1 _ e)
 have n2:P ∉ blk vo:=fun e=>h.np (dV.2.1 _ e)
 have n4:P ∉ blk vs:=fun e=>h.np (dV.2.2.2 _ e)
 have ap:∀v:Value,(∀k ∈ blk v,k ∉ blk vm)→(∀k ∈ blk v,k<W.heap.size)→∀k ∈ blk v,k ∉ blk v':=fun v h1 h2 k hk e=>by
  rcases hat k e with e|e
  ·exact h1 k hk e
  ·have:=h2 k hk
   omega
 refine⟨z6,zf 6,⟨jX N10 v',⟨⟨?_,?_,?_,?_⟩,?_⟩,?_⟩,?_⟩
 ·exact aE (aE h.own.1.1 hC A2) O1 (fun k hk e=>n1 ((List.mem_singleton.1 e)▸hk))
 ·exact aE (aE h.own.1.2.1 hC B1) O1 (fun k hk e=>n2 ((List.mem_singleton.1 e)▸hk))
 ·exact aE hrow O1 (fun k hk e=>npv ((List.mem_singleton.1 e)▸hk))
 ·exact aE (aE h.own.1.2.2.2 hC (fun k hk e=>C1 k e hk)) O1 (fun k hk e=>n4 ((List.mem_singleton.1 e)▸hk))
 ·have nd:=h.own.2;unfold lK at nd ⊢;simp only[List.nodup_append,List.mem_append]at nd ⊢;obtain⟨⟨⟨q1,q2,q3⟩,q4,q5⟩,q6,q7⟩:=nd;have r1:=ap vr A2 (fun k hk=>(hl k (dV.1 _ hk)).2);have r2:=ap vo B1 (fun k hk=>(hl k (dV.2.1 _ hk)).2);have r4:=ap vs (fun k hk e=>C1 k e hk) (fun k hk=>(hl k (dV.2.2.2 _ hk)).2);refine⟨⟨⟨q1,q2,q3⟩,vK v',fun a ha b hb e => ?_⟩,q6,fun a ha b hb e => ?_⟩
  ·subst e;rcases ha with ha|ha
   ·exact r1 a ha hb
   ·exact r2 a ha hb
  ·subst e;rcases ha with ha|ha
   ·exact q7 a (.inl ha) a hb rfl
   ·exact r4 a hb ha
 ·intro e;unfold lK at e;simp only[List.mem_append]at e;rcases e with ((e|e)|e)|e
  ·exact n1 e
  ·exact n2 e
  ·exact npv e
  ·exact n4 e
 ·exact (hC.mono (fun k hk=>List.mem_cons_of_mem _ hk)).trans (O1.mono (fun k hk=>by simp at hk;simp[hk]))
structure jo (W0 W:World) (P:Nat) (vm0 vm:Value):Prop where
 ch:Ch (P :: blk vm0) W0 W
 at':∀k ∈ blk vm,k ∈ blk vm0∨W0.heap.size≤k
theorem jo.refl (W:World) (P:Nat) (vm:Value):jo W W P vm vm:=⟨Ch.refl _ _,fun k hk => .inl hk⟩
theorem jo.below {W0 W W':World} {P:Nat} {vm0 vm:Value} (h:jo W0 W P vm0 vm) (hb:Below W.heap.size W W'):jo W0 W' P vm0 vm:=⟨h.ch.trans (bu hb),h.at'⟩
theorem jo.next {W0 W W':World} {P:Nat} {vm0 vm v':Value} (h:jo W0 W P vm0 vm) (hc:Ch (P :: blk vm) W W') (hat:∀k ∈ blk v',k ∈ blk vm∨W.heap.size≤k):jo W0 W' P vm0 v':=by
 refine⟨⟨hc.os.trans h.ch.os,hc.tape.trans h.ch.tape,hc.output.trans h.ch.output,Nat.le_trans h.ch.size hc.size,fun k hk hn => ?_⟩,fun k hk => ?_⟩
 ·refine (hc.block k (Nat.lt_of_lt_of_le hk h.ch.size) (fun e => ?_)).trans (h.ch.block k hk hn);rcases List.mem_cons.1 e with e|e
  ·exact hn (by simp[e])
  ·rcases h.at' k e with e|e
   ·exact hn (by simp[e])
   ·omega
 ·rcases hat k hk with e|e
  ·exact h.at' k e
  ·exact .inr (Nat.le_trans h.ch.size e)
def jG (H:Hp) (R:gr.Gr) (k:Nat):Hp:= { H with row:=n9 H (bN H) (il R) (bN H).length,a7:=H.a7++(rU H R).take k }
theorem vL (H:Hp) (R:gr.Gr):jG H R 0 = { H with row:=n9 H (bN H) (il R) (bN H).length,roots:=H.roots,a7:=H.a7 }:=by simp[jG]
theorem yZ {H:Hp} {R:gr.Gr} {k:Nat} (h:(rU H R).length≤k):jG H R k=xU H R:=by unfold jG xU;rw[List.take_of_length_le h]
theorem qU (H:Hp) (R:gr.Gr):(rU H R).length=R.a7.length-H.a7.length:=by simp[rU]
theorem vM {H:Hp} {R:gr.Gr} {k p:Nat} (hk:H.a7.length+k<R.a7.length) (hr:R.a7.getD (H.a7.length+k) gr.bU=(2,(p:Int)+1)):jG H R (k+1) = { jG H R k with a7:=(jG H R k).a7++[4*(bN H).getD p 0+4] }:=by
 unfold jG
 have e:(rU H R)[k]? = some (4*(bN H).getD p 0+4):=by
  unfold rU;rw[List.getElem?_map,List.getElem?_drop,List.getElem?_eq_getElem hk];rw[List.getD_eq_getElem?_getD,List.getElem?_eq_getElem hk,Option.getD_some]at hr;rw[hr];show some (4*(bN H).getD ((p:Int)+1-1).toNat 0+4)=_
  rw[show ((p:Int)+1-1).toNat=p by omega]
 rw[List.take_add_one,e];simp[List.append_assoc]
end Go.Proofs.YtocidankimefpaaGreatDoor.hp
namespace Go.Proofs.YtocidankimefpaaGreatDoor.gr
open Go.RowKit rows heads
def Fms (G R:Gr):Prop:=∀i,(R.objs.getD i obD).fmt=(G.objs.getD i obD).fmt∨(R.objs.getD i obD).fmt=0
theorem GB {G:Gr} {p:Nat} (hp:p<G.objs.length):Fms G (eK G p):=fun i=>by
 show ((aZ G.objs p).getD i obD).fmt=_∨_
 rw[gP hp];split
 ·exact .inr (by show ((aZ G.objs p).getD i obD).fmt=0;rw[gP hp,if_pos (by assumption)])
 ·exact .inl rfl
theorem Fms.trans {G R T:Gr} (h:Fms G R) (k:Fms R T):Fms G T:=fun i=>by
 rcases k i with e|e
 ·rcases h i with e2|e2
  ·exact .inl (e.trans e2)
  ·exact .inr (e.trans e2)
 ·exact .inr e
theorem vN:∀ {ps:List Nat} {G:Gr},(∀p ∈ ps,p<G.objs.length)→Fms G (dH G ps)
 | [],G,_=>fun i => .inl rfl
 |p :: ps,G,h=>(GB (h p (by simp))).trans (vN (ps:=ps) (fun q hq=>by rw[iX];exact h q (by simp[hq])))
theorem sT:∀ {L:List (List Nat)} {G R:Gr},qI L G R→Fms G R
 | [],G,R,h=>by
   have e:R=G:=h.2;rw[e];exact fun i => .inl rfl
 |ps :: L,G,R,h=>by
  obtain⟨h1,h2,h3⟩:=h;exact (vN (fun p hp=>jY ((h2.2 p).1 hp))).trans (sT h3)
theorem Ag {G R:Gr} (h:fe G R):Fms G R:=by
 obtain⟨L,hL⟩:=h;exact sT hL
theorem ke {G R:Gr} (hr:gG G) (h:fe G R):gG R:=by
 obtain⟨L,hL⟩:=h;exact oG hr hL
theorem EH {w w':World} {base P:Nat} {G:Gr} {S:List Nat} (h:kZ w base P G) (hc:Ch S w w') (hS:∀k ∈ S,k<base):kZ w' base P G:=by
 obtain⟨o,r,m,ms,T,O,N,hb⟩:=h;exact⟨o,r,m,ms,eV T hc (fun e=>by have:=hS P e;omega),fN O hc (fun k hk e=>by have:=(dz O k hk).1;have:=hS k e;omega),N,hb⟩
theorem qV {w w':World} {base P:Nat} {G:Gr} {S A:List Nat} (h:cU w base P G A) (hc:Ch S w w') (hS:∀k ∈ S,k<base):cU w' base P G A:=by
 obtain⟨o,r,m,ms,T,O,N,hb,HS⟩:=h;exact⟨o,r,m,ms,eV T hc (fun e=>by have:=hS P e;omega),fN O hc (fun k hk e=>by have:=(dz O k hk).1;have:=hS k e;omega),N,hb,HS⟩
theorem nT {w:World} {base P:Nat} {G:Gr} (H:kZ w base P G) {i:Nat} (hi:i<G.objs.length):∃q0 c0,w.cell? ⟨P,0,none⟩=some (.slice (some ⟨q0,0,none⟩) G.objs.length c0)∧w.cell? ⟨q0,i*5+2,none⟩=some (.int .i64 (G.objs.getD i obD).fmt)∧base≤q0:=by
 obtain⟨q0,c0,r1,r2,r3,m1,m2,m3,ms,sa,sc,T,O,N,hb,him,_,_,_⟩:=yV H hi;obtain⟨z0,_,_,_,_,_⟩:=ak T;have hq:q0 ∈ cj (.slice (some ⟨q0,0,none⟩) G.objs.length c0) (.slice r1 r2 r3) (.slice m1 m2 m3) ms:=by simp only[cj,List.mem_append];exact .inl (.inl (.inl (by simp[jh])))
 have hidg:(ms.getD i moD).abs.fmt=(G.objs.getD i obD).fmt:=by rw[←O.1,fo]
 obtain⟨⟨a0,c0',e,_,_,_,hco⟩,_⟩:=jU O.2.1;injection e with e4 e5 e6
 obtain⟨b',off',e7,_,hcc⟩:=hco (by omega);have e8:=e4.trans e7;injection e8 with e8
 injection e8 with e8 e9
 obtain⟨_,_,y2,_,_⟩:=hcc i him;rw[←e8,←e9]at y2;simp only[Nat.zero_add]at y2;rw[←hidg];exact⟨q0,c0,z0,y2,(dz O q0 hq).1⟩
theorem qW {w:World} {base P:Nat} {G:Gr} (H:kZ w base P G):∃a c,w.cell? ⟨P,2,none⟩=some (.slice a G.a7.length c)∧base≤P∧P<w.heap.size∧(0<G.a7.length→∃b off,a=some ⟨b,off,none⟩∧base≤b∧b<w.heap.size∧∀i,i<G.a7.length→w.cell? ⟨b,off+i*2,none⟩=some (.int .i64 (G.a7.getD i bU).1)∧w.cell? ⟨b,off+i*2+1,none⟩=some (.int .i64 (G.a7.getD i bU).2)):=by
 obtain⟨o,r,m,ms,T,O,N,hb⟩:=H;obtain⟨_,_,z2,_,_,_⟩:=ak T;have hR:=cB O.2.2.2.1;have hl:=aM O.2.2.2.1;obtain⟨a,c,rfl,_,_,_,hc⟩:=hR;refine⟨a,c,z2,hb,lt_of_block T,fun h => ?_⟩
 obtain⟨b,off,rfl,h1,h2⟩:=hc h;exact⟨b,off,rfl,(hl b (by simp[blk,Value.ownBlock])).1,h1,h2⟩
end Go.Proofs.YtocidankimefpaaGreatDoor.gr
namespace Go.Proofs.YtocidankimefpaaGreatDoor.hp
open Go.RowKit rows heads words walks
theorem vO {w:World} {base:Nat} {v:Value} {es:List Int} {vb:Nat} {x:Int} (hown:rows.Own w base v es) (hvb:w.heap[vb]? = some (.cells #[.int .i64 x] 2 (0,0))) (hl:es.length≤1000000) (hbase:base≤w.heap.size) (ty:TypeId) :
    ∃va vn vc w',(Builtin.append_ #[22,22] ty #[v,.slice (some ⟨vb,0,none⟩) 1 1]).run Tryz.prog w = .ok (.slice va vn vc) w'∧rows.Own w' base (.slice va vn vc) (es++[x])∧Ch (blk v) w w'∧∀k ∈ blk (.slice va vn vc),k ∈ blk v∨w.heap.size≤k:=by
 obtain⟨i0,hi,hz0,hz1,hz2⟩:=info_parts info;have F:Full w vb [x]:=hvb;obtain⟨v',w',hr,h2,h3,_,h5⟩:=run_append_own_at (P:=Tryz.prog) w base 22 ty 2 i0 (.int .i64 0) 1 8 Tryz.underlying22 hi hz0 hz1 hz2 rfl (by decide) v es.length (cellsOf es) hown ⟨vb,0,none⟩ 1 1 (cellsOf [x]) (by simp) (cA (aj (fZ (base:=0) F (Nat.zero_le _) (show 1≤maxLen by decide)))) (sj [x]) (by unfold maxLen;omega) (by omega) hbase
 have O':rows.Own w' base v' (es++[x]):=by
  show World.ownsRow _ _ _ _ _ _ _
  rw[List.length_append,lU];exact h2
 obtain⟨va,vn,vc,rfl⟩:=bl (aj O');refine⟨va,vn,vc,w',hr,O',cJ h3,fun k hk => ?_⟩
 unfold blk at hk ⊢;rcases h5 with e|e
 ·rw[e]at hk;exact .inl hk
 ·rw[e]at hk;simp at hk;exact .inr (by omega)
theorem chG {S:List Nat} {w w':World} (h:Ch S w w'):gr.Ch S w w':=⟨h.os,h.tape,h.output,h.size,h.block⟩
theorem qK {s f c h:Int} {p m:Bool} (hk:hok s f c h p m=true) (h6:f≠6):hok s 0 c h p m=true:=by
 unfold hok at hk ⊢;rw[if_neg h6]at hk;rw[if_neg (by decide)];simp only[Bool.and_eq_true]at hk;simp[hk.1.1.2,hk.1.2,hk.2]
theorem Il {s f c h:Int} {p m:Bool} (hk:hok s f c h p m=true):pkd s f c h p m=pk s f c h p m:=by unfold pkd;rw[if_pos hk]
end Go.Proofs.YtocidankimefpaaGreatDoor.hp
namespace Go.Proofs.YtocidankimefpaaGreatDoor.hp
open Go.RowKit rows heads words walks region
set_option maxHeartbeats 16000000 in
theorem Ah {w:World} {vr vo vm vs:Value} {H:Hp} (h:eW w vr vo vm vs H) {ps:List Int} (R:Rt H ps) {oa:Option Addr} {oc:Nat} {L:List Int} (hL:au w (.slice oa L.length oc) L) (hl:L.length≤1000) (x:Int) (hx:aP H ps x=true) (ht:∀a,tgt H x=some a→a ∈ L) :
    Calls Tryz.prog 92 #[hpv H vr vo vm vs,.slice oa L.length oc,.int .i64 x] w fun e w'=>e = .returned (gr.rv (cW H L x))∧Below w.heap.size w w':=by
 obtain⟨a1,c1,a2,c2,a3,c3,a4,c4,e1,e2,e3,e4⟩:=aK h;subst e1 e2 e3 e4;have B1:Below w.heap.size w ((w.alloc (hpb H (.slice a1 H.row.length c1) (.slice a2 H.roots.length c2) (.slice a3 H.a7.length c3) (.slice a4 H.seen.length c4))).alloc (.cells #[.int .i64 0,.int .i64 0] 63)):=((Below.refl _ _).alloc (Nat.le_refl _) _).alloc (by simp) _;have HALL:Hid (∃X,X=(w.alloc (hpb H (.slice a1 H.row.length c1) (.slice a2 H.roots.length c2) (.slice a3 H.a7.length c3) (.slice a4 H.seen.length c4))).alloc (.cells #[.int .i64 0,.int .i64 0] 63)∧X.heap[w.heap.size]? = some (hpb H (.slice a1 H.row.length c1) (.slice a2 H.roots.length c2) (.slice a3 H.a7.length c3) (.slice a4 H.seen.length c4))∧X.heap[w.heap.size+1]? = some (gr.rb (0,0))∧Below w.heap.size w X):=⟨_,rfl,heap_alloc2_old _ _ _,heap_alloc2_new _ _ _,B1⟩;have HFO:Hid (∀V,Below w.heap.size w V→Calls Tryz.prog 91 #[hpv H (.slice a1 H.row.length c1) (.slice a2 H.roots.length c2) (.slice a3 H.a7.length c3) (.slice a4 H.seen.length c4),.int .i64 x] V fun e w'=>e = .returned (.int .i64 (fol H x))∧Below V.heap.size V w'):=fun V hV=>mQ (aD h hV) R x hx
 have HL:Hid _:=hL;have HTI:Hid (isI (fol H x)=true→cW H L x=(1,iv (fol H x))):=fun e=>by unfold cW;rw[if_pos e]
 have HTN:Hid (isI (fol H x)=false→isA (fol H x)=false→cW H L x=(0,0)):=fun e1 e2=>by unfold cW;rw[if_neg (by rw[e1];decide),if_neg (by rw[e2];decide)]
 have HTA:Hid (isI (fol H x)=false→isA (fol H x)=true→cW H L x=(2,(pj L (av (fol H x)):Int)+1)∧av (fol H x) ∈ L):=fun e1 e2=>⟨by unfold cW;rw[if_neg (by rw[e1];decide),if_pos e2],ht _ (by unfold tgt;rw[if_pos e2])⟩
 clear B1 h R hL hx ht;obtain⟨E,hE⟩:∃E,cW H L x=E:=⟨_,rfl⟩
 rw[hE]at HTI HTN HTA ⊢;clear hE;generalize fol H x=y at *;go_enter Tryz.func92,Tryz.ntmps92;go_upto_region 1 with fail
 obtain⟨X,hX,q0,q1,BX⟩:=HALL.out;rw[←hX];clear hX HALL;have HBX:Hid _:=BX;have HQ1:Hid _:=q1;obtain⟨⟨z0,z1,z2,z3,z4⟩,⟨z5,z6,z7,z8⟩,_⟩:=ag q0;have FO:=HFO.out X BX;clear HFO q0 q1 BX;go_wp2_with fail;refine FO.mono ?_;clear FO z0 z1 z2 z3 z4 z5 z6 z7 z8;rintro e w3 ⟨rfl,b3⟩;have q3:=(b3.block _ (lt_of_block HQ1.out)).trans HQ1.out;obtain⟨r0,r1,rf⟩:=gr.kM q3;have rf0:=rf 0;have rf1:=rf 1;have HQ3:Hid _:=q3;have HB3:Hid _:=HBX.out.trans (b3.mono HBX.out.size);clear b3 q3 rf HBX HQ1;have SI:=Am y;cases dI:isI y
 ·rw[dI]at SI;have SA:=dG y;cases dA:isA y
  ·rw[dA]at SA;have HE:Hid _:=HTN.out dI dA;clear dI dA HTI HTN HTA
   go_wp2_with (first
    |(go_at_call 140;refine (SI _).mono ?_;clear SI;rintro e w4 ⟨rfl,hw4⟩;rw[hw4];clear hw4 w4)
    |(go_at_call 87;refine (SA _).mono ?_;clear SA;rintro e w4 ⟨rfl,hw4⟩;rw[hw4];clear hw4 w4))
   exact bodyPost_ret (gr.sM rfl rfl (gr.vC HQ3.out 0 0)) rfl ⟨by rw[HE.out],(HB3.out.setCell (p:=⟨w.heap.size+1,0,none⟩) (Nat.le_succ _) _).setCell (p:=⟨w.heap.size+1,1,none⟩) (Nat.le_succ _) _⟩
  ·rw[dA]at SA;obtain⟨hE,hm⟩:=HTA.out dI dA;have HE:Hid _:=hE;have HM:Hid _:=hm;clear dI dA HTI HTN HTA hE hm;generalize av y=a at *
   go_wp2_with (first
    |(go_at_call 140;refine (SI _).mono ?_;clear SI;rintro e w4 ⟨rfl,hw4⟩;rw[hw4];clear hw4 w4)
    |(go_at_call 87;refine (SA _).mono ?_;clear SA;rintro e w4 ⟨rfl,hw4⟩;rw[hw4];clear hw4 w4))
   go_loopw [11] (fun q wz=>∃k:Nat,k≤L.length∧q = .int .i64 (k:Int)∧(∀t,t<k→L.getD t 0≠a)∧wz=w3) (fun q _=>L.length-(intOf q).toNat);case atStart=>exact⟨0,Nat.zero_le _,rfl,fun t ht=>by omega,rfl⟩
   case round=>
    obtain⟨k,hk,rfl,hne,rfl⟩:=hrel
    have hlt:k<L.length:=by
     rcases Nat.lt_or_ge k L.length with h|h
     ·exact h
     ·obtain⟨t,ht,et⟩:=List.getElem_of_mem HM.out;exact absurd (by rw[List.getD_eq_getElem?_getD,List.getElem?_eq_getElem ht];exact et) (hne t (by omega))
    obtain⟨lb,lo,ea,hlb,x0⟩:=bp (aa HL.out HB3.out) hlt;subst ea;have hlt':(k:Int)<(L.length:Int):=by omega
    by_cases hka:L.getD k 0=a
    ·have HI:Hid _:=yj hlt hka hne;rw[hka]at x0;have hka':(a != a)=false:=by simp
     clear hne hka;go_wp2_with fail;exact bodyPost_ret (gr.sM rfl rfl (gr.vC HQ3.out 2 ((k:Int)+1))) rfl ⟨by rw[HE.out,HI.out],(HB3.out.setCell (p:=⟨w.heap.size+1,0,none⟩) (Nat.le_succ _) _).setCell (p:=⟨w.heap.size+1,1,none⟩) (Nat.le_succ _) _⟩
    ·have HNE:Hid (∀t,t<k+1→L.getD t 0≠a):=fun t ht=>by
       by_cases e:t=k
       ·rw[e];exact hka
       ·exact hne t (by omega)
     have hka':(L.getD k 0 != a)=true:=by simpa using hka
     generalize L.getD k 0=b at *;clear hne;go_wp2;exact⟨⟨k+1,by omega,by go_num,HNE.out,by first|rfl|trivial⟩,by simp[intOf];omega⟩
 ·rw[dI]at SI;have HE:Hid _:=HTI.out dI;clear dI HTI HTN HTA;generalize iv y=n at *;go_wp2_with (go_at_call 140;refine (SI _).mono ?_;clear SI;rintro e w4 ⟨rfl,hw4⟩;rw[hw4];clear hw4 w4);exact bodyPost_ret (gr.sM rfl rfl (gr.vC HQ3.out 1 n)) rfl ⟨by rw[HE.out],(HB3.out.setCell (p:=⟨w.heap.size+1,0,none⟩) (Nat.le_succ _) _).setCell (p:=⟨w.heap.size+1,1,none⟩) (Nat.le_succ _) _⟩
end Go.Proofs.YtocidankimefpaaGreatDoor.hp
namespace Go.Proofs.YtocidankimefpaaGreatDoor.hp
open Go.RowKit rows heads words walks
def lH (H:Hp) (R:gr.Gr):Hp:=if dv H=true then xU H R else hp0
theorem Ai {H:Hp} {R:gr.Gr} (hM:dv H=true→gr.fe (grS H (bN H)) R) (hs:bI H≤1048576):bI (lH H R)≤1048576:=by
 unfold lH;split
 ·rename_i h
  obtain⟨ps,RR⟩:=EU (kS h).1;have hR40:R.a7.length≤40:=(gr.ko (gr.ke (mT RR) (hM h)).head).2.2.1;have hrl:=RR.len;have hdl:=iC H (bN H) (il R) (bN H).length;obtain⟨N,_,r,u,_,hu,_,e⟩:=bQ RR.some';have hl:=(gQ RR.some').2;rw[e,List.length_append]at hl;have hm40:=N.a7;have hr6:=N.roots;have hml:=qU H R
  have hsn:H.seen.length≤500:=by
   rw[(kS h).2];unfold jF;rw[hu,Option.getD_some];exact Nat.le_trans (List.length_filter_le _ _) (by omega)
  show (n9 H (bN H) (il R) (bN H).length).length+H.roots.length+(H.a7++rU H R).length+H.seen.length≤_
  rw[List.length_append];omega
 ·exact Nat.zero_le _
theorem xV {H:Hp}:∃R,dv H=true→gr.fe (grS H (bN H)) R:=by
 by_cases h:dv H=true
 ·obtain⟨ps,RR⟩:=EU (kS h).1;obtain⟨R,hR⟩:=gr.vz _ (mT RR) (Nat.le_refl _);exact⟨R,fun _=>hR⟩
 ·exact⟨grS H (bN H),fun e=>absurd e h⟩
structure CpS (w W:World) (H:Hp) (vr vo vm vs c2 c5 c6 c7:Value):Prop where
 n0:eJ W w.heap.size 26 (.int .i64 H.half) (.int .i64 H.old) vr (.int .i64 H.side) (.int .i64 H.top) vo vm vs (.int .i64 H.seed)
 n1:eJ W (w.heap.size+1) 26 (.int .i64 0) (.int .i64 0) (.slice none 0 0) (.int .i64 0) (.int .i64 0) (.slice none 0 0) (.slice none 0 0) (.slice none 0 0) (.int .i64 0)
 n2:eJ W (w.heap.size+2) 26 (.int .i64 H.half) (.int .i64 H.old) c2 (.int .i64 H.side) (.int .i64 H.top) c5 c6 c7 (.int .i64 H.seed)
 below:Below w.heap.size w W
 size:w.heap.size+3≤W.heap.size
theorem CpS.grow {w W W':World} {H:Hp} {vr vo vm vs c2 c5 c6 c7:Value} (h:CpS w W H vr vo vm vs c2 c5 c6 c7) (hb:Below W.heap.size W W'):CpS w W' H vr vo vm vs c2 c5 c6 c7:=⟨ai h.n0 hb,ai h.n1 hb,ai h.n2 hb,h.below.trans (hb.mono h.below.size),Nat.le_trans h.size hb.size⟩
theorem CpS.fields {w W:World} {H:Hp} {vr vo vm vs c2 c5 c6 c7:Value} (h:CpS w W H vr vo vm vs c2 c5 c6 c7) {W':World} {d2 d5 d6 d7:Value} (hc:Ch [w.heap.size+2] W W') (h2:eJ W' (w.heap.size+2) 26 (.int .i64 H.half) (.int .i64 H.old) d2 (.int .i64 H.side) (.int .i64 H.top) d5 d6 d7 (.int .i64 H.seed)):CpS w W' H vr vo vm vs d2 d5 d6 d7:=
 ⟨cx h.n0 hc (by simp),cx h.n1 hc (by simp),h2,h.below.trans (bn hc h.below.size (fun k hk=>by simp at hk;omega)),Nat.le_trans h.size hc.size⟩
theorem iL {W:World} {base b k:Nat} {v u:Value} {xs:List Int} (h:rows.Own W base v xs) (hb:b<base):rows.Own (W.setCell ⟨b,k,none⟩ u) base v xs:=aE (S:=[b]) h (aH _ _ _ _) (fun j hj=>by have:=(aM h j hj).1;simp;omega)
set_option maxHeartbeats 16000000 in
theorem Aj {w:World} {vr vo vm vs:Value} {H:Hp} (h:eW w vr vo vm vs H) (hs:bI H≤1048576) :
    Calls Tryz.prog 16 #[hpv H vr vo vm vs] w fun e w'=>∃g1 g2 g3 k1 k2 k3 s',e = .returned (hpv H (.slice (some ⟨g1,0,none⟩) H.row.length k1) (.slice (some ⟨g2,0,none⟩) H.roots.length k2) (.slice (some ⟨g3,0,none⟩) H.a7.length k3) s')∧rR w' w.heap.size (.slice (some ⟨g1,0,none⟩) H.row.length k1) (.slice (some ⟨g2,0,none⟩) H.roots.length k2) (.slice (some ⟨g3,0,none⟩) H.a7.length k3) s' H∧Below w.heap.size w w':=by
 obtain⟨a1,c1,a2,c2,a3,c3,a4,c4,e1,e2,e3,e4⟩:=aK h;subst e1 e2 e3 e4;have l1:H.row.length≤1048576:=by unfold bI at hs;omega
 have l2:H.roots.length≤1048576:=by unfold bI at hs;omega
 have l3:H.a7.length≤1048576:=by unfold bI at hs;omega
 have l4:H.seen.length≤1048576:=by unfold bI at hs;omega
 have HH:Hid _:=h;have B0:Below w.heap.size w (w.alloc (hpb H (.slice a1 H.row.length c1) (.slice a2 H.roots.length c2) (.slice a3 H.a7.length c3) (.slice a4 H.seen.length c4))):=(Below.refl _ _).alloc (Nat.le_refl _) _;have B1:=B0.alloc B0.size (hpb ⟨0,0,[],0,0,[],[],[],0⟩ (.slice none 0 0) (.slice none 0 0) (.slice none 0 0) (.slice none 0 0));have T0:=de w H (.slice a1 H.row.length c1) (.slice a2 H.roots.length c2) (.slice a3 H.a7.length c3) (.slice a4 H.seen.length c4);have T0':=ai T0 ((Below.refl _ _).alloc (Nat.le_refl _) (hpb ⟨0,0,[],0,0,[],[],[],0⟩ (.slice none 0 0) (.slice none 0 0) (.slice none 0 0) (.slice none 0 0)));have T1:eJ ((w.alloc (hpb H (.slice a1 H.row.length c1) (.slice a2 H.roots.length c2) (.slice a3 H.a7.length c3) (.slice a4 H.seen.length c4))).alloc (hpb ⟨0,0,[],0,0,[],[],[],0⟩ (.slice none 0 0) (.slice none 0 0) (.slice none 0 0) (.slice none 0 0))) (w.heap.size+1) 26 (.int .i64 0) (.int .i64 0) (.slice none 0 0) (.int .i64 0) (.int .i64 0) (.slice none 0 0) (.slice none 0 0) (.slice none 0 0) (.int .i64 0):=(congrArg (fun k=>((w.alloc (hpb H (.slice a1 H.row.length c1) (.slice a2 H.roots.length c2) (.slice a3 H.a7.length c3) (.slice a4 H.seen.length c4))).alloc (hpb ⟨0,0,[],0,0,[],[],[],0⟩ (.slice none 0 0) (.slice none 0 0) (.slice none 0 0) (.slice none 0 0))).heap[k]?) (show w.heap.size+1=(w.alloc (hpb H (.slice a1 H.row.length c1) (.slice a2 H.roots.length c2) (.slice a3 H.a7.length c3) (.slice a4 H.seen.length c4))).heap.size by simp)).trans (heap_alloc_new _ _);have HB1:Hid _:=B1;have HT0:Hid _:=T0';have HT1:Hid _:=T1;have sX:w.heap.size+2=((w.alloc (hpb H (.slice a1 H.row.length c1) (.slice a2 H.roots.length c2) (.slice a3 H.a7.length c3) (.slice a4 H.seen.length c4))).alloc (hpb ⟨0,0,[],0,0,[],[],[],0⟩ (.slice none 0 0) (.slice none 0 0) (.slice none 0 0) (.slice none 0 0))).heap.size:=by simp
 clear h B0 B1 T0 T0' T1 hs;go_enter Tryz.func16,Tryz.ntmps16;go_upto_region 1 with fail
 generalize hX:(w.alloc _).alloc _=X at *;have HsX:Hid _:=sX;clear hX sX;obtain⟨⟨z0,z1,z2,z3,z4⟩,⟨z5,z6,z7,z8⟩,_⟩:=ag HT0.out;go_upto_region 2 with fail
 have BX:Below X.heap.size X (X.alloc (hpb H (.slice a1 H.row.length c1) (.slice a2 H.roots.length c2) (.slice a3 H.a7.length c3) (.slice a4 H.seen.length c4))):=(Below.refl _ _).alloc (Nat.le_refl _) _;have HS0:Hid (CpS w (X.alloc (hpb H (.slice a1 H.row.length c1) (.slice a2 H.roots.length c2) (.slice a3 H.a7.length c3) (.slice a4 H.seen.length c4))) H (.slice a1 H.row.length c1) (.slice a2 H.roots.length c2) (.slice a3 H.a7.length c3) (.slice a4 H.seen.length c4) (.slice a1 H.row.length c1) (.slice a2 H.roots.length c2) (.slice a3 H.a7.length c3) (.slice a4 H.seen.length c4)):=⟨ai HT0.out BX,ai HT1.out BX,by rw[HsX.out];exact heap_alloc_new _ _,HB1.out.trans (BX.mono HB1.out.size),by have:=HsX.out;simp;omega⟩;clear BX z0 z1 z2 z3 z4 z5 z6 z7 z8 HT0 HT1 HB1;have hXs:X.heap.size=w.heap.size+2:=HsX.out.symm;rw[hXs];generalize X.alloc (hpb H (.slice a1 H.row.length c1) (.slice a2 H.roots.length c2) (.slice a3 H.a7.length c3) (.slice a4 H.seen.length c4))=W at *;clear hXs HsX;have BA:Below W.heap.size W (W.alloc (.cells #[] 2)):=(Below.refl _ _).alloc (Nat.le_refl _) _;obtain⟨⟨z0,z1,z2,z3,z4⟩,⟨z5,z6,z7,z8⟩,_⟩:=ag (HS0.out.grow BA).n0;have IN:=aa HH.out.1 HS0.out.below;clear BA;go_upto_region 3 with (at_builtin;refine eA IN l1 rfl _ _ rfl (by simp[Act.eval]) rfl ?_;intro g1 k1 w11 hg hO hB;have HOA:Hid (rows.Own w11 W.heap.size (.slice (some ⟨g1,0,none⟩) H.row.length k1) H.row):=hO;have HB:Hid _:=hB;obtain⟨⟨y0,y1,y2,y3,y4⟩,⟨y5,y6,y7,y8⟩,yf⟩:=ag (HS0.out.grow hB).n2;have f2:=yf 2;clear hO hB yf z0 z1 z2 z3 z4 z5 z6 z7 z8 IN)
 have HS1:Hid (CpS w (w11.setCell ⟨w.heap.size+2,2,none⟩ (.slice (some ⟨g1,0,none⟩) H.row.length k1)) H (.slice a1 H.row.length c1) (.slice a2 H.roots.length c2) (.slice a3 H.a7.length c3) (.slice a4 H.seen.length c4) (.slice (some ⟨g1,0,none⟩) H.row.length k1) (.slice a2 H.roots.length c2) (.slice a3 H.a7.length c3) (.slice a4 H.seen.length c4)):=(HS0.out.grow HB.out).fields (aH _ _ _ _) (mw (HS0.out.grow HB.out).n2 _);have HO1:Hid (rows.Own (w11.setCell ⟨w.heap.size+2,2,none⟩ (.slice (some ⟨g1,0,none⟩) H.row.length k1)) (w.heap.size+3) (.slice (some ⟨g1,0,none⟩) H.row.length k1) H.row):=iL (cL HOA.out HS0.out.size) (by omega);clear HOA HB hg y0 y1 y2 y3 y4 y5 y6 y7 y8 HS0 f2;generalize w11.setCell ⟨w.heap.size+2,2,none⟩ (.slice (some ⟨g1,0,none⟩) H.row.length k1)=V1 at *;have HL1:Hid (g1<V1.heap.size):=(jD HO1.out g1 rfl).2;have BA:Below V1.heap.size V1 (V1.alloc (.cells #[] 2)):=(Below.refl _ _).alloc (Nat.le_refl _) _;obtain⟨⟨z0,z1,z2,z3,z4⟩,⟨z5,z6,z7,z8⟩,_⟩:=ag (HS1.out.grow BA).n0;have IN:=aa HH.out.2.1 HS1.out.below;clear BA;go_upto_region 4 with (at_builtin;refine eA IN l2 rfl _ _ rfl (by simp[Act.eval]) rfl ?_;intro g2 k2 w12 hg hO hB;have HOA:Hid (rows.Own w12 V1.heap.size (.slice (some ⟨g2,0,none⟩) H.roots.length k2) H.roots):=hO;have HB:Hid _:=hB;obtain⟨⟨y0,y1,y2,y3,y4⟩,⟨y5,y6,y7,y8⟩,yf⟩:=ag (HS1.out.grow hB).n2;have f5:=yf 5;clear hO hB yf z0 z1 z2 z3 z4 z5 z6 z7 z8 IN)
 have HS2:Hid (CpS w (w12.setCell ⟨w.heap.size+2,5,none⟩ (.slice (some ⟨g2,0,none⟩) H.roots.length k2)) H (.slice a1 H.row.length c1) (.slice a2 H.roots.length c2) (.slice a3 H.a7.length c3) (.slice a4 H.seen.length c4) (.slice (some ⟨g1,0,none⟩) H.row.length k1) (.slice (some ⟨g2,0,none⟩) H.roots.length k2) (.slice a3 H.a7.length c3) (.slice a4 H.seen.length c4)):=(HS1.out.grow HB.out).fields (aH _ _ _ _) (mz (HS1.out.grow HB.out).n2 _);have HO2:Hid (rows.Own (w12.setCell ⟨w.heap.size+2,5,none⟩ (.slice (some ⟨g2,0,none⟩) H.roots.length k2)) (w.heap.size+3) (.slice (some ⟨g2,0,none⟩) H.roots.length k2) H.roots):=iL (cL HOA.out HS1.out.size) (by omega);have HO1:Hid (rows.Own (w12.setCell ⟨w.heap.size+2,5,none⟩ (.slice (some ⟨g2,0,none⟩) H.roots.length k2)) (w.heap.size+3) (.slice (some ⟨g1,0,none⟩) H.row.length k1) H.row):=iL (aB HO1.out HB.out) (by omega);have HD12:Hid (g1<g2):=Nat.lt_of_lt_of_le HL1.out hg;clear HOA HB hg y0 y1 y2 y3 y4 y5 y6 y7 y8 HS1 f5;generalize w12.setCell ⟨w.heap.size+2,5,none⟩ (.slice (some ⟨g2,0,none⟩) H.roots.length k2)=V2 at *;have HL1:Hid (g1<V2.heap.size):=(jD HO1.out g1 rfl).2;have HL2:Hid (g2<V2.heap.size):=(jD HO2.out g2 rfl).2;have BA:Below V2.heap.size V2 (V2.alloc (.cells #[] 2)):=(Below.refl _ _).alloc (Nat.le_refl _) _;obtain⟨⟨z0,z1,z2,z3,z4⟩,⟨z5,z6,z7,z8⟩,_⟩:=ag (HS2.out.grow BA).n0;have IN:=aa HH.out.2.2.1 HS2.out.below;clear BA;go_upto_region 5 with (at_builtin;refine eA IN l3 rfl _ _ rfl (by simp[Act.eval]) rfl ?_;intro g3 k3 w13 hg hO hB;have HOA:Hid (rows.Own w13 V2.heap.size (.slice (some ⟨g3,0,none⟩) H.a7.length k3) H.a7):=hO;have HB:Hid _:=hB;obtain⟨⟨y0,y1,y2,y3,y4⟩,⟨y5,y6,y7,y8⟩,yf⟩:=ag (HS2.out.grow hB).n2;have f6:=yf 6;clear hO hB yf z0 z1 z2 z3 z4 z5 z6 z7 z8 IN)
 have HS3:Hid (CpS w (w13.setCell ⟨w.heap.size+2,6,none⟩ (.slice (some ⟨g3,0,none⟩) H.a7.length k3)) H (.slice a1 H.row.length c1) (.slice a2 H.roots.length c2) (.slice a3 H.a7.length c3) (.slice a4 H.seen.length c4) (.slice (some ⟨g1,0,none⟩) H.row.length k1) (.slice (some ⟨g2,0,none⟩) H.roots.length k2) (.slice (some ⟨g3,0,none⟩) H.a7.length k3) (.slice a4 H.seen.length c4)):=(HS2.out.grow HB.out).fields (aH _ _ _ _) (jX (HS2.out.grow HB.out).n2 _);have HO3:Hid (rows.Own (w13.setCell ⟨w.heap.size+2,6,none⟩ (.slice (some ⟨g3,0,none⟩) H.a7.length k3)) (w.heap.size+3) (.slice (some ⟨g3,0,none⟩) H.a7.length k3) H.a7):=iL (cL HOA.out HS2.out.size) (by omega);have HO1:Hid (rows.Own (w13.setCell ⟨w.heap.size+2,6,none⟩ (.slice (some ⟨g3,0,none⟩) H.a7.length k3)) (w.heap.size+3) (.slice (some ⟨g1,0,none⟩) H.row.length k1) H.row):=iL (aB HO1.out HB.out) (by omega);have HD13:Hid (g1<g3):=Nat.lt_of_lt_of_le HL1.out hg;have HO2:Hid (rows.Own (w13.setCell ⟨w.heap.size+2,6,none⟩ (.slice (some ⟨g3,0,none⟩) H.a7.length k3)) (w.heap.size+3) (.slice (some ⟨g2,0,none⟩) H.roots.length k2) H.roots):=iL (aB HO2.out HB.out) (by omega);have HD23:Hid (g2<g3):=Nat.lt_of_lt_of_le HL2.out hg;clear HOA HB hg y0 y1 y2 y3 y4 y5 y6 y7 y8 HS2 f6;generalize w13.setCell ⟨w.heap.size+2,6,none⟩ (.slice (some ⟨g3,0,none⟩) H.a7.length k3)=V3 at *;have HL1:Hid (g1<V3.heap.size):=(jD HO1.out g1 rfl).2;have HL2:Hid (g2<V3.heap.size):=(jD HO2.out g2 rfl).2;have HL3:Hid (g3<V3.heap.size):=(jD HO3.out g3 rfl).2;have BA:Below V3.heap.size V3 (V3.alloc (.cells #[] 2)):=(Below.refl _ _).alloc (Nat.le_refl _) _;obtain⟨⟨z0,z1,z2,z3,z4⟩,⟨z5,z6,z7,z8⟩,_⟩:=ag (HS3.out.grow BA).n0;have IN:=aa HH.out.2.2.2 HS3.out.below;clear BA;go_upto_region 6 with (at_builtin;refine eA IN l4 rfl _ _ rfl (by simp[Act.eval]) rfl ?_;intro g4 k4 w14 hg hO hB;have HOA:Hid (rows.Own w14 V3.heap.size (.slice (some ⟨g4,0,none⟩) H.seen.length k4) H.seen):=hO;have HB:Hid _:=hB;obtain⟨⟨y0,y1,y2,y3,y4⟩,⟨y5,y6,y7,y8⟩,yf⟩:=ag (HS3.out.grow hB).n2;have f7:=yf 7;clear hO hB yf z0 z1 z2 z3 z4 z5 z6 z7 z8 IN)
 have HS4:Hid (CpS w (w14.setCell ⟨w.heap.size+2,7,none⟩ (.slice (some ⟨g4,0,none⟩) H.seen.length k4)) H (.slice a1 H.row.length c1) (.slice a2 H.roots.length c2) (.slice a3 H.a7.length c3) (.slice a4 H.seen.length c4) (.slice (some ⟨g1,0,none⟩) H.row.length k1) (.slice (some ⟨g2,0,none⟩) H.roots.length k2) (.slice (some ⟨g3,0,none⟩) H.a7.length k3) (.slice (some ⟨g4,0,none⟩) H.seen.length k4)):=(HS3.out.grow HB.out).fields (aH _ _ _ _) (qG (HS3.out.grow HB.out).n2 _);have HO4:Hid (rows.Own (w14.setCell ⟨w.heap.size+2,7,none⟩ (.slice (some ⟨g4,0,none⟩) H.seen.length k4)) (w.heap.size+3) (.slice (some ⟨g4,0,none⟩) H.seen.length k4) H.seen):=iL (cL HOA.out HS3.out.size) (by omega);have HO1:Hid (rows.Own (w14.setCell ⟨w.heap.size+2,7,none⟩ (.slice (some ⟨g4,0,none⟩) H.seen.length k4)) (w.heap.size+3) (.slice (some ⟨g1,0,none⟩) H.row.length k1) H.row):=iL (aB HO1.out HB.out) (by omega);have HD14:Hid (g1<g4):=Nat.lt_of_lt_of_le HL1.out hg;have HO2:Hid (rows.Own (w14.setCell ⟨w.heap.size+2,7,none⟩ (.slice (some ⟨g4,0,none⟩) H.seen.length k4)) (w.heap.size+3) (.slice (some ⟨g2,0,none⟩) H.roots.length k2) H.roots):=iL (aB HO2.out HB.out) (by omega);have HD24:Hid (g2<g4):=Nat.lt_of_lt_of_le HL2.out hg;have HO3:Hid (rows.Own (w14.setCell ⟨w.heap.size+2,7,none⟩ (.slice (some ⟨g4,0,none⟩) H.seen.length k4)) (w.heap.size+3) (.slice (some ⟨g3,0,none⟩) H.a7.length k3) H.a7):=iL (aB HO3.out HB.out) (by omega);have HD34:Hid (g3<g4):=Nat.lt_of_lt_of_le HL3.out hg;clear HOA HB hg y0 y1 y2 y3 y4 y5 y6 y7 y8 HS3 f7;generalize w14.setCell ⟨w.heap.size+2,7,none⟩ (.slice (some ⟨g4,0,none⟩) H.seen.length k4)=V4 at *;have HL1:Hid (g1<V4.heap.size):=(jD HO1.out g1 rfl).2;have HL2:Hid (g2<V4.heap.size):=(jD HO2.out g2 rfl).2;have HL3:Hid (g3<V4.heap.size):=(jD HO3.out g3 rfl).2;have HL4:Hid (g4<V4.heap.size):=(jD HO4.out g4 rfl).2;obtain⟨⟨z0,z1,z2,z3,z4⟩,⟨z5,z6,z7,z8⟩,_⟩:=ag HS4.out.n2;obtain⟨⟨y0,y1,y2,y3,y4⟩,⟨y5,y6,y7,y8⟩,yf⟩:=ag HS4.out.n1;have f0:=yf 0;have f1:=yf 1;have f2:=yf 2;have f3:=yf 3;have f4:=yf 4;have f5:=yf 5;have f6:=yf 6;have f7:=yf 7;have f8:=yf 8;clear yf;have HB4:Hid _:=HS4.out.below;have HN1:Hid _:=HS4.out.n1;clear HS4;go_wp2_with fail;refine bodyPost_ret (gK rfl rfl (fB HN1.out _ _ _ _ _ _ _ _ _)) rfl ⟨_,_,_,_,_,_,_,rfl,⟨⟨?_,?_,?_,?_⟩,?_⟩,dF HB4.out (by omega) _ _ _ _ _ _ _ _ _⟩
 ·exact cL (aE (S:=[w.heap.size+1]) HO1.out (c9 _ _ _ _ _ _ _ _ _) (fun j hj=>by have:=(aM HO1.out j hj).1;simp;omega)) (by omega)
 ·exact cL (aE (S:=[w.heap.size+1]) HO2.out (c9 _ _ _ _ _ _ _ _ _) (fun j hj=>by have:=(aM HO2.out j hj).1;simp;omega)) (by omega)
 ·exact cL (aE (S:=[w.heap.size+1]) HO3.out (c9 _ _ _ _ _ _ _ _ _) (fun j hj=>by have:=(aM HO3.out j hj).1;simp;omega)) (by omega)
 ·exact cL (aE (S:=[w.heap.size+1]) HO4.out (c9 _ _ _ _ _ _ _ _ _) (fun j hj=>by have:=(aM HO4.out j hj).1;simp;omega)) (by omega)
 ·have q12:=HD12.out;have q13:=HD13.out;have q14:=HD14.out;have q23:=HD23.out;have q24:=HD24.out;have q34:=HD34.out;simp[lK,blk,Value.ownBlock];omega
set_option maxHeartbeats 4000000 in
theorem za {w:World} {s f c h:Int} {p m:Bool} {sa:Option Addr} {sn sc:Nat} {xs:List Int} (hx:0<xs.length)
    (hS:∀V,Below w.heap.size w V→Calls Tryz.prog 71 #[cv s f c h p m (.slice sa sn sc)] V fun e w'=>∃ua un uc,e = .returned (.slice ua un uc)∧au w' (.slice ua un uc) xs∧Below V.heap.size V w') :
    Calls Tryz.prog 153 #[cv s f c h p m (.slice sa sn sc)] w fun e w'=>e = .returned (.int .i64 (xs.getD 0 0))∧Below w.heap.size w w':=by
 obtain⟨y,hy⟩:∃y,xs.getD 0 0=y:=⟨_,rfl⟩
 rw[hy];have HYY:Hid _:=hy;clear hy;have B0:Below w.heap.size w (w.alloc (cb s f c h p m (.slice sa sn sc))):=(Below.refl _ _).alloc (Nat.le_refl _) _;have HB0:Hid _:=B0;have SC:=hS _ B0;clear hS B0;go_enter Tryz.func153,Tryz.ntmps153;go_wp2_with (go_at_call 71;refine SC.mono ?_;clear SC;rintro e w3 ⟨ua,un,uc,rfl,i3,b3⟩;have HB3:Hid _:=HB0.out.trans (b3.mono HB0.out.size);obtain⟨b,off,ea,_,x0⟩:=fU i3 hx;subst ea;obtain⟨a',c',e',l1,l2,_,_⟩:=i3;injection e' with e1 e2 e3;subst e1 e2 e3;rw[HYY.out]at x0;have x1:=x0;rw[Nat.add_zero]at x1;have hx':(0:Int)<(xs.length:Int):=(by omega);clear b3);go_ret;exact⟨rfl,HB3.out⟩
end Go.Proofs.YtocidankimefpaaGreatDoor.hp
