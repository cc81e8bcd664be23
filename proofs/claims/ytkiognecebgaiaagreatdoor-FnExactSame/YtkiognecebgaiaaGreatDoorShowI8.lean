/-
  Chapter 10 as the program has it: the graph while it is shown.
  Made from the template ShowI8.
-/
import Derived.Test.YtkiognecebgaiaaGreatDoorShowI7
import Derived.Test.YtkiognecebgaiaaGreatDoorM10
import Derived.Test.YtkiognecebgaiaaGreatDoorM5
namespace Go.Proofs.YtkiognecebgaiaaGreatDoor.hp
open Go.RowKit rows heads words walks Go.Maps
set_option maxRecDepth 100000
set_option linter.unusedVariables false
set_option linter.unusedSimpArgs false
def GrX (W:World) (P:Nat) (G:gr.Gr) (vm o r m:Value) (ms:List gr.MO):Prop:=gr.Five W P 27 o r m (.int .i64 G.next) (.int .i64 G.seed)∧gr.OwnG W P o r m ms G∧P ∉ gr.gblk o r m ms∧∀k ∈ gr.gblk o r m ms,k ∉ blk vm
structure ShG (W0:World) (C mb:Nat) (up:Int) (v:Value) (ds:List Pd) (P:Nat) (W:World) (es:List Pd) (vm:Value) (G:gr.Gr):Prop where
 sh:Sh W0 (P+1) C mb up v W es vm
 inD:∀d ∈ es,d ∈ ds
 lo:W0.heap.size≤P
 nC:C≠P
 nM:mb≠P
 gr:∃o r m ms,GrX W P G vm o r m ms
theorem ShG.mid {W0:World} {C mb:Nat} {up:Int} {v:Value} {H:Hp} {ds:List Pd} {P:Nat} {W w2:World} {es es2:List Pd} {vm vm2 rv:Value} {G:gr.Gr} {l:List Int} {o r m:Value} {ms:List gr.MO} (h:Sh W0 (P+1) C mb up v W es vm) (hC:C≠P) (hM:mb≠P) (hg:GrX W P G vm o r m ms)
    (hr:RfS W0 (P+1) C mb up v H ds es W vm l w2 rv vm2 es2):GrX w2 P G vm2 o r m ms∧(∀k ∈ gr.gblk o r m ms,k ∉ blk rv)∧P ∉ blk rv∧gr.OwnR w2 P rv (l.map (refW H (meetL H (es.map Pd.pl) l)))∧P ∉ blk vm2:=by
 obtain⟨T,O,N,A⟩:=hg
 have hlt:=gr.ownG_lt O
 have l3:=h.lt.2.2
 have lP:=lt_of_block T
 have n1:=h.nc
 have n2:=h.nm
 have hrv:=gr.blk_lt hr.own
 have l4:=hr.sr.sh.lt.2.2
 have hS:∀k,P≤k→k ∉ blk vm→k ∉ C :: mb :: blk vm:=fun k hk hn hc=>by
  rcases List.mem_cons.1 hc with e|hc
  ·omega
  ·rcases List.mem_cons.1 hc with e|hc
   ·omega
   ·exact hn hc
 have nP:P ∉ blk vm:=fun hc=>by have:=(l3 _ hc).1;omega
 refine⟨⟨gr.five_ch T (chGH hr.sr.chL) (hS P (Nat.le_refl _) nP),gr.ownG_ch O (chGH hr.sr.chL) (fun k hk=>hS k (hlt k hk).1 (A k hk)),N,fun k hk hc => ?_⟩,fun k hk hc => ?_,fun hc => ?_,row_baseQ hr.own (by omega),fun hc => ?_⟩
 ·rcases hr.sr.nw k hc with e|e
  ·exact A k hk e
  ·have:=(hlt k hk).2;omega
 ·have:=(hlt k hk).2;have:=(hrv k hc).1;omega
 ·have:=(hrv P hc).1;omega
 ·have:=(l4 P hc).1;omega
theorem sh_atP {W0:World} {C mb:Nat} {up:Int} {v:Value} {P:Nat} {W:World} {es:List Pd} {vm:Value} (h:Sh W0 (P+1) C mb up v W es vm) (hC:C≠P) (hM:mb≠P) (lo:W0.heap.size≤P) (i:Nat) (u:Value):Sh W0 (P+1) C mb up v (W.setCell ⟨P,i,none⟩ u) es vm:=
 h.ch (one_ch W P i u) (fun k hk=>by
  have e:k=P:=by simpa using hk
  subst e
  exact⟨fun e=>hC e.symm,fun e=>hM e.symm,fun hc=>by have:=(h.lt.2.2 _ hc).1;omega,lo⟩)
theorem GrX.roots {W:World} {P:Nat} {G:gr.Gr} {vm o r m rv:Value} {ms:List gr.MO} {xs:List gr.Rf} (h:GrX W P G vm o r m ms) (hd:∀k ∈ gr.gblk o r m ms,k ∉ blk rv) (hP:P ∉ blk rv) (ho:gr.OwnR W P rv xs) (hv:∀k ∈ blk rv,k ∉ blk vm):GrX (W.setCell ⟨P,1,none⟩ rv) P { G with roots:=xs } vm o rv m ms:=by
 obtain⟨T,O,N,A⟩:=h
 have hlt:=gr.ownG_lt O
 have inO:∀k ∈ gr.blk o++gr.blks ms,k ∈ gr.gblk o r m ms:=fun k hk=>by simp only[gr.gblk,List.mem_append]at hk ⊢; exact .inl (.inl hk)
 have inM:∀k ∈ gr.blk m,k ∈ gr.gblk o r m ms:=fun k hk=>by simp only[gr.gblk,List.mem_append];exact .inr hk
 obtain⟨a1,a2,a3⟩:=gr.gblk_apart O.2.2.2.2
 have sub:∀k ∈ gr.gblk o rv m ms,k ∈ gr.gblk o r m ms∨k ∈ blk rv:=fun k hk=>by
  simp only[gr.gblk,List.mem_append]at hk
  rcases hk with (hk|hk)|hk
  ·exact .inl (inO k (by simpa [List.mem_append] using hk))
  ·exact .inr hk
  ·exact .inl (inM k hk)
 have nd:(gr.gblk o rv m ms).Nodup:=by
  unfold gr.gblk
  refine List.nodup_append.2 ⟨List.nodup_append.2 ⟨O.2.1.2.2,gr.blk_nodup _,fun x hx y hy exy => ?_⟩,gr.blk_nodup _,fun x hx y hy exy => ?_⟩
  ·exact hd x (inO x hx) (exy▸hy)
  ·rcases List.mem_append.1 hx with hx|hx
   ·exact a2 x hx (exy▸hy)
   ·exact hd y (inM y hy) (exy▸hx)
 have OG:gr.OwnG W P o rv m ms { G with roots:=xs }:=⟨O.1,O.2.1,ho,O.2.2.2.1,nd⟩
 have nP:P ∉ gr.gblk o rv m ms:=fun hc=>(sub P hc).elim N hP
 exact⟨gr.five_set1 T rv,gr.ownG_ch OG (gr.one_ch W P 1 rv) (fun k hk e=>nP ((List.mem_singleton.1 e)▸hk)),nP,fun k hk=>(sub k hk).elim (A k) (hv k)⟩
theorem GrX.mourned {W:World} {P:Nat} {G:gr.Gr} {vm o r m rv:Value} {ms:List gr.MO} {xs:List gr.Rf} (h:GrX W P G vm o r m ms) (hd:∀k ∈ gr.gblk o r m ms,k ∉ blk rv) (hP:P ∉ blk rv) (ho:gr.OwnR W P rv xs) (hv:∀k ∈ blk rv,k ∉ blk vm):GrX (W.setCell ⟨P,2,none⟩ rv) P { G with mourned:=xs } vm o r rv ms:=by
 obtain⟨T,O,N,A⟩:=h
 have hOR:(gr.blk o++gr.blks ms++gr.blk r).Nodup:=by
  have:=O.2.2.2.2
  unfold gr.gblk at this
  exact (List.nodup_append.1 this).1
 have inR:∀k ∈ gr.blk o++gr.blks ms++gr.blk r,k ∈ gr.gblk o r m ms:=fun k hk=>by
  unfold gr.gblk
  exact List.mem_append_left _ hk
 have sub:∀k ∈ gr.gblk o r rv ms,k ∈ gr.gblk o r m ms∨k ∈ blk rv:=fun k hk=>by
  unfold gr.gblk at hk
  rcases List.mem_append.1 hk with hk|hk
  ·exact .inl (inR k hk)
  ·exact .inr hk
 have nd:(gr.gblk o r rv ms).Nodup:=by
  unfold gr.gblk
  exact List.nodup_append.2 ⟨hOR,gr.blk_nodup _,fun x hx y hy exy=>hd x (inR x hx) (exy▸hy)⟩
 have OG:gr.OwnG W P o r rv ms { G with mourned:=xs }:=⟨O.1,O.2.1,O.2.2.1,ho,nd⟩
 have nP:P ∉ gr.gblk o r rv ms:=fun hc=>(sub P hc).elim N hP
 exact⟨gr.five_set2 T rv,gr.ownG_ch OG (gr.one_ch W P 2 rv) (fun k hk e=>nP ((List.mem_singleton.1 e)▸hk)),nP,fun k hk=>(sub k hk).elim (A k) (hv k)⟩
theorem GrX.object {W w10:World} {P:Nat} {G:gr.Gr} {vm o r m v':Value} {ms:List gr.MO} {m1:gr.MO} (h:GrX W P G vm o r m ms) (hd:∀k ∈ gr.blk m1.sv,k ∉ gr.gblk o r m ms) (hP:P ∉ blk m1.sv) (R1:gr.OwnR W P m1.sv m1.slots) (hv:∀k ∈ blk m1.sv,k ∉ blk vm) (hvl:∀k ∈ blk vm,k<W.heap.size)
    (hrow:w10.ownsRow P 47 5 v' (ms.length+1) (gr.cellsO ms++gr.cellsO [m1])) (hg:W.grownBy w10 o.ownBlock) (hat:v'.ownBlock=o.ownBlock∨v'.ownBlock=some W.heap.size) :
    w10.cell? ⟨P,0,none⟩=some o∧w10.frozen? ⟨P,0,none⟩=false∧GrX (w10.setCell ⟨P,0,none⟩ v') P { G with objs:=G.objs++[m1.abs] } vm v' r m (ms++[m1])∧Ch (blk o) W w10:=by
 obtain⟨T,O,N,A⟩:=h
 obtain⟨AP,CH,AM⟩:=gr.ownG_app O R1 hd hrow hg hat
 have nB:P ∉ gr.blk o:=fun e=>N (by simp only[gr.gblk,List.mem_append];exact .inl (.inl (.inl e)))
 have T10:=gr.five_ch T CH nB
 have lP:=lt_of_block T
 have nP:P ∉ gr.gblk v' r m (ms++[m1]):=fun e=>by
  rcases AM P e with e|e|e
  ·exact N e
  ·exact hP e
  ·omega
 obtain⟨u0,_,_,_,_,uf⟩:=gr.five_cells T10
 refine⟨u0,uf 0,⟨gr.five_set0 T10 v',gr.ownG_ch AP (gr.one_ch w10 P 0 v') (fun k hk e=>nP ((List.mem_singleton.1 e)▸hk)),nP,fun k hk hc => ?_⟩,chHG CH⟩
 rcases AM k hk with e|e|e
 ·exact A k e hc
 ·exact hv k e hc
 ·have:=hvl k hc;omega
theorem GrX.below {W V:World} {P:Nat} {G:gr.Gr} {vm o r m:Value} {ms:List gr.MO} (h:GrX W P G vm o r m ms) (hb:Below W.heap.size W V):GrX V P G vm o r m ms:=⟨gr.five_below h.1 hb,gr.ownG_below h.2.1 hb,h.2.2.1,h.2.2.2⟩
theorem run_app1O {w:World} {base:Nat} {v:Value} {ms:List gr.MO} {vb:Nat} {m1:gr.MO} (hown:gr.OwnRow w base v ms) (hm1:∃a n c,m1.sv = .slice a n c) (hvb:w.heap[vb]? = some (gr.ob m1)) (hl:ms.length≤1000000) (hbase:base≤w.heap.size) (ty:TypeId) :
    ∃va vn vc w',(Builtin.append_ #[24,24] ty #[v,.slice (some ⟨vb,0,none⟩) 1 1]).run Tryz.prog w = .ok (.slice va vn vc) w'∧w'.ownsRow base 47 5 (.slice va vn vc) (ms.length+1) (gr.cellsO ms++gr.cellsO [m1])∧w.grownBy w' v.ownBlock∧((Value.slice va vn vc).ownBlock=v.ownBlock∨(Value.slice va vn vc).ownBlock=some w.heap.size):=by
 obtain⟨i0,hi,hz0,hz1,hz2⟩:=info_parts gr.infoO
 have hn:∀j u,(gr.cellsO [m1])[j]? = some u→w.cell? ((⟨vb,0,none⟩:Addr).add j)=some u:=by
  intro j u hj
  have hl:j<5:=by
   have:=(List.getElem?_eq_some_iff.1 hj).1
   rw[gr.cellsO_length]at this
   simpa using this
  have e2:(⟨vb,0,none⟩:Addr).add j=⟨vb,j,none⟩:=by cases j<;>simp[Addr.add]
  rw[e2]
  rcases (show j=0∨j=1∨j=2∨j=3∨j=4 by omega) with e|e|e|e|e<;>subst e<;>(simp[gr.cellsO]at hj;subst hj;simp[World.cell?, hvb])
 obtain⟨v',w',hr,h2,h3,h4,h5⟩:=run_append_own_at (P:=Tryz.prog) w base 24 ty 47 i0 (.agg #[.int .i64 0,.int .i64 0,.int .i64 0,.int .i64 0,.slice none 0 0]) 5 56 Tryz.underlying24 hi hz0 hz1 hz2 rfl (by decide) v ms.length (gr.cellsO ms) hown ⟨vb,0,none⟩ 1 1 (gr.cellsO [m1]) rfl hn (gr.cellsO_one (ms:=[m1]) (fun m hm=>by have e:m=m1:=(by simpa using hm);rw[e];exact hm1)) (by unfold maxLen;omega) (by omega) hbase
 obtain⟨va,vn,vc,rfl⟩:∃va vn vc,v' = .slice va vn vc:=by
  obtain⟨_,⟨e,_⟩|⟨g,c,cur,e,_⟩⟩:=h2
  ·exact⟨_,_,_,e⟩
  ·exact⟨_,_,_,e⟩
 exact⟨va,vn,vc,w',hr,h2,h3,h5⟩
theorem map_refW {H:Hp} {l M t:List Int} (h:∀x ∈ l,∀a,tgt H x=some a→a ∈ M):l.map (refW H (M++t))=l.map (refW H M):=List.map_congr_left (fun x hx=>refW_pre (h x hx))
theorem obS_turn {H:Hp} {ps:List Int} {M RR:List Int} {i j:Nat} (R:Rt H ps) (hog:Og H ps M) (hi:i<M.length) (hj:M.getD i 0=(j:Int)) (ho:ordN H (1000-i) i M=RR) (hc:i<1000) :
    (j:Int) ∈ M∧ObjAt H ps j∧obS H RR i=⟨idM M j,uC (H.row.getD j 0),uF (H.row.getD j 0),uH (H.row.getD j 0),(slotsOf H j).map (refW H (meetL H M (slotsOf H j)))⟩∧ordN H (1000-(i+1)) (i+1) (meetL H M (slotsOf H j))=RR∧Og H ps (meetL H M (slotsOf H j))∧i+1≤(meetL H M (slotsOf H j)).length:=by
 have hm:(j:Int) ∈ M:=by
  rw[←hj,List.getD_eq_getElem?_getD,List.getElem?_eq_getElem hi]
  exact List.getElem_mem hi
 have hob:=hog.2 _ hm
 have ho2:=ho
 rw[ordN_step hi hc,hj]at ho2
 obtain⟨l,el⟩:=meetL_sub (H:=H) (A:=slotsOf H j) (M:=M)
 obtain⟨l2,el2⟩:=ordN_sub (H:=H) (n:=1000-(i+1)) (k:=i+1) (M:=meetL H M (slotsOf H j))
 rw[ho2]at el2
 have hg:RR.getD i 0=(j:Int):=by rw[el2,el,List.append_assoc,pre_getD hi,hj]
 have hid:idM M j=(i:Int)+1:=by
  rw[idM_met hm]
  rw[idxM_at hi hj (fun t ht e=>by
   have h1:t<M.length:=by omega
   rw[List.getD_eq_getElem?_getD,List.getElem?_eq_getElem h1]at e
   rw[List.getD_eq_getElem?_getD,List.getElem?_eq_getElem hi]at hj
   have e3:M[t]=M[i]:=by
    have q1:M[t]=(j:Int):=e
    have q2:M[i]=(j:Int):=hj
    rw[q1,q2]
   exact List.pairwise_iff_getElem.1 hog.1 t i h1 hi ht e3)]
 refine⟨hm,hob,?_,ho2,hog.meetL (R.slots_go hob.1),?_⟩
 ·unfold obS
  rw[hg,hid,Int.toNat_natCast,el2,map_refW (fun x hx a ha=>meetL_has hx ha)]
 ·rw[el,List.length_append];omega
def ShL (X:World) (C mb:Nat) (up:Int) (v:Value) (H:Hp) (ps:List Int) (ds:List Pd) (P:Nat) (RR:List Int) (i:Nat) (wr:World):Prop:=∃es vm,ShG X C mb up v ds P wr es vm ⟨(List.range i).map (obS H RR),H.roots.map (refW H RR),H.mourned.map (refW H RR),0,H.seed⟩∧Og H ps (es.map Pd.pl)∧i≤es.length∧ordN H (1000-i) i (es.map Pd.pl)=RR
theorem shl_next {X:World} {C mb:Nat} {up:Int} {v:Value} {H:Hp} {ps:List Int} {ds es es2:List Pd} {P:Nat} {RR:List Int} {i j:Nat} {wr w1 V:World} {vm vm2 o r m:Value} {ms:List gr.MO} {va ua:Option Addr} {vn vc un uc:Nat} (R:Rt H ps)
    (sh:Sh X (P+1) C mb up v wr es vm) (hin:∀d ∈ es,d ∈ ds) (lo:X.heap.size≤P) (nC:C≠P) (nM:mb≠P) (gx:GrX wr P ⟨(List.range i).map (obS H RR),H.roots.map (refW H RR),H.mourned.map (refW H RR),0,H.seed⟩ vm o r m ms)
    (hog:Og H ps (es.map Pd.pl)) (hi:i<es.length) (ho:ordN H (1000-i) i (es.map Pd.pl)=RR) (hj:(es.map Pd.pl).getD i 0=(j:Int))
    (hr:RfS X (P+1) C mb up v H ds es wr vm (slotsOf H j) w1 (.slice va vn vc) vm2 es2)
    (hrow:V.ownsRow P 47 5 (.slice ua un uc) (ms.length+1) (gr.cellsO ms++gr.cellsO [⟨idM (es.map Pd.pl) j,uC (H.row.getD j 0),uF (H.row.getD j 0),uH (H.row.getD j 0),.slice va vn vc,(slotsOf H j).map (refW H (meetL H (es.map Pd.pl) (slotsOf H j)))⟩])) {ob1:Obj}
    (hg:(w1.alloc ob1).grownBy V o.ownBlock) (hat:(Value.slice ua un uc).ownBlock=o.ownBlock∨(Value.slice ua un uc).ownBlock=some (w1.alloc ob1).heap.size) :
    V.cell? ⟨P,0,none⟩=some o∧V.frozen? ⟨P,0,none⟩=false∧ShL X C mb up v H ps ds P RR (i+1) (V.setCell ⟨P,0,none⟩ (.slice ua un uc)):=by
 have hl:i<(es.map Pd.pl).length:=by rw[List.length_map];exact hi
 have h500:=hog.len R
 obtain⟨t1,t2,t3,t4,t5,t6⟩:=obS_turn R hog hl hj ho (by omega)
 obtain⟨g1,g2,g3,g4,g5⟩:=ShG.mid sh nC nM gx hr
 have B1:Below w1.heap.size w1 (w1.alloc ob1):=(Below.refl _ _).alloc (Nat.le_refl _) _
 have L2:=hr.sr.sh.lt.2.2
 obtain⟨u0,u1,u2,u3⟩:=(g1.below B1).object (m1:=⟨idM (es.map Pd.pl) j,uC (H.row.getD j 0),uF (H.row.getD j 0),uH (H.row.getD j 0),.slice va vn vc,(slotsOf H j).map (refW H (meetL H (es.map Pd.pl) (slotsOf H j)))⟩) (fun k hk hc=>g2 k hc hk) g3 (gr.ownR_below g4 B1) hr.ap (fun k hk=>Nat.lt_of_lt_of_le (L2 k hk).2 B1.size) hrow hg hat
 have gfin:GrX (V.setCell ⟨P,0,none⟩ (.slice ua un uc)) P ⟨(List.range (i+1)).map (obS H RR),H.roots.map (refW H RR),H.mourned.map (refW H RR),0,H.seed⟩ vm2 (.slice ua un uc) r m (ms++[⟨idM (es.map Pd.pl) j,uC (H.row.getD j 0),uF (H.row.getD j 0),uH (H.row.getD j 0),.slice va vn vc,(slotsOf H j).map (refW H (meetL H (es.map Pd.pl) (slotsOf H j)))⟩]):=by
  rw[List.range_succ,List.map_append,List.map_cons,List.map_nil,t3]
  exact u2
 refine⟨u0,u1,es2,vm2,⟨?_,fun d hd=>(hr.inD d hd).elim (hin d) id,lo,nC,nM,_,_,_,_,gfin⟩,by rw[hr.met];exact t5,?_,by rw[hr.met];exact t4⟩
 ·have glt:=gr.ownG_lt g1.2.1
  have inO:∀k ∈ blk o,k ∈ gr.gblk o r m ms:=fun k hk=>by simp only[gr.gblk,List.mem_append];exact .inl (.inl (.inl hk))
  have n1:=sh.nc
  have n2:=sh.nm
  exact sh_atP ((hr.sr.sh.below B1).ch u3 (fun k hk=>⟨fun e=>by have:=(glt k (inO k hk)).1;omega,fun e=>by have:=(glt k (inO k hk)).1;omega,g1.2.2.2 k (inO k hk),Nat.le_trans lo (glt k (inO k hk)).1⟩)) nC nM lo 0 _
 ·have:=congrArg List.length hr.met
  rw[List.length_map]at this
  omega
end Go.Proofs.YtkiognecebgaiaaGreatDoor.hp
