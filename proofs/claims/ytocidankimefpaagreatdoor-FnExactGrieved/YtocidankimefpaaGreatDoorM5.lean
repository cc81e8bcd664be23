/- Chapter 7 as lists: who grieves, in orde -/
import Derived.Test.YtocidankimefpaaGreatDoorM4
import Derived.Shelf.Abstract
import Derived.Deep.AppendLies
import Derived.Laws.MakeOwn
set_option linter.unusedSimpArgs false
set_option linter.unusedVariables false
set_option maxRecDepth 100000
namespace Go.Proofs.YtocidankimefpaaGreatDoor.gr
open Go.RowKit rows heads
def Grv (G:Gr) (p:Nat):Prop:=Rch G p∧(G.objs.getD p obD).fmt=2∧∃q,awt G.objs (G.objs.getD p obD)=some q∧¬Rch G q
def ltG (os:List Ob) (p q:Nat):Prop:=(os.getD p obD).hash<(os.getD q obD).hash∨((os.getD p obD).hash=(os.getD q obD).hash∧(os.getD p obD).id<(os.getD q obD).id)
def IsG (G:Gr) (ps:List Nat):Prop:=ps.Pairwise (ltG G.objs)∧∀p,p ∈ ps↔Grv G p
theorem Fq {lt:Nat→Nat→Prop} (asy:∀a b,lt a b→¬lt b a):∀ {xs ys:List Nat},xs.Pairwise lt→ys.Pairwise lt→(∀a,a ∈ xs↔a ∈ ys)→xs=ys
 | [],[],_,_,_=>rfl
 | [],y :: ys,_,_,h=>absurd ((h y).2 (by simp)) (by simp)
 |x :: xs,[],_,_,h=>absurd ((h x).1 (by simp)) (by simp)
 |x :: xs,y :: ys,hx,hy,h=>by
  obtain⟨hx1,hx2⟩:=List.pairwise_cons.1 hx;obtain⟨hy1,hy2⟩:=List.pairwise_cons.1 hy
  have e:x=y:=by
   rcases List.mem_cons.1 ((h x).1 (by simp)) with e|e
   ·exact e
   ·rcases List.mem_cons.1 ((h y).2 (by simp)) with e'|e'
    ·exact e'.symm
    ·exact absurd (hx1 y e') (asy _ _ (hy1 x e))
  subst e;rw[Fq asy hx2 hy2 fun a => ?_];constructor
  ·intro ha;rcases List.mem_cons.1 ((h a).1 (by simp[ha])) with e|e
   ·subst e;exact absurd (hx1 _ ha) (fun k=>asy _ _ k k)
   ·exact e
  ·intro ha;rcases List.mem_cons.1 ((h a).2 (by simp[ha])) with e|e
   ·subst e;exact absurd (hy1 _ ha) (fun k=>asy _ _ k k)
   ·exact e
theorem I7 (os:List Ob) (a b:Nat) (h:ltG os a b):¬ltG os b a:=by unfold ltG at *; omega
theorem fT {G:Gr} {ps qs:List Nat} (h:IsG G ps) (k:IsG G qs):ps=qs:=Fq (I7 G.objs) h.1 k.1 fun a=>by rw[h.2,k.2]
def insG (os:List Ob) (p:Nat):List Nat→List Nat
 | []=>[p]
 |q :: qs=>if (os.getD q obD).hash≤(os.getD p obD).hash then q :: insG os p qs else p :: q :: qs
theorem tN {os:List Ob} {p:Nat}:∀ {qs:List Nat} {a:Nat},a ∈ insG os p qs↔a=p∨a ∈ qs
 | [],a=>by simp[insG]
 |q :: qs,a=>by
  unfold insG;split
  ·rw[List.mem_cons,tN,List.mem_cons];constructor
   ·rintro (h|h|h)<;>simp[h]
   ·rintro (h|h|h)<;>simp[h]
  ·simp
theorem CB {os:List Ob} {p:Nat}:∀ {qs:List Nat},qs.Pairwise (ltG os)→(∀q ∈ qs,(os.getD q obD).id<(os.getD p obD).id)→(insG os p qs).Pairwise (ltG os)
 | [],_,_=>by simp[insG]
 |q :: qs,h,hi=>by
  obtain⟨h1,h2⟩:=List.pairwise_cons.1 h;have hq:=hi q (by simp);unfold insG;split
  ·rename_i e
   refine List.pairwise_cons.2 ⟨fun a ha => ?_,CB h2 (fun r hr=>hi r (by simp[hr]))⟩;rcases tN.1 ha with e'|e'
   ·rw[e'];unfold ltG;omega
   ·exact h1 a e'
  ·rename_i e
   refine List.pairwise_cons.2 ⟨fun a ha => ?_,h⟩;rcases List.mem_cons.1 ha with e'|e'
   ·rw[e'];unfold ltG;omega
   ·have:=h1 a e';unfold ltG at *; omega
theorem pE (os:List Ob) (p:Nat):∀qs:List Nat,(insG os p qs).length=qs.length+1
 | []=>rfl
 |q :: qs=>by
  unfold insG;split
  ·rw[List.length_cons,pE os p qs];rfl
  ·rfl
theorem xI {os:List Ob} {p:Nat}:∀ {qs:List Nat} {k:Nat},k≤qs.length→(∀i,i<k→(os.getD (qs.getD i 0) obD).hash≤(os.getD p obD).hash)→(k<qs.length→¬(os.getD (qs.getD k 0) obD).hash≤(os.getD p obD).hash)→insG os p qs=qs.take k++p :: qs.drop k
 | [],k,hk,_,_=>by
   have e:k=0:=by simpa using hk
   subst e;rfl
 |q :: qs,0,_,_,h2=>by
  have h3:=h2 (by simp);simp only[List.getD_cons_zero]at h3;unfold insG;rw[if_neg h3];rfl
 |q :: qs,k+1,hk,h1,h2=>by
  have h3:(os.getD q obD).hash≤(os.getD p obD).hash:=h1 0 (by omega);have ih:= @xI os p qs k (by simpa using hk) (fun i hi=>h1 (i+1) (by omega)) (fun hi=>h2 (by simpa using hi));unfold insG;rw[if_pos h3,ih];rfl
def sortG (os:List Ob) (f:Nat→Bool):Nat→List Nat
 |0=>[]
 |k+1=>if f k=true then insG os k (sortG os f k) else sortG os f k
theorem mB {os:List Ob} {f:Nat→Bool}:∀ {k a:Nat},a ∈ sortG os f k↔a<k∧f a=true
 |0,a=>by simp[sortG]
 |k+1,a=>by
  unfold sortG;by_cases h:f k=true
  ·rw[if_pos h,tN,mB];constructor
   ·rintro (e|⟨e1,e2⟩)
    ·subst e;exact⟨by omega,h⟩
    ·exact⟨by omega,e2⟩
   ·rintro⟨e1,e2⟩;by_cases e:a=k
    ·exact .inl e
    ·exact .inr ⟨by omega,e2⟩
  ·rw[if_neg h,mB];constructor
   ·rintro⟨e1,e2⟩;exact⟨by omega,e2⟩
   ·rintro⟨e1,e2⟩;by_cases e:a=k
    ·subst e;exact absurd e2 h
    ·exact⟨by omega,e2⟩
theorem tO {os:List Ob} (hr:zK os) {f:Nat→Bool}:∀ {k:Nat},k≤os.length→(sortG os f k).Pairwise (ltG os)
 |0,_=>by simp[sortG]
 |k+1,hk=>by
  unfold sortG;split
  ·exact CB (tO hr (by omega)) fun q hq=>hr q k (mB.1 hq).1 (by omega)
  ·exact tO hr (by omega)
theorem qH (os:List Ob) (f:Nat→Bool):∀k,(sortG os f k).length≤k
 |0=>by simp[sortG]
 |k+1=>by
  have:=qH os f k
  unfold sortG;split
  ·rw[pE];omega
  ·omega
theorem jY {G:Gr} {p:Nat} (h:Grv G p):p<G.objs.length:=rX h.1
theorem tP {G:Gr} (hG:gOk G=true) {f:Nat→Bool} (hf:∀p,p<G.objs.length→(f p=true↔Grv G p)):IsG G (sortG G.objs f G.objs.length):=by
 refine⟨tO (fY hG) (Nat.le_refl _),fun p => ?_⟩
 rw[mB];constructor
 ·rintro⟨h1,h2⟩;exact (hf p h1).1 h2
 ·intro h;exact⟨jY h,(hf p (jY h)).2 h⟩
theorem Fs {G:Gr} (hG:gOk G=true):∃ps,IsG G ps:=by
 classical
 exact⟨_,tP hG (f:=fun p=>decide (Grv G p)) fun p _=>by simp⟩
def gB (G:Gr) (is:List Bool) (p:Nat):Bool:=is.getD p false&&((G.objs.getD p obD).fmt==2&&match awt G.objs (G.objs.getD p obD) with|some q => !is.getD q false|none=>false)
theorem I8 {G:Gr} {is:List Bool} (h:∀p,is.getD p false=true↔Rch G p) (p:Nat):gB G is p=true↔Grv G p:=by
 unfold gB Grv;simp only[Bool.and_eq_true,beq_iff_eq];rw[h p];cases ha:awt G.objs (G.objs.getD p obD) with
 |none=>simp
 |some q=>
  simp only[Bool.not_eq_true',Option.some.injEq];constructor
  ·rintro⟨h1,h2,h3⟩;exact⟨h1,h2,q,rfl,fun k=>by rw[(h q).2 k]at h3;cases h3⟩
  ·rintro⟨h1,h2,q',rfl,h3⟩;refine⟨h1,h2,?_⟩
   cases hq:is.getD q false
   ·rfl
   ·exact absurd ((h q).1 hq) h3
theorem CD {G:Gr} (hG:gOk G=true) {ps:List Nat} (h:IsG G ps):ps.length≤500:=by
 classical
 have e:=fT h (tP hG (f:=fun p=>decide (Grv G p)) fun p _=>by simp);rw[e];exact Nat.le_trans (qH _ _ _) (gu hG).1
def aZ (os:List Ob) (p:Nat):List Ob:=os.set p { os.getD p obD with fmt:=0 }
def eK (G:Gr) (p:Nat):Gr:= { G with objs:=aZ G.objs p,a7:=if G.a7.length<40 then G.a7++[(2,(G.objs.getD p obD).id)] else G.a7 }
def dH (G:Gr) (ps:List Nat):Gr:=ps.foldl eK G
def qI:List (List Nat)→Gr→Gr→Prop
 | [],G,R=>IsG G []∧R=G
 |ps :: L,G,R=>ps≠[]∧IsG G ps∧qI L (dH G ps) R
def fe (G R:Gr):Prop:=∃L,qI L G R
theorem mC (os:List Ob) (p:Nat):(aZ os p).length=os.length:=by simp[aZ]
theorem gP {os:List Ob} {p:Nat} (hp:p<os.length) (i:Nat):(aZ os p).getD i obD=if i=p then { os.getD p obD with fmt:=0 } else os.getD i obD:=by
 unfold aZ;rw[List.getD_eq_getElem?_getD,List.getElem?_set];by_cases e:p=i
 ·rw[if_pos e,if_pos e.symm,if_pos (by omega)];rfl
 ·rw[if_neg e,if_neg (fun h=>e h.symm),←List.getD_eq_getElem?_getD]
theorem qJ (os:List Ob) (p:Nat):(aZ os p).map Ob.id=os.map Ob.id:=by
 refine List.ext_getElem? fun i => ?_
 unfold aZ;rw[List.getElem?_map,List.getElem?_map,List.getElem?_set];split
 ·rename_i e
  subst e;split
  ·rename_i h
   rw[List.getD_eq_getElem?_getD,List.getElem?_eq_getElem h];rfl
  ·rename_i h
   rw[List.getElem?_eq_none (by omega)]
 ·rfl
theorem Ad {os:List Ob} {p:Nat} (hp:p<os.length):∀i,jz (aZ os p) i=jz os i
 |0=>rfl
 |i+1=>by
  show ((aZ os p).getD i obD).id=(os.getD i obD).id
  rw[gP hp];split
  ·rename_i e;rw[e]
  ·rfl
theorem qK {s f c h:Int} (e:hok s f c h false false=true) (hf:f≤2):hok s 0 c h false false=true:=by
 have h6:¬f=6:=by omega
 unfold hok at e ⊢;rw[if_neg h6]at e;rw[if_neg (by decide)];simp only[Bool.and_eq_true]at e ⊢;exact⟨⟨⟨by simp,e.1.1.2⟩,e.1.2⟩,e.2⟩
theorem Gu {os:List Ob} {p:Nat} (hp:p<os.length):0≤atI os (os.getD p obD).id:=by
 unfold atI;cases e:os.findIdx? (fun o=>o.id==(os.getD p obD).id) with
 |some i=>exact Int.natCast_nonneg i
 |none=>
  rw[List.findIdx?_eq_none_iff]at e;have:=e os[p] (List.getElem_mem hp)
  rw[List.getD_eq_getElem?_getD,List.getElem?_eq_getElem hp]at this;simp at this
theorem vy {G:Gr} (h:gG G) {p:Nat} (hp:p<G.objs.length):gG (eK G p):=by
 have hq:=ko h.head;have hids:=qJ G.objs p;have hlen:=mC G.objs p
 have hml:(eK G p).a7.length≤40:=by
  have:G.a7.length≤40:=by
   have:=h.head
   simp only[oR,Bool.and_eq_true,decide_eq_true_eq]at this;exact this.1.1.2
  unfold eK;simp only;split
  ·rw[List.length_append];simp;omega
  ·exact this
 refine⟨?_,fun i hi=>FB ?_,fun i hi n hn => ?_,fun i hi => ?_,fun i hi => ?_⟩
 ·have:=h.head
  simp only[oR,Bool.and_eq_true,decide_eq_true_eq]at this ⊢;refine⟨⟨⟨⟨?_,this.1.1.1.2⟩,hml⟩,this.1.2⟩,this.2⟩
  show (aZ G.objs p).length≤500
  rw[hlen];exact this.1.1.1.1
 ·have hi':i<G.objs.length:=by rw[←hlen];exact hi
  have t:=lz (h.ob i hi');show jz (aZ G.objs p) i<((aZ G.objs p).getD i obD).id∧((aZ G.objs p).getD i obD).id<G.next∧((aZ G.objs p).getD i obD).fmt≤2∧hok (((aZ G.objs p).getD i obD).slots.length:Int) ((aZ G.objs p).getD i obD).fmt ((aZ G.objs p).getD i obD).cls ((aZ G.objs p).getD i obD).hash false false=true
  rw[Ad hp,gP hp];split
  ·rename_i e1
   subst e1;exact⟨t.1,t.2.1,(by decide:(0:Int)≤2),qK t.2.2.2 t.2.2.1⟩
  ·exact t
 ·have hi':i<G.objs.length:=by rw[←hlen];exact hi
  have hn':n<((aZ G.objs p).getD i obD).slots.length:=hn;show fH (aZ G.objs p) (((aZ G.objs p).getD i obD).slots.getD n bU)=true
  rw[lO hids]
  have e:((aZ G.objs p).getD i obD).slots=(G.objs.getD i obD).slots:=by
   rw[gP hp];split
   ·rename_i e;rw[e]
   ·rfl
  rw[e]at hn' ⊢;exact h.sl i hi' n hn'
 ·show fH (aZ G.objs p) (G.roots.getD i bU)=true
  rw[lO hids];exact h.root i hi
 ·have hm:∀x ∈ (eK G p).a7,x.1=2∧fH (aZ G.objs p) x=true:=by
    intro x hx
    have old:x ∈ G.a7→x.1=2∧fH (aZ G.objs p) x=true:=fun hx=>by
     obtain⟨j,hj,e⟩:=List.mem_iff_getElem.1 hx;have:=h.mo j hj
     rw[List.getD_eq_getElem?_getD,List.getElem?_eq_getElem hj]at this;rw[lO hids,←e];exact this
    unfold eK at hx;simp only at hx;split at hx
    ·rcases List.mem_append.1 hx with hx|hx
     ·exact old hx
     ·rw[List.mem_singleton]at hx;subst hx;refine⟨rfl,?_⟩
      rw[lO hids];unfold fH;rw[if_neg (by simp),if_neg (by simp)];simp only[Bool.and_eq_true,decide_eq_true_eq];exact⟨rfl,Gu hp⟩
    ·exact old hx
  have hi':i<(eK G p).a7.length:=hi;have:=hm ((eK G p).a7[i]) (List.getElem_mem hi')
  rw[List.getD_eq_getElem?_getD,List.getElem?_eq_getElem hi'];exact this
theorem iX (G:Gr) (p:Nat):(eK G p).objs.length=G.objs.length:=mC _ _
theorem dX:∀ {ps:List Nat} {G:Gr},gG G→(∀p ∈ ps,p<G.objs.length)→gG (dH G ps)
 | [],_,h,_=>h
 |p :: ps,G,h,hp=>dX (ps:=ps) (vy h (hp p (by simp))) fun q hq=>by rw[iX];exact hp q (by simp[hq])
def eph (os:List Ob):Nat:=os.countP fun o=>o.fmt==2
theorem I9 (os:List Ob) (p:Nat):eph (aZ os p)≤eph os:=by
 unfold eph aZ;by_cases h:p<os.length
 ·rw[List.countP_set h];simp
 ·rw[List.set_eq_of_length_le (by omega)];exact Nat.le_refl _
theorem Ft {os:List Ob} {p:Nat} (h:p<os.length) (e:(os.getD p obD).fmt=2):eph (aZ os p)<eph os:=by
 unfold eph aZ
 have hg:os[p].fmt=2:=by
  rw[List.getD_eq_getElem?_getD,List.getElem?_eq_getElem h]at e;exact e
 have hpos:0<os.countP fun o=>o.fmt==2:=List.countP_pos_iff.2 ⟨os[p],List.getElem_mem h,by simp[hg]⟩
 rw[List.countP_set h];simp[hg];omega
theorem nN:∀(ps:List Nat) (G:Gr),eph (dH G ps).objs≤eph G.objs
 | [],_=>Nat.le_refl _
 |p :: ps,G=>Nat.le_trans (nN ps (eK G p)) (I9 _ _)
theorem vz:∀(n:Nat) {G:Gr},gG G→eph G.objs≤n→∃R,fe G R
 |n,G,h,hn=>by
  obtain⟨ps,hps⟩:=Fs h.gOk;cases ps with
  |nil=>exact⟨G,[],hps,rfl⟩
  |cons p ps=>
   have hg:Grv G p:=(hps.2 p).1 (by simp);have lt:=Ft (jY hg) hg.2.1;have le:eph (dH G (p :: ps)).objs≤eph (aZ G.objs p):=nN ps (eK G p);cases n with
   |zero=>omega
   |succ n=>
    obtain⟨R,L,hL⟩:=vz n (G:=dH G (p :: ps)) (dX h fun q hq=>jY ((hps.2 q).1 hq)) (by omega);exact⟨R,(p :: ps) :: L,by simp,hps,hL⟩
theorem mD:∀ {L L':List (List Nat)} {G R R':Gr},qI L G R→qI L' G R'→R=R'
 | [],[],_,_,_,h,k=>h.2.trans k.2.symm
 | [],ps :: L',_,_,_,h,k=>absurd (fT k.2.1 h.1) k.1
 |ps :: L,[],_,_,_,h,k=>absurd (fT h.2.1 k.1) h.1
 |ps :: L,qs :: L',G,_,_,h,k=>by
  have e:=fT h.2.1 k.2.1;subst e;exact mD h.2.2 k.2.2
theorem mE {G R R':Gr}:fe G R→fe G R'→R=R'
 |⟨_,h⟩,⟨_,k⟩=>mD h k
theorem oG:∀ {L:List (List Nat)} {G R:Gr},gG G→qI L G R→gG R
 | [],_,_,h,k=>by rw[k.2];exact h
 |ps :: L,G,_,h,k=>oG (dX h fun q hq=>jY ((k.2.1.2 q).1 hq)) k.2.2
theorem lD {w:World} {b k:Nat} {v:Value} (h:w.cell? ⟨b,k,none⟩=some v):b<w.heap.size:=by
 rcases Nat.lt_or_ge b w.heap.size with h'|h'
 ·exact h'
 ·simp[World.cell?, Array.getElem?_eq_none h']at h
theorem mF {w:World} {base P:Nat} {G:Gr} (H:kZ w base P G):base≤w.heap.size:=by
 obtain⟨_,_,_,_,T,_,_,hb⟩:=H;have:=lt_of_block T
 omega
theorem iw {P:Program} {ops:Array Oper} {o:Oper} {a:Act} {w:World} {K:Act→World→Prop} {Q:Exit→Act→World→Prop} {E:Prop} (hgd:o.guard=none) (s x:Operand) (t:TypeId)
    (ho:o.op = .call { callee:=.builtin .append,args:=#[s,x],argTypes:=#[t,t] })
    (base:Nat) (e:TypeId) (i:TypeInfo) (z:Value) (size bytes:Nat) (ht:P.underlying t=some (.slice e)) (hi:P.info? e=some i) (hz:i.zero=some z)
    (hsize:i.size=size) (hby:i.bytes=bytes) (hzs:z.cells.size=size) (hsz:0<size)
    (v:Value) (n:Nat) (xs:List Value) (hs:a.eval s=v) (hown:w.ownsRow base e size v n xs)
    (ad:Addr) (m c:Nat) (news:List Value) (hx:a.eval x = .slice (some ad) m c) (hl:news.length=m*size) (hnews:∀j u,news[j]? = some u→w.cell? (ad.add j)=some u) (h1:∀u ∈ news,u.oneCell'=true)
    (h63:n+m≤maxLen) (hbytes:(n+m)*bytes≤140737488355328) (hbase:base≤w.heap.size)
    (h:∀v' w',w'.ownsRow base e size v' (n+m) (xs++news)→w.grownBy w' v.ownBlock→(v'.ownBlock=v.ownBlock∨v'.ownBlock=some w.heap.size)→K (a.put o.dst v') w') :
    if Region.wanted o (yielded ops a.tmps)=true then Oper.wp P o a w K Q else E:=by
 have hw:Region.wanted o (yielded ops a.tmps)=true:=by simp[Region.wanted,hgd]
 rw[if_pos hw];obtain⟨v',w',hr,h2,h3,_,h5⟩:=run_append_own_at (P:=P) w base t o.type e i z size bytes ht hi hz hsize hby hzs hsz v n xs hown ad m c news hl hnews h1 h63 hbytes hbase;unfold Oper.wp;simp[execOp,ho,resolve,invoke,builtin,hs,hx,hr,Result.andThen];exact h v' w' h2 h3 h5
theorem vA {w:World} {base n:Nat} {v:Value} {xs:List Value} (h:w.ownsRow base 63 2 v n xs) (hn:0<n):∃g c,v = .slice (some ⟨g,0,none⟩) n c:=by
 obtain⟨_,⟨_,h0⟩|⟨g,cap,cur,h1,_⟩⟩:=h
 ·omega
 ·exact⟨g,cap,h1⟩
theorem yV {w:World} {base P:Nat} {G:Gr} (H:kZ w base P G) {i:Nat} (hi:i<G.objs.length) :
    ∃q0 c0 r1 r2 r3 m1 m2 m3 ms sa sc,fh w P 50 (.slice (some ⟨q0,0,none⟩) G.objs.length c0) (.slice r1 r2 r3) (.slice m1 m2 m3) (.int .i64 G.next) (.int .i64 G.seed)∧ja w base (.slice (some ⟨q0,0,none⟩) G.objs.length c0) (.slice r1 r2 r3) (.slice m1 m2 m3) ms G∧P ∉ cj (.slice (some ⟨q0,0,none⟩) G.objs.length c0) (.slice r1 r2 r3) (.slice m1 m2 m3) ms∧base≤P∧i<ms.length∧(ms.getD i moD).sv = .slice sa (G.objs.getD i obD).slots.length sc∧w.cell? ⟨q0,i*5,none⟩=some (.int .i64 (ms.getD i moD).id)∧w.cell? ⟨q0,i*5+4,none⟩=some (.slice sa (G.objs.getD i obD).slots.length sc):=by
 obtain⟨o,r,m,ms,T,O,N,hb⟩:=H;obtain⟨o1,o2,o3,r1,r2,r3,m1,m2,m3,e1,e2,e3⟩:=bq (fM O);subst e1 e2 e3;have hlm:=pN O;obtain⟨_,⟨h1,h2⟩|⟨g',cap',cur,h1,_⟩⟩:=O.2.1.1
 ·omega
 injection h1 with e1 e2 e3
 subst e1 e2 e3;obtain⟨⟨a0,c0,e,_,_,_,hco⟩,hrefs⟩:=jU O.2.1;injection e with e4 e5 e6
 obtain⟨b',off',e7,_,hcc⟩:=hco (by omega);have e8:=e4.trans e7;injection e8 with e8
 injection e8 with e8 e9
 obtain⟨y0,_,_,_,y4⟩:=hcc i (by omega);rw[←e8,←e9]at y0 y4;simp only[Nat.zero_add]at y0 y4;obtain⟨sa,sc,hsv,_⟩:=hrefs _ (cZ (ms:=ms) (i:=i) (by omega));rw[Ba O i]at hsv;rw[hsv]at y4;rw[hlm]at T O N;exact⟨g',_,r1,r2,r3,m1,m2,m3,ms,sa,sc,T,O,N,hb,by omega,hsv,y0,y4⟩
def jE (ms:List MO) (p:Nat):List MO:=ms.set p { ms.getD p moD with fmt:=0 }
theorem oH:∀(ms:List MO) (p:Nat),p<ms.length→cellsO (jE ms p)=(cellsO ms).set (p*5+2) (.int .i64 0)
 | [],p,h=>absurd h (Nat.not_lt_zero _)
 |m :: ms,0,_=>rfl
 |m :: ms,p+1,h=>by
  have e:jE (m :: ms) (p+1)=m :: jE ms p:=rfl;rw[e];show (.int .i64 m.id :: .int .i64 m.cls :: .int .i64 m.fmt :: .int .i64 m.hash :: m.sv :: cellsO (jE ms p):List Value)=_
  rw[oH ms p (by simpa using h),show (p+1)*5+2=(p*5+2)+1+1+1+1+1 by omega];rfl
theorem sK:∀(ms:List MO) (p:Nat),(jE ms p).map MO.abs=aZ (ms.map MO.abs) p
 | [],p=>rfl
 |m :: ms,0=>rfl
 |m :: ms,p+1=>by
  show m.abs :: (jE ms p).map MO.abs=m.abs :: aZ (ms.map MO.abs) p
  rw[sK ms p]
theorem qL:∀(ms:List MO) (p:Nat),gD (jE ms p)=gD ms
 | [],p=>rfl
 |m :: ms,0=>rfl
 |m :: ms,p+1=>by
  show blk m.sv++gD (jE ms p)=blk m.sv++gD ms
  rw[qL ms p]
theorem sL:∀(ms:List MO) (p:Nat),∀m' ∈ jE ms p,∃m ∈ ms,m'.sv=m.sv∧m'.slots=m.slots
 | [],p,m',h=>by cases h
 |m :: ms,0,m',h=>by
  rcases List.mem_cons.1 h with rfl|h
  ·exact⟨m,by simp,rfl,rfl⟩
  ·exact⟨m',by simp[h],rfl,rfl⟩
 |m :: ms,p+1,m',h=>by
  rcases List.mem_cons.1 h with rfl|h
  ·exact⟨_,by simp,rfl,rfl⟩
  ·obtain⟨x,hx,e⟩:=sL ms p m' h;exact⟨x,by simp[hx],e⟩
def Ia:Option Value→Bool
 |some (.int _ x)=>x==2
 |_=>false
def JB (w:World):Option Value→Nat
 |some (.slice (some a) n _)=>(List.range n).countP fun i=>Ia (w.cell? ⟨a.block,i*5+2,none⟩)
 |_=>0
def Gv (w:World) (P:Nat):Nat:=JB w (w.cell? ⟨P,0,none⟩)
theorem CE (os:List Ob):(List.range os.length).map (fun i=>os.getD i obD)=os:=by
 refine List.ext_getElem (by simp) fun i h1 h2 => ?_
 simp only[List.getElem_map,List.getElem_range];rw[List.getD_eq_getElem?_getD,List.getElem?_eq_getElem h2];rfl
theorem CF (os:List Ob):eph os=(List.range os.length).countP fun i=>(os.getD i obD).fmt==2:=by
 have h:eph ((List.range os.length).map (fun i=>os.getD i obD))=(List.range os.length).countP fun i=>(os.getD i obD).fmt==2:=by
  unfold eph;rw[List.countP_map];rfl
 rw[CE]at h;exact h
theorem mG {w:World} {base P:Nat} {G:Gr} (H:kZ w base P G):Gv w P=eph G.objs:=by
 by_cases h0:0<G.objs.length
 ·obtain⟨q0,c0,r1,r2,r3,m1,m2,m3,ms,sa,sc,T,O,N,hb,him,_,_,_⟩:=yV H h0;obtain⟨z0,_⟩:=ak T;have hlm:=pN O;have hab:=O.1;obtain⟨⟨a0,c0',e,_,_,_,hco⟩,_⟩:=jU O.2.1;injection e with e4 e5 e6
  obtain⟨b',off',e7,_,hcc⟩:=hco (by omega);have e8:=e4.trans e7;injection e8 with e8
  injection e8 with e8 e9
  unfold Gv;rw[z0,CF];show (List.range G.objs.length).countP _=_
  refine List.countP_congr fun i hi => ?_
  have hi':i<ms.length:=by rw[←e5];exact List.mem_range.1 hi
  obtain⟨_,_,y2,_,_⟩:=hcc i hi';rw[←e8,←e9]at y2;simp only[Nat.zero_add]at y2;show Ia (w.cell? ⟨q0,i*5+2,none⟩)=true↔_
  rw[y2,←hab,fo];exact Iff.rfl
 ·obtain⟨o,r,m,ms,T,O,N,hb⟩:=H;obtain⟨z0,_⟩:=ak T;have he:G.objs=[]:=List.length_eq_zero_iff.1 (by omega);have hlm:=pN O
  have hml:ms.length=0:=by
   have:=congrArg List.length O.1
   rw[List.length_map]at this;omega
  obtain⟨⟨a0,c0',e,_⟩,_⟩:=jU O.2.1;unfold Gv;rw[z0,e,he,hml];cases a0<;>rfl
def cU (w:World) (base P:Nat) (G:Gr) (S:List Nat):Prop:=∃o r m ms,fh w P 50 o r m (.int .i64 G.next) (.int .i64 G.seed)∧ja w base o r m ms G∧P ∉ cj o r m ms∧base≤P∧∀k ∈ S,k≠P∧k ∉ cj o r m ms
theorem cU.held {w:World} {base P:Nat} {G:Gr} {S:List Nat} (h:cU w base P G S):kZ w base P G:=by
 obtain⟨o,r,m,ms,T,O,N,hb,_⟩:=h;exact⟨o,r,m,ms,T,O,N,hb⟩
theorem CG {w w':World} {base P:Nat} {G:Gr} (h:kZ w base P G) (hb:Below w.heap.size w w') {S:List Nat} (hS:∀k ∈ S,w.heap.size≤k):cU w' base P G S:=by
 obtain⟨o,r,m,ms,T,O,N,hb'⟩:=h;refine⟨o,r,m,ms,aJ T hb,cI O hb,N,hb',fun k hk=>⟨fun e => ?_,fun e => ?_⟩⟩
 ·have:=lt_of_block T
  have:=hS k hk
  omega
 ·have:=(dz O k e).2
  have:=hS k hk
  omega
theorem mH {w:World} {base P:Nat} {G:Gr} {S:List Nat} (H:cU w base P G S) {i:Nat} (hi:i<G.objs.length) :
    ∃q0 c0 r1 r2 r3 m1 m2 m3 ms sa sc,fh w P 50 (.slice (some ⟨q0,0,none⟩) G.objs.length c0) (.slice r1 r2 r3) (.slice m1 m2 m3) (.int .i64 G.next) (.int .i64 G.seed)∧ja w base (.slice (some ⟨q0,0,none⟩) G.objs.length c0) (.slice r1 r2 r3) (.slice m1 m2 m3) ms G∧P ∉ cj (.slice (some ⟨q0,0,none⟩) G.objs.length c0) (.slice r1 r2 r3) (.slice m1 m2 m3) ms∧base≤P∧(∀k ∈ S,k≠P∧k ∉ cj (.slice (some ⟨q0,0,none⟩) G.objs.length c0) (.slice r1 r2 r3) (.slice m1 m2 m3) ms)∧i<ms.length∧(ms.getD i moD).sv = .slice sa (G.objs.getD i obD).slots.length sc∧w.cell? ⟨q0,i*5,none⟩=some (.int .i64 (ms.getD i moD).id)∧w.cell? ⟨q0,i*5+4,none⟩=some (.slice sa (G.objs.getD i obD).slots.length sc):=by
 obtain⟨o,r,m,ms,T,O,N,hb,HS⟩:=H;obtain⟨o1,o2,o3,r1,r2,r3,m1,m2,m3,e1,e2,e3⟩:=bq (fM O);subst e1 e2 e3;have hlm:=pN O;obtain⟨_,⟨h1,h2⟩|⟨g',cap',cur,h1,_⟩⟩:=O.2.1.1
 ·omega
 injection h1 with e1 e2 e3
 subst e1 e2 e3;obtain⟨⟨a0,c0,e,_,_,_,hco⟩,hrefs⟩:=jU O.2.1;injection e with e4 e5 e6
 obtain⟨b',off',e7,_,hcc⟩:=hco (by omega);have e8:=e4.trans e7;injection e8 with e8
 injection e8 with e8 e9
 obtain⟨y0,_,_,_,y4⟩:=hcc i (by omega);rw[←e8,←e9]at y0 y4;simp only[Nat.zero_add]at y0 y4;obtain⟨sa,sc,hsv,_⟩:=hrefs _ (cZ (ms:=ms) (i:=i) (by omega));rw[Ba O i]at hsv;rw[hsv]at y4;rw[hlm]at T O N HS;exact⟨g',_,r1,r2,r3,m1,m2,m3,ms,sa,sc,T,O,N,hb,HS,by omega,hsv,y0,y4⟩
theorem qM {w:World} {base P:Nat} {G:Gr} {S:List Nat} (H:cU w base P G S) {p:Nat} (hi:p<G.objs.length):∃q0 c0,w.cell? ⟨P,0,none⟩=some (.slice (some ⟨q0,0,none⟩) G.objs.length c0)∧w.cell? ⟨q0,p*5,none⟩=some (.int .i64 (G.objs.getD p obD).id)∧(∃u,w.cell? ⟨q0,p*5+2,none⟩=some (.int .i64 u))∧w.frozen? ⟨q0,p*5+2,none⟩=false∧P≠q0∧q0<w.heap.size∧q0 ∉ S∧cU (w.setCell ⟨q0,p*5+2,none⟩ (.int .i64 0)) base P { G with objs:=aZ G.objs p } S∧Below base w (w.setCell ⟨q0,p*5+2,none⟩ (.int .i64 0)):=by
 obtain⟨q0,c0,r1,r2,r3,m1,m2,m3,ms,sa,sc,T,O,N,hb,HS,him,_,hid,_⟩:=mH H hi;obtain⟨z0,_,_,_,_,_⟩:=ak T;have hq:q0 ∈ cj (.slice (some ⟨q0,0,none⟩) G.objs.length c0) (.slice r1 r2 r3) (.slice m1 m2 m3) ms:=by simp only[cj,List.mem_append];exact .inl (.inl (.inl (by simp[jh])))
 have hqb:=dz O q0 hq;have nP:P≠q0:=fun e=>N (e▸hq)
 have hidg:(ms.getD p moD).id=(G.objs.getD p obD).id:=by rw[←O.1,fo];rfl
 rw[hidg]at hid;obtain⟨⟨a0,c0',e,_,_,_,hco⟩,_⟩:=jU O.2.1;injection e with e4 e5 e6
 obtain⟨b',off',e7,_,hcc⟩:=hco (by omega);have e8:=e4.trans e7;injection e8 with e8
 injection e8 with e8 e9
 obtain⟨_,_,y2,_,_⟩:=hcc p him;rw[←e8,←e9]at y2;simp only[Nat.zero_add]at y2;have CH:=aH w q0 (p*5+2) (.int .i64 0);obtain⟨h1,⟨h2,h2b,h2c⟩,h3,h4,h5⟩:=O;have fz:=zJ h2 (p*5+2);have h5':=h5;simp only[cj,jh,List.nodup_append,List.mem_append,List.mem_singleton]at h5';refine⟨q0,c0,z0,hid,⟨_,y2⟩,fz,nP,hqb.2,fun e=>(HS q0 e).2 hq,?_,(Below.refl _ w).setCell (p:=⟨q0,p*5+2,none⟩) hqb.1 _⟩
 have hr:=xb h2 rfl (p*5+2) (.int .i64 0);have hbk:=qL ms p;refine⟨_,_,_,jE ms p,eV T CH (fun e=>nP (List.mem_singleton.1 e)),⟨?_,⟨?_,fun m' hm' => ?_,?_⟩,aE h3 CH (fun k hk e => ?_),aE h4 CH (fun k hk e => ?_),?_⟩,?_,hb,fun k hk=>⟨(HS k hk).1,?_⟩⟩
 ·rw[sK,h1]
 ·unfold lp;rw[oH ms p him,show (jE ms p).length=ms.length by simp[jE]];exact hr
 ·obtain⟨m0,hm0,e1,e2⟩:=sL ms p m' hm';rw[e1,e2];refine aE (h2b m0 hm0) CH (fun k hk e => ?_);rw[List.mem_singleton]at e;exact h5'.1.1.2.2 q0 rfl k (by simp only[gD,List.mem_flatMap];exact⟨m0,hm0,hk⟩) e.symm
 ·rw[hbk];exact h2c
 ·rw[List.mem_singleton]at e;exact h5'.1.2.2 q0 (.inl rfl) k hk e.symm
 ·rw[List.mem_singleton]at e;exact h5'.2.2 q0 (.inl (.inl rfl)) k hk e.symm
 ·simp only[cj,hbk];exact h5
 ·simp only[cj,hbk];exact N
 ·simp only[cj,hbk];exact (HS k hk).2
theorem qN {W w10:World} {base P:Nat} {o r m v':Value} {ms:List MO} {G:Gr} (T:fh W P 50 o r m (.int .i64 G.next) (.int .i64 G.seed)) (O:ja W base o r m ms G) (N:P ∉ cj o r m ms) (hb:base≤P) {S:List Nat} (HS:∀k ∈ S,k≠P∧k ∉ cj o r m ms) (hlt:∀k ∈ S,k<W.heap.size) (e:Rf)
    (hrow:w10.ownsRow base 63 2 v' (G.a7.length+1) (cellsR G.a7++cellsR [e])) (hg:W.grownBy w10 m.ownBlock) (hat:v'.ownBlock=m.ownBlock∨v'.ownBlock=some W.heap.size) :
    w10.cell? ⟨P,2,none⟩=some m∧w10.frozen? ⟨P,2,none⟩=false∧cU (w10.setCell ⟨P,2,none⟩ v') base P { G with a7:=G.a7++[e] } S∧(∀k ∈ S,(w10.setCell ⟨P,2,none⟩ v').heap[k]? = W.heap[k]?)∧Below base W (w10.setCell ⟨P,2,none⟩ v'):=by
 have CH:=cJ hg;have L:=dz O;have lP:=lt_of_block T;obtain⟨h1,h2,h3,h4,h5⟩:=O;have h5':=h5;simp only[cj,List.nodup_append,List.mem_append]at h5';obtain⟨⟨⟨n1,n2,d12⟩,n3,d123⟩,n4,d1234⟩:=h5'
 have hbo:blk v'=blk m∨blk v'=[W.heap.size]:=by
  unfold blk;rcases hat with h|h
  ·exact .inl (by rw[h])
  ·exact .inr (by rw[h];rfl)
 have nP:P ∉ cj o r v' ms:=fun hp=>by
  simp only[cj,List.mem_append]at hp N;rcases hp with hp|hp
  ·exact N (.inl hp)
  ·rcases hbo with h|h
   ·rw[h]at hp;exact N (.inr hp)
   ·rw[h,List.mem_singleton]at hp;omega
 have nm:P ∉ blk m:=fun hp=>N (by simp only[cj,List.mem_append];exact .inr hp)
 have T10:=eV T CH nm;obtain⟨_,_,u2,_,_,uf⟩:=ak T10
 have ND:(cj o r v' ms).Nodup:=by
  unfold cj at h5 ⊢;rw[List.nodup_append]at h5 ⊢;refine⟨h5.1,fl _,fun x hx y hy exy => ?_⟩
  rcases hbo with h|h
  ·rw[h]at hy;exact h5.2.2 x hx y hy exy
  ·rw[h,List.mem_singleton]at hy;have:=(L x (by unfold cj;exact List.mem_append_left _ hx)).2
   omega
 have O10:ja w10 base o r v' ms { G with a7:=G.a7++[e] }:=by
  refine⟨h1,qA h2 CH (fun k hk hq => ?_),aE h3 CH (fun k hk hq=>d1234 k (.inr hk) k hq rfl),?_,ND⟩
  ·rcases List.mem_append.1 hk with hk|hk
   ·exact d1234 k (.inl (.inl hk)) k hq rfl
   ·exact d1234 k (.inl (.inr hk)) k hq rfl
  ·show fJ w10 base v' (G.a7++[e])
   unfold fJ;rw[eC,List.length_append];exact hrow
 refine⟨u2,uf 2,⟨o,r,v',ms,lS T10 v',fN O10 (aH w10 P 2 v') (fun k hk e=>nP ((List.mem_singleton.1 e)▸hk)),nP,hb,fun k hk=>⟨(HS k hk).1,fun hq => ?_⟩⟩,fun k hk => ?_,?_⟩
 ·have hk2:=(HS k hk).2;simp only[cj,List.mem_append]at hq hk2;rcases hq with hq|hq
  ·exact hk2 (.inl hq)
  ·rcases hbo with h|h
   ·rw[h]at hq;exact hk2 (.inr hq)
   ·rw[h,List.mem_singleton]at hq;have:=hlt k hk;omega
 ·have c1:=CH.block k (hlt k hk) (fun e=>(HS k hk).2 (by simp only[cj,List.mem_append];exact .inr e));have c2:=(aH w10 P 2 v').block k (Nat.lt_of_lt_of_le (hlt k hk) CH.size) (fun e=>(HS k hk).1 (List.mem_singleton.1 e));exact c2.trans c1
 exact (bn CH (by omega) (fun k hk=>(L k (by simp only[cj,List.mem_append];exact .inr hk)).1)).setCell (p:=⟨P,2,none⟩) hb _
def awI (os:List Ob) (l:List Rf):Int:=if fG os (l.getD 0 bU)=true then (cV os (l.getD 0 bU):Int) else -1
set_option maxHeartbeats 4000000 in
theorem mI {w:World} {v:Value} {ms:List MO} {os:List Ob} (h:jC w v ms) (hsl:Slices ms) (ea:ms.map MO.abs=os) (hr:zK os) (hl:ms.length≤1048576) (m:MO) (R:cM w m.sv m.slots) (h1:0<m.slots.length) :
    Calls Tryz.prog 99 #[v,ov m] w fun e w'=>e = .returned (.int .i64 (awI os m.slots))∧Below w.heap.size w w':=by
 obtain⟨i,c,f,g,sv,sl⟩:=m;simp only at R h1 ⊢;obtain⟨a,cap,rfl,hlc,hcm,_,hc⟩:=R;obtain⟨b,off,rfl,hb,hcc⟩:=hc h1;have x0:=(hcc 0 h1).1;have x1:=(hcc 0 h1).2;have B:Below w.heap.size w (w.alloc (ob ⟨i,c,f,g,.slice (some ⟨b,off,none⟩) sl.length cap,sl⟩)):=(Below.refl _ w).alloc (Nat.le_refl _) _;have y0:=(B.cell (p:=⟨b,off+0*2,none⟩) hb).trans x0;have y1:=(B.cell (p:=⟨b,off+0*2+1,none⟩) hb).trans x1;have L:=pM (cC h B) hsl ea hr hl (sl.getD 0 bU);obtain⟨RV,hRV⟩:∃RV,awI os sl=RV:=⟨_,rfl⟩
 rw[hRV];have HRV:Hid _:=hRV;obtain⟨a',cap',rfl,_⟩:=h;have HB:Hid _:=B;have szB:=B.size;rw[show off+0*2=off by omega]at y0 y1;clear B hRV hcc hc x0 x1 hb hlc ea hr hl;unfold awI at HRV;generalize sl.getD 0 bU=e0 at *;obtain⟨ek,en⟩:=e0;simp only at y0 y1;cases d:fG os (ek,en)
 ·rw[d]at L;have ER:Hid (RV = -1):=by show _=_;rw[←HRV.out,d];rfl
  clear HRV d;go_enter Tryz.func99,Tryz.ntmps99;go_wp2_with (go_at_call 25;refine L.mono ?_;rintro e w1 ⟨k,rfl,_,b1⟩;have HB1:Hid _:=HB.out.trans (b1.mono szB);clear b1 L);go_ret;exact⟨by rw[ER.out];rfl,HB1⟩
 ·rw[d]at L;have ER:Hid (RV=cV os (ek,en)):=by show _=_;rw[←HRV.out,d,if_pos rfl]
  clear HRV d;generalize cV os (ek,en)=pp at *;go_enter Tryz.func99,Tryz.ntmps99;go_wp2_with (go_at_call 25;refine L.mono ?_;rintro e w1 ⟨k,rfl,hk,b1⟩;obtain rfl:=hk rfl;have HB1:Hid _:=HB.out.trans (b1.mono szB);clear b1 L hk);go_ret;exact⟨by rw[ER.out];rfl,HB1⟩
theorem vB {w:World} {b off n cap:Nat} {es:List Rf} (h:cM w (.slice (some ⟨b,off,none⟩) n cap) es) (hn:0<n) {a:Option Addr} {cc:Nat} (ha:1<n→a=some ⟨b,off+2,none⟩) (hc:cc=cap-1) (hz:a=none→cc=0):cM w (.slice a (n-1) cc) (es.drop 1):=by
 obtain⟨a0,cap0,e,h1,h2,_,h3⟩:=h;injection e with e1 e2 e3
 subst e1 e2 e3;obtain⟨b',off',e4,hb,hc'⟩:=h3 hn;injection e4 with e4
 injection e4 with e5 e6
 subst e5 e6;have ht:(es.drop 1).length=es.length-1:=by simp
 refine⟨a,cc,by rw[ht],by rw[ht];omega,by rw[hc];exact Nat.le_trans (Nat.sub_le _ _) h2,hz,fun hp => ?_⟩
 rw[ht]at hp;refine⟨b,off+2,ha (by omega),hb,fun i hi => ?_⟩
 have hg:(es.drop 1).getD i bU=es.getD (i+1) bU:=by
  rw[List.getD_eq_getElem?_getD,List.getElem?_drop,←List.getD_eq_getElem?_getD,Nat.add_comm 1 i]
 have:=hc' (i+1) (by omega)
 rw[hg,show off+2+i*2=off+(i+1)*2 by omega];exact this
def awO (os:List Ob) (o:Ob):Int:=if o.fmt=2 then awI os o.slots else -1
theorem Ex {os:List Ob} {o:Ob} (h:awt os o=none):awO os o = -1:=by
 unfold awO awI;unfold awt at h;by_cases h2:o.fmt=2
 ·rw[if_pos h2];by_cases h3:fG os (o.slots.getD 0 bU)=true
  ·rw[if_pos ⟨h2,h3⟩]at h;cases h
  ·rw[if_neg h3]
 ·rw[if_neg h2]
theorem Ey {os:List Ob} {o:Ob} {q:Nat} (h:awt os o=some q):awO os o=q∧q<os.length:=by
 unfold awO awI;unfold awt at h;by_cases h2:o.fmt=2∧fG os (o.slots.getD 0 bU)=true
 ·rw[if_pos h2]at h;injection h with h
  rw[if_pos h2.1,if_pos h2.2,←h];exact⟨rfl,gT h2.2⟩
 ·rw[if_neg h2]at h;cases h
set_option maxHeartbeats 8000000 in
theorem xJ {w:World} {v:Value} {ms:List MO} {os:List Ob} (h:jC w v ms) (hsl:Slices ms) (ea:ms.map MO.abs=os) (hr:zK os) (hl:ms.length≤1048576) (m:MO) (R:cM w m.sv m.slots) (h1:m.fmt=2→0<m.slots.length) :
    Calls Tryz.prog 145 #[v,ov m] w fun e w'=>∃a n c,e = .returned (.tuple #[.slice a n c,.int .i64 (awO os m.abs)])∧(∀W,cM W m.sv m.slots→cM W (.slice a n c) (onw m.abs))∧(m.fmt=2→∃ad,a=some ad)∧Below w.heap.size w w':=by
 obtain⟨i,c,f,g,sv,sl⟩:=m;simp only at R h1 ⊢;have HR:=R;obtain⟨a,cap,rfl,hlc,hcm,_,hc⟩:=R;have B:Below w.heap.size w (w.alloc (ob ⟨i,c,f,g,.slice a sl.length cap,sl⟩)):=(Below.refl _ w).alloc (Nat.le_refl _) _;have HB:Hid _:=B;have szB:=B.size;obtain⟨a',cap',rfl,q1,q2,q3,q4⟩:=id h;by_cases h0:f=0
 ·subst h0;have ER:Hid (awO os ⟨i,c,0,g,sl⟩ = -1):=rfl;have EO:Hid (onw ⟨i,c,0,g,sl⟩=sl):=rfl;clear hc q4;go_enter Tryz.func145,Tryz.ntmps145;go_wp2;exact bodyPost_ret (v:=.tuple #[.slice a sl.length cap,.int .i64 (-1)]) (by simp[results,Tryz.results145,go_sem]) rfl ⟨a,sl.length,cap,rfl,fun W hW=>hW,fun e=>absurd e (by show ¬(0:Int)=2;decide),HB⟩
 ·by_cases h2:f=2
  ·subst h2;have hp:=h1 rfl;obtain⟨b,off,rfl,hb,hcc⟩:=hc hp;have ER:Hid (awO os (MO.abs ⟨i,c,2,g,.slice (some ⟨b,off,none⟩) sl.length cap,sl⟩)=awI os sl):=rfl;have EO:Hid (onw (MO.abs ⟨i,c,2,g,.slice (some ⟨b,off,none⟩) sl.length cap,sl⟩)=sl.drop 1):=rfl;have HA:Hid (∀W,Below w.heap.size w W→Calls Tryz.prog 99 #[.slice a' ms.length cap',ov ⟨i,c,2,g,.slice (some ⟨b,off,none⟩) sl.length cap,sl⟩] W fun e w'=>e = .returned (.int .i64 (awI os sl))∧Below W.heap.size W w'):=fun W hW=>mI (cC h hW) hsl ea hr hl _ (aU HR hW) hp
   have HA2:=HA.out _ (B.drew);have HT:Hid (fh (w.alloc (ob ⟨i,c,2,g,.slice (some ⟨b,off,none⟩) sl.length cap,sl⟩)).drew w.heap.size 60 (.int .i64 i) (.int .i64 c) (.int .i64 2) (.int .i64 g) (.slice (some ⟨b,off,none⟩) sl.length cap)):=aJ (fX w _ _ _ _ _ _) (Below.refl _ _).drew;have HBD:Hid (Below w.heap.size w (w.alloc (ob ⟨i,c,2,g,.slice (some ⟨b,off,none⟩) sl.length cap,sl⟩)).drew):=B.drew;have hsl1:(1:Int)≤(sl.length:Int):=by omega
   have hlc':(sl.length:Int)≤cap:=by omega
   have hcb:cap≤9223372036854775807:=hcm;clear hc q4 hcc HA HR h ea hr hl;generalize awI os sl=aw at *;clear B szB h1;by_cases hc1:cap=1
   ·subst hc1
    obtain⟨x,rfl⟩:∃x,sl=[x]:=by
     match sl,hp,hlc with
     | [x],_,_=>exact⟨x,rfl⟩
     |_ :: _ :: _,_,h=>simp at h
    go_enter Tryz.func145,Tryz.ntmps145;go_wp2_with fail;go_region_law (go_simp;go_at_call 99;refine HA2.mono ?_;clear HA2;rintro e w1 ⟨rfl,b1⟩;obtain⟨_,_,_,_,y4,_⟩:=ak (aJ HT.out b1);have HB1:Hid _:=HBD.out.trans (b1.mono HBD.out.size);clear b1 HT);all_goals go_wp2
    all_goals exact bodyPost_ret (v:=.tuple #[.slice (some ⟨b,off,none⟩) 0 0,.int .i64 aw]) (by simp[results,Tryz.results145,go_sem]) rfl ⟨some ⟨b,off,none⟩,0,0,congrArg (fun z=>Ending.returned (.tuple #[.slice (some ⟨b,off,none⟩) 0 0,.int .i64 z])) ER.out.symm,fun W hW=>by show cM W _ (List.drop 1 [x]);exact vB hW (by decide) (fun h=>absurd h (by decide)) rfl (fun h=>by cases h),fun _=>⟨_,rfl⟩,HB1⟩
   ·go_enter Tryz.func145,Tryz.ntmps145;go_wp2_with fail;go_region_law (go_simp;go_at_call 99;refine HA2.mono ?_;clear HA2;rintro e w1 ⟨rfl,b1⟩;obtain⟨_,_,_,_,y4,_⟩:=ak (aJ HT.out b1);have HB1:Hid _:=HBD.out.trans (b1.mono HBD.out.size);clear b1 HT);all_goals go_wp2
    all_goals exact bodyPost_ret (v:=.tuple #[.slice (some ⟨b,off+2,none⟩) (sl.length-1) (cap-1),.int .i64 aw]) (by simp[results,Tryz.results145,go_sem]) rfl ⟨some ⟨b,off+2,none⟩,sl.length-1,cap-1,by rw[ER.out],fun W hW=>by rw[EO.out];exact vB hW hp (fun h=>rfl) rfl (fun h=>by cases h),fun _=>⟨_,rfl⟩,HB1⟩
  ·have ER:Hid (awO os (MO.abs ⟨i,c,f,g,.slice a sl.length cap,sl⟩) = -1):=by show _=_;unfold awO;exact if_neg h2
   have EO:Hid (onw (MO.abs ⟨i,c,f,g,.slice a sl.length cap,sl⟩)=[]):=by show _=_;unfold onw;show (if f=0 then sl else if f=2 then sl.drop 1 else [])=[];rw[if_neg h0,if_neg h2]
   have h0':(f==0)=false:=by simpa using h0
   have h2':(f==2)=false:=by simpa using h2
   clear hc q4;go_enter Tryz.func145,Tryz.ntmps145;go_wp2;exact bodyPost_ret (v:=.tuple #[.slice none 0 0,.int .i64 (-1)]) (by simp[results,Tryz.results145,go_sem]) rfl ⟨none,0,0,by rw[ER.out],fun W _=>by rw[EO.out];exact⟨none,0,rfl,Nat.le_refl _,by unfold maxLen;omega,fun _=>rfl,fun h=>absurd h (by simp)⟩,fun e=>absurd e h2,HB⟩
abbrev mJ:Value:=.slice none 0 0
theorem cell_of {w:World} {b:Nat} {cs:List Value} {t:TypeId} (h:w.heap[b]? = some (.cells cs.toArray t (0,0))) {i:Nat} {u:Value} (hu:cs[i]? = some u):w.cell? ⟨b,i,none⟩=some u:=by simp[World.cell?, h,hu]
structure RS (W1:World) (Bi Bw n:Nat) (W:World) (vs:List Value) (s:St):Prop where
 ch:Ch [Bi,Bw] W1 W
 li:s.is.length=n
 lw:s.wt.length=n
 lv:vs.length=n
 hi:W.heap[Bi]? = some (.cells (s.is.map Value.bool).toArray 4 (0,0))
 hw:W.heap[Bw]? = some (.cells vs.toArray 48 (0,0))
 own:∀q,q<n→fJ W W1.heap.size (vs.getD q mJ) (s.w q)
 nd:∀q q',q<n→q'<n→q≠q'→∀k ∈ blk (vs.getD q mJ),k ∉ blk (vs.getD q' mJ)
theorem RS.lo {W1:World} {Bi Bw n:Nat} {W:World} {vs:List Value} {s:St} (h:RS W1 Bi Bw n W vs s) {q:Nat} (hq:q<n):∀k ∈ blk (vs.getD q mJ),W1.heap.size≤k∧k<W.heap.size:=aM (h.own q hq)
theorem RS.below {W1:World} {Bi Bw n:Nat} {W W':World} {vs:List Value} {s:St} (h:RS W1 Bi Bw n W vs s) (b:Below W.heap.size W W'):RS W1 Bi Bw n W' vs s:=
 ⟨h.ch.trans (bu b),h.li,h.lw,h.lv,(b.block _ (lt_of_block h.hi)).trans h.hi,(b.block _ (lt_of_block h.hw)).trans h.hw,fun q hq=>fc (h.own q hq) b,h.nd⟩
theorem RS.Jp {W1:World} {Bi Bw n:Nat} {W:World} {vs:List Value} {s:St} (h:RS W1 Bi Bw n W vs s) {p:Nat} (hp:p<n):W.cell? ⟨Bi,p,none⟩=some (.bool (s.i p)):=by
 have hl:=h.li
 have e:s.is[p]? = some (s.i p):=by
  show _=some (s.is.getD p false)
  rw[List.getD_eq_getElem?_getD,List.getElem?_eq_getElem (by omega)];rfl
 exact cell_of h.hi (by rw[List.getElem?_map,e];rfl)
theorem RS.Fu {W1:World} {Bi Bw n:Nat} {W:World} {vs:List Value} {s:St} (h:RS W1 Bi Bw n W vs s) {p:Nat} (hp:p<n):W.cell? ⟨Bw,p,none⟩=some (vs.getD p mJ):=by
 have hl:=h.lv
 have e:vs[p]? = some (vs.getD p mJ):=by
  rw[List.getD_eq_getElem?_getD,List.getElem?_eq_getElem (by omega)];rfl
 exact cell_of h.hw e
theorem RS.Jg {W1:World} {Bi Bw n:Nat} {W:World} {vs:List Value} {s:St} (h:RS W1 Bi Bw n W vs s) (p:Nat):W.frozen? ⟨Bi,p,none⟩=false:=by simp[World.frozen?, h.hi]
def yW (Bi Bw n:Nat) (vs:List Value) (s:St):List Nat:=Bi :: Bw :: ((List.range n).filter (fun q => !s.i q)).flatMap (fun q=>blk (vs.getD q mJ))
theorem cz {Bi Bw n:Nat} {vs:List Value} {s:St} {k:Nat}:k ∈ yW Bi Bw n vs s↔k=Bi∨k=Bw∨∃q,q<n∧s.i q=false∧k ∈ blk (vs.getD q mJ):=by
 unfold yW;simp only[List.mem_cons,List.mem_flatMap,List.mem_filter,List.mem_range,Bool.not_eq_true'];constructor
 ·rintro (h|h|⟨q,⟨h1,h2⟩,h3⟩)
  ·exact .inl h
  ·exact .inr (.inl h)
  ·exact .inr (.inr ⟨q,h1,h2,h3⟩)
 ·rintro (h|h|⟨q,h1,h2,h3⟩)
  ·exact .inl h
  ·exact .inr (.inl h)
  ·exact .inr (.inr ⟨q,⟨h1,h2⟩,h3⟩)
theorem jZ {S T:List Nat} {a b c:World} (h:Ch S a b) (k:Ch T b c) (hs:∀x ∈ T,x ∈ S∨a.heap.size≤x):Ch S a c:=
 ⟨k.os.trans h.os,k.tape.trans h.tape,k.output.trans h.output,Nat.le_trans h.size k.size,fun x hx hn=>(k.block x (Nat.lt_of_lt_of_le hx h.size) (fun e=>by
  rcases hs x e with e|e
  ·exact hn e
  ·omega)).trans (h.block x hx hn)⟩
theorem Fv {W1:World} {Bi Bw n:Nat} {W:World} {vs:List Value} {s:St} (h:RS W1 Bi Bw n W vs s):∀k ∈ yW Bi Bw n vs s,k ∈ [Bi,Bw]∨W1.heap.size≤k:=fun k hk=>by
 rcases cz.1 hk with e|e|⟨q,hq,_,e⟩
 ·exact .inl (by simp[e])
 ·exact .inl (by simp[e])
 ·exact .inr (h.lo hq k e).1
structure Run (G:Gr) (W1:World) (Bi Bw n:Nat) (L:List Rf) (W:World) (vs:List Value) (s:St) (W':World) (vs':List Value) (s':St):Prop where
 rs:RS W1 Bi Bw n W' vs' s'
 st:Step G L s s'
 sd:Sound G s→Hg G L→Sound G s'
 bd:∀C,(∀q,(s.w q).length+20*s.left≤C)→∀q,(s'.w q).length+20*s'.left≤C
 lf:s'.left≤s.left
 ch:Ch (yW Bi Bw n vs s) W W'
 sh:∀q,q<n→s'.i q=false→∀k ∈ blk (vs'.getD q mJ),k ∈ blk (vs.getD q mJ)∨W.heap.size≤k
theorem Run.refl {G:Gr} {W1:World} {Bi Bw n:Nat} {W:World} {vs:List Value} {s:St} (h:RS W1 Bi Bw n W vs s):Run G W1 Bi Bw n [] W vs s W vs s:=
 ⟨h,Step.refl s,fun a _=>a,fun _ a=>a,Nat.le_refl _,Ch.refl _ _,fun _ _ _ _ hk => .inl hk⟩
theorem Run.below {G:Gr} {W1:World} {Bi Bw n:Nat} {L:List Rf} {W W' W'':World} {vs vs':List Value} {s s':St} (h:Run G W1 Bi Bw n L W vs s W' vs' s') (b:Below W'.heap.size W' W''):Run G W1 Bi Bw n L W vs s W'' vs' s':=
 ⟨h.rs.below b,h.st,h.sd,h.bd,h.lf,h.ch.trans (bu b),h.sh⟩
theorem Run.ahead {G:Gr} {W1:World} {Bi Bw n:Nat} {L:List Rf} {W W' W'':World} {vs vs':List Value} {s s':St} (b:Below W.heap.size W W'') (h:Run G W1 Bi Bw n L W'' vs s W' vs' s'):Run G W1 Bi Bw n L W vs s W' vs' s':=
 ⟨h.rs,h.st,h.sd,h.bd,h.lf,(bu b).trans h.ch,fun q hq hs k hk=>(h.sh q hq hs k hk).imp_right (fun e=>Nat.le_trans b.size e)⟩
theorem nO {G:Gr} {L:List Rf} {s t:St} (h:Step G L s t) {q:Nat} (hq:t.i q=false):s.i q=false:=by
 cases e:s.i q
 ·rfl
 ·rw[h.mono q e]at hq;cases hq
theorem Run.trans {G:Gr} {W1:World} {Bi Bw n:Nat} {L M:List Rf} {W W' W'':World} {vs vs' vs'':List Value} {s s' s'':St} (a:Run G W1 Bi Bw n L W vs s W' vs' s') (b:Run G W1 Bi Bw n M W' vs' s' W'' vs'' s''):Run G W1 Bi Bw n (L++M) W vs s W'' vs'' s'':=by
 refine⟨b.rs,a.st.trans b.st,fun h1 h2=>b.sd (a.sd h1 fun r hr=>h2 r (List.mem_append_left _ hr)) fun r hr=>h2 r (List.mem_append_right _ hr),fun C h=>b.bd C (a.bd C h),Nat.le_trans b.lf a.lf,jZ a.ch b.ch fun x hx => ?_,fun q hq hs k hk => ?_⟩
 ·rcases cz.1 hx with e|e|⟨q,hq,hs,e⟩
  ·exact .inl (cz.2 (.inl e))
  ·exact .inl (cz.2 (.inr (.inl e)))
  ·rcases a.sh q hq hs x e with e|e
   ·exact .inl (cz.2 (.inr (.inr ⟨q,hq,nO a.st hs,e⟩)))
   ·exact .inr e
 ·rcases b.sh q hq hs k hk with e|e
  ·exact a.sh q hq (nO b.st hs) k e
  ·exact .inr (Nat.le_trans a.ch.size e)
theorem Run.no {G:Gr} {W1:World} {Bi Bw n:Nat} {W:World} {vs:List Value} {s:St} {r:Rf} (h:RS W1 Bi Bw n W vs s) (hr:fG G.objs r=true→s.i (cV G.objs r)=true):Run G W1 Bi Bw n [r] W vs s W vs s:=
 ⟨h,FG hr,fun a _=>a,fun _ a=>a,Nat.le_refl _,Ch.refl _ _,fun _ _ _ _ hk => .inl hk⟩
theorem RS.pO {W1:World} {Bi Bw n:Nat} {W:World} {vs:List Value} {s:St} (h:RS W1 Bi Bw n W vs s) (hBi:Bi<W1.heap.size) (hne:Bi≠Bw) (p:Nat):RS W1 Bi Bw n (W.setCell ⟨Bi,p,none⟩ (.bool true)) vs (s.pO p)∧Ch (yW Bi Bw n vs s) W (W.setCell ⟨Bi,p,none⟩ (.bool true)):=by
 have c:Ch [Bi] W (W.setCell ⟨Bi,p,none⟩ (.bool true)):=aH W Bi p _;refine⟨⟨h.ch.trans (c.mono (by simp)),by simp[St.pO,h.li],h.lw,h.lv,?_,?_,fun q hq=>aE (h.own q hq) c fun k hk => ?_,h.nd⟩,c.mono (fun k hk=>cz.2 (.inl (by simpa using hk)))⟩
 ·rw[aq h.hi];simp[St.pO]
 ·exact (c.block Bw (lt_of_block h.hw) (by simpa using fun e=>hne e.symm)).trans h.hw
 ·have:=(h.lo hq k hk).1
  simp only[List.mem_singleton];omega
theorem RS.keeps {W1:World} {Bi Bw n:Nat} {W:World} {vs:List Value} {s:St} (h:RS W1 Bi Bw n W vs s) (hBi:Bi<W1.heap.size) (hBw:Bw<W1.heap.size) {p:Nat} (hp:p<n) (hi:s.i p=true):∀W',Ch (yW Bi Bw n vs s) W W'→cM W' (vs.getD p mJ) (s.w p):=fun W' c=>cB (aE (h.own p hp) c fun k hk e=>by
 have:=(h.lo hp k hk).1
 rcases cz.1 e with e|e|⟨q,hq,hs,e⟩
 ·omega
 ·omega
 ·by_cases e':q=p
  ·subst e';rw[hi]at hs;cases hs
  ·exact h.nd p q hp hq (fun e=>e' e.symm) k hk e)
theorem xK {s:St} {p:Nat} (hp:p<s.is.length) (hn:s.i p=false) {C:Nat} (h:∀q,(s.w q).length+20*s.left≤C):∀q,((s.pO p).w q).length+20*(s.pO p).left≤C-20:=fun q=>by
 have h1:=jI hp hn;have h2:=h q;have h3:(s.pO p).w q=s.w q:=rfl;rw[h3];omega
theorem Jh {s:St} {p:Nat} (hp:p<s.is.length) (hn:s.i p=false) {C:Nat} (h:∀q,(s.w q).length+20*s.left≤C):20≤C:=by
 have h1:=jI hp hn;have h2:=h 0;omega
theorem Ib {G:Gr} {W1:World} {Bi Bw n:Nat} {W Wa W2 W3:World} {vs vs2 vs3:List Value} {s s2 s3:St} {r:Rf} (h:RS W1 Bi Bw n W vs s) (hl:fG G.objs r=true) (hn:s.i (cV G.objs r)=false) (hp:cV G.objs r<n)
    (hc:Ch (yW Bi Bw n vs s) W Wa)
    (a:Run G W1 Bi Bw n (s.w (cV G.objs r)) Wa vs (s.pO (cV G.objs r)) W2 vs2 s2) (b:Run G W1 Bi Bw n (onw (G.objs.getD (cV G.objs r) obD)) W2 vs2 s2 W3 vs3 s3)
    (hw:∀q,awt G.objs (G.objs.getD (cV G.objs r) obD)=some q→s2.i q=true):Run G W1 Bi Bw n [r] W vs s W3 vs3 s3:=by
 have hp':cV G.objs r<s.is.length:=by rw[h.li];exact hp
 have c:=a.trans b
 have ci:∀q,(s.pO (cV G.objs r)).i q=false→s.i q=false:=fun q hq=>by
  rw[jy hp']at hq;split at hq
  ·cases hq
  ·exact hq
 refine⟨c.rs,FJ hn hp' a.st b.st hw,fun h1 h2 => ?_,fun C hC => ?_,?_,jZ hc c.ch fun x hx => ?_,fun q hq hs k hk => ?_⟩
 ·have hr:Rch G (cV G.objs r):=h2 r (by simp) hl;have s1:=a.sd (rZ h1 hp' hr) fun r' hr' hl'=>h1.w _ r' hr' hr hl'
  refine b.sd s1 fun r' hr' hl' => ?_
  cases ha:awt G.objs (G.objs.getD (cV G.objs r) obD) with
  |none=>exact Rch.on0 _ hr ha r' hr' hl'
  |some q=>exact Rch.on1 _ q hr ha (s1.i q (hw q ha)) r' hr' hl'
 ·have h3:=c.bd (C-20) (xK hp' hn hC);intro q;have:=h3 q
  omega
 ·have:=jI hp' hn
  have:=c.lf
  omega
 ·rcases cz.1 hx with e|e|⟨q,hq,hs,e⟩
  ·exact .inl (cz.2 (.inl e))
  ·exact .inl (cz.2 (.inr (.inl e)))
  ·exact .inl (cz.2 (.inr (.inr ⟨q,hq,ci q hs,e⟩)))
 ·rcases c.sh q hq hs k hk with e|e
  ·exact .inl e
  ·exact .inr (Nat.le_trans hc.size e)
theorem RS.wait {W1:World} {Bi Bw n:Nat} {W w2:World} {vs:List Value} {s:St} (h:RS W1 Bi Bw n W vs s) (hBi:Bi<W1.heap.size) (hBw:Bw<W1.heap.size) (hne:Bi≠Bw) {q:Nat} (hq:q<n) (l:List Rf) {v':Value}
    (hown:w2.ownsRow W1.heap.size 63 2 v' ((s.w q).length+l.length) (cellsR (s.w q)++cellsR l)) (hg:W.grownBy w2 (vs.getD q mJ).ownBlock) (hat:v'.ownBlock=(vs.getD q mJ).ownBlock∨v'.ownBlock=some W.heap.size) :
    Ch [Bi,Bw] W1 w2∧w2.cell? ⟨Bw,q,none⟩=some (vs.getD q mJ)∧w2.frozen? ⟨Bw,q,none⟩=false∧RS W1 Bi Bw n (w2.setCell ⟨Bw,q,none⟩ v') (vs.set q v') (s.wait q l)∧(∀k ∈ blk v',k ∈ blk (vs.getD q mJ)∨W.heap.size≤k)∧(s.i q=false→Ch (yW Bi Bw n vs s) W (w2.setCell ⟨Bw,q,none⟩ v')):=by
 have c1:Ch (blk (vs.getD q mJ)) W w2:=cJ hg;have hlo:=h.lo hq;have nB:∀k,k<W1.heap.size→k ∉ blk (vs.getD q mJ):=fun k hk e=>by have:=(hlo k e).1;omega
 have hbw2:w2.heap[Bw]? = some (.cells vs.toArray 48 (0,0)):=(c1.block Bw (lt_of_block h.hw) (nB Bw hBw)).trans h.hw;have hbi2:w2.heap[Bi]? = some (.cells (s.is.map Value.bool).toArray 4 (0,0)):=(c1.block Bi (lt_of_block h.hi) (nB Bi hBi)).trans h.hi;have c2:Ch [Bw] w2 (w2.setCell ⟨Bw,q,none⟩ v'):=aH w2 Bw q _
 have hnew:∀k ∈ blk v',k ∈ blk (vs.getD q mJ)∨W.heap.size≤k:=fun k hk=>by
  unfold blk at hk ⊢;rcases hat with e|e
  ·rw[e]at hk;exact .inl hk
  ·rw[e]at hk;simp at hk;exact .inr (by omega)
 have gv:∀k,(vs.set q v').getD k mJ=if k=q then v' else vs.getD k mJ:=fun k=>by
  have:=h.lv
  rw[List.getD_eq_getElem?_getD,List.getElem?_set];by_cases e:q=k
  ·subst e;rw[if_pos rfl,if_pos (show q<vs.length by omega),if_pos rfl];rfl
  ·rw[if_neg e,if_neg (fun e'=>e e'.symm),←List.getD_eq_getElem?_getD]
 have hlq:=h.lv
 refine⟨jZ h.ch (c1.mono (T:=blk (vs.getD q mJ)) fun _ e=>e) fun x hx => .inr (hlo x hx).1,by
     have e:vs[q]? = some (vs.getD q mJ):=by
      rw[List.getD_eq_getElem?_getD,List.getElem?_eq_getElem (by omega)];rfl
     exact cell_of hbw2 e,by simp[World.frozen?, hbw2],⟨?_,h.li,by simp[St.wait,h.lw],by simp[h.lv],?_,?_,fun k hk => ?_,fun k k' hk hk' hkk x hx => ?_⟩,hnew,fun hiq => ?_⟩
 ·refine (jZ h.ch (c1.mono (T:=blk (vs.getD q mJ)) fun _ e=>e) fun x hx => .inr (hlo x hx).1).trans (c2.mono (by simp))
 ·exact (c2.block Bi (lt_of_block hbi2) (by simpa using hne)).trans hbi2
 ·rw[aq hbw2];simp
 ·rw[gv,uE (by rw[h.lw];exact hq)];split
  ·have e:fJ w2 W1.heap.size v' (s.w q++l):=by
     unfold fJ;rw[List.length_append,eC];exact hown
   exact aE e c2 fun x hx=>by
    rcases hnew x hx with e|e
    ·have:=(hlo x e).1;simp;omega
    ·have:=h.ch.size;simp;omega
  ·rename_i e
   have o1:fJ w2 W1.heap.size (vs.getD k mJ) (s.w k):=aE (h.own k hk) c1 fun x hx=>h.nd k q hk hq e x hx
   exact aE o1 c2 fun x hx=>by have:=(h.lo hk x hx).1;simp;omega
 ·rw[gv]at hx ⊢;by_cases e:k=q
  ·subst e;rw[if_pos rfl]at hx;rw[if_neg (fun e=>hkk e.symm)];rcases hnew x hx with e|e
   ·exact h.nd k k' hk hk' hkk x e
   ·intro e';have:=(h.lo hk' x e').2;omega
  ·rw[if_neg e]at hx;by_cases e2:k'=q
   ·subst e2;rw[if_pos rfl];intro e';rcases hnew x e' with e3|e3
    ·exact h.nd k k' hk hk' hkk x hx e3
    ·have:=(h.lo hk x hx).2;omega
   ·rw[if_neg e2];exact h.nd k k' hk hk' hkk x hx
 ·exact (c1.mono fun k hk=>cz.2 (.inr (.inr ⟨q,hq,hiq,hk⟩))).trans (c2.mono fun k hk=>cz.2 (.inr (.inl (by simpa using hk))))
theorem Ez {G:Gr} {W1:World} {Bi Bw n:Nat} {W Wa W2 W3:World} {vs vs2:List Value} {v':Value} {s s2:St} {r:Rf} {q:Nat} (h:RS W1 Bi Bw n W vs s) (hl:fG G.objs r=true) (hn:s.i (cV G.objs r)=false) (hp:cV G.objs r<n)
    (hc:Ch (yW Bi Bw n vs s) W Wa)
    (a:Run G W1 Bi Bw n (s.w (cV G.objs r)) Wa vs (s.pO (cV G.objs r)) W2 vs2 s2) (hq:q<n) (ha:awt G.objs (G.objs.getD (cV G.objs r) obD)=some q) (hw:s2.i q=false) (h20:(onw (G.objs.getD (cV G.objs r) obD)).length≤20)
    (hR:RS W1 Bi Bw n W3 (vs2.set q v') (s2.wait q (onw (G.objs.getD (cV G.objs r) obD)))) (hC:Ch (yW Bi Bw n vs2 s2) W2 W3) (hv:∀k ∈ blk v',k ∈ blk (vs2.getD q mJ)∨W2.heap.size≤k) :
    Run G W1 Bi Bw n [r] W vs s W3 (vs2.set q v') (s2.wait q (onw (G.objs.getD (cV G.objs r) obD))):=by
 have hp':cV G.objs r<s.is.length:=by rw[h.li];exact hp
 have hq':q<s2.wt.length:=by rw[a.rs.lw];exact hq
 have ci:∀q,(s.pO (cV G.objs r)).i q=false→s.i q=false:=fun q hq=>by
  rw[jy hp']at hq;split at hq
  ·cases hq
  ·exact hq
 have gv:∀k,(vs2.set q v').getD k mJ=if k=q then v' else vs2.getD k mJ:=fun k=>by
  have:=a.rs.lv
  rw[List.getD_eq_getElem?_getD,List.getElem?_set];by_cases e:q=k
  ·subst e;rw[if_pos rfl,if_pos (show q<vs2.length by omega),if_pos rfl];rfl
  ·rw[if_neg e,if_neg (fun e'=>e e'.symm),←List.getD_eq_getElem?_getD]
 refine⟨hR,Bc hn hp' a.st hq' ha hw,fun h1 h2 => ?_,fun C hC => ?_,?_,jZ hc (jZ a.ch hC fun x hx => ?_) fun x hx => ?_,fun k hk hs x hx => ?_⟩
 ·have hr:Rch G (cV G.objs r):=h2 r (by simp) hl;exact zF (a.sd (rZ h1 hp' hr) fun r' hr' hl'=>h1.w _ r' hr' hr hl') hq' hr ha
 ·have h3:=a.bd (C-20) (xK hp' hn hC);have h4:=Jh hp' hn hC;intro k;have h5:=h3 k;have e:(s2.wait q (onw (G.objs.getD (cV G.objs r) obD))).left=s2.left:=rfl;rw[uE hq',e];split
  ·rename_i e;subst e;rw[List.length_append];omega
  ·omega
 ·have:=jI hp' hn
  have:=a.lf
  show s2.left≤_
  omega
 ·rcases cz.1 hx with e|e|⟨k,hk,hs,e⟩
  ·exact .inl (cz.2 (.inl e))
  ·exact .inl (cz.2 (.inr (.inl e)))
  ·rcases a.sh k hk hs x e with e|e
   ·exact .inl (cz.2 (.inr (.inr ⟨k,hk,nO a.st hs,e⟩)))
   ·exact .inr e
 ·rcases cz.1 hx with e|e|⟨k,hk,hs,e⟩
  ·exact .inl (cz.2 (.inl e))
  ·exact .inl (cz.2 (.inr (.inl e)))
  ·exact .inl (cz.2 (.inr (.inr ⟨k,hk,ci k hs,e⟩)))
 ·rw[gv]at hx;have hs2:s2.i k=false:=hs;split at hx
  ·rename_i e
   subst e;rcases hv x hx with e|e
   ·rcases a.sh k hk hs2 x e with e|e
    ·exact .inl e
    ·exact .inr (Nat.le_trans hc.size e)
   ·exact .inr (Nat.le_trans hc.size (Nat.le_trans a.ch.size e))
  ·rcases a.sh k hk hs2 x hx with e|e
   ·exact .inl e
   ·exact .inr (Nat.le_trans hc.size e)
theorem kM {W:World} {b:Nat} {e:Rf} (h:W.heap[b]? = some (rb e)):W.cell? ⟨b,0,none⟩=some (.int .i64 e.1)∧W.cell? ⟨b,1,none⟩=some (.int .i64 e.2)∧∀k,W.frozen? ⟨b,k,none⟩=false:=by
 refine⟨?_,?_,fun k => ?_⟩<;>simp[World.cell?, World.frozen?, h]
theorem vC {W:World} {b:Nat} {e:Rf} (h:W.heap[b]? = some (rb e)) (x y:Int):((W.setCell ⟨b,0,none⟩ (.int .i64 x)).setCell ⟨b,1,none⟩ (.int .i64 y)).heap[b]? = some (rb (x,y)):=by
 have h1:=aq h 0 (.int .i64 x);exact (aq h1 1 (.int .i64 y)).trans (by simp)
theorem sM {fn:Func} {tmps:Array Value} {X:World} {j b:Nat} {e:Rf} (hf:fn.results=#[.cell j 63]) (h2:tmps[j]? = some (.pointer (some ⟨b,0,none⟩))) (hX:X.heap[b]? = some (rb e)) :
    (results fn tmps).run Tryz.prog X = .ok (rv e) X:=by
 obtain⟨k0,k1,_⟩:=kM hX;clear hX;simp[results,hf,h2,go_sem,k0,k1]
theorem mK {w:World} {base:Nat} {v:Value} {es:List Rf} {vb:Nat} {e:Rf} (hown:fJ w base v es) (hvb:w.heap[vb]? = some (rb e)) (hl:es.length≤1000000) (hbase:base≤w.heap.size) (ty:TypeId) :
    ∃va vn vc w',(Builtin.append_ #[48,48] ty #[v,.slice (some ⟨vb,0,none⟩) 1 1]).run Tryz.prog w = .ok (.slice va vn vc) w'∧fJ w' base (.slice va vn vc) (es++[e])∧Ch (blk v) w w'∧∀k ∈ blk (.slice va vn vc),k ∈ blk v∨w.heap.size≤k:=by
 obtain⟨i0,hi,hz0,hz1,hz2⟩:=info_parts Aa;have F:I5 w vb [e]:=hvb;obtain⟨v',w',hr,h2,h3,_,h5⟩:=run_append_own_at (P:=Tryz.prog) w base 48 ty 63 i0 (.agg #[.int .i64 0,.int .i64 0]) 2 16 Tryz.underlying48 hi hz0 hz1 hz2 rfl (by decide) v es.length (cellsR es) hown ⟨vb,0,none⟩ 1 1 (cellsR [e]) rfl (jV (cB (vk (base:=0) F (Nat.zero_le _) (show 1≤maxLen by decide)))) (fQ _) (by unfold maxLen;omega) (by omega) hbase
 have O':fJ w' base v' (es++[e]):=by
  show World.ownsRow _ _ _ _ _ _ _
  rw[List.length_append,eC];exact h2
 obtain⟨va,vn,vc,rfl⟩:=cO (cB O');refine⟨va,vn,vc,w',hr,O',cJ h3,fun k hk => ?_⟩
 unfold blk at hk ⊢;rcases h5 with e|e
 ·rw[e]at hk;exact .inl hk
 ·rw[e]at hk;simp at hk;exact .inr (by omega)
theorem vD {ops:Array Oper} {rest:List Oper} {o:Oper} {a:Act} {w:World} {Q:Exit→Act→World→Prop} (hgd:o.guard=none) (s x:Operand)
    (ho:o.op = .call { callee:=.builtin .append,args:=#[s,x],argTypes:=#[48,48] })
    (base:Nat) (v:Value) (es:List Rf) (hs:a.eval s=v) (hown:fJ w base v es) (vb:Nat) (e:Rf) (hx:a.eval x = .slice (some ⟨vb,0,none⟩) 1 1) (hvb:w.heap[vb]? = some (rb e)) (hl:es.length≤1000000) (hbase:base≤w.heap.size)
    (h:∀va vn vc w',fJ w' base (.slice va vn vc) (es++[e])→Ch (blk v) w w'→(∀k ∈ blk (.slice va vn vc),k ∈ blk v∨w.heap.size≤k)→wpList Tryz.prog ops Q rest (a.put o.dst (.slice va vn vc)) w') :
    wpList Tryz.prog ops Q (o :: rest) a w:=by
 refine wpList_plain hgd fun K hK => ?_
 obtain⟨va,vn,vc,w',hr,h1,h2,h3⟩:=mK hown hvb hl hbase o.type;unfold Oper.wp;simp[execOp,ho,resolve,invoke,builtin,hs,hx,hr,Result.andThen];exact hK _ _ (h va vn vc w' h1 h2 h3)
theorem vE {ops:Array Oper} {rest:List Oper} {o:Oper} {a:Act} {w:World} {Q:Exit→Act→World→Prop} (hgd:o.guard=none) (s x:Operand)
    (ho:o.op = .call { callee:=.builtin .append,args:=#[s,x],argTypes:=#[47,47] })
    (base:Nat) (v:Value) (ms:List MO) (hs:a.eval s=v) (hown:lp w base v ms) (vb:Nat) (m1:MO) (hm1:∃a n c,m1.sv = .slice a n c) (hx:a.eval x = .slice (some ⟨vb,0,none⟩) 1 1) (hvb:w.heap[vb]? = some (ob m1)) (hl:ms.length≤1000000) (hbase:base≤w.heap.size)
    (h:∀va vn vc w',w'.ownsRow base 60 5 (.slice va vn vc) (ms.length+1) (cellsO ms++cellsO [m1])→w.grownBy w' v.ownBlock→((Value.slice va vn vc).ownBlock=v.ownBlock∨(Value.slice va vn vc).ownBlock=some w.heap.size)→wpList Tryz.prog ops Q rest (a.put o.dst (.slice va vn vc)) w') :
    wpList Tryz.prog ops Q (o :: rest) a w:=by
 refine wpList_plain hgd fun K hK => ?_
 obtain⟨i0,hi,hz0,hz1,hz2⟩:=info_parts Hj
 have hn:∀j u,(cellsO [m1])[j]? = some u→w.cell? ((⟨vb,0,none⟩:Addr).add j)=some u:=by
  intro j u hj
  have hl:j<5:=by
   have:=(List.getElem?_eq_some_iff.1 hj).1
   rw[jm]at this;simpa using this
  have e2:(⟨vb,0,none⟩:Addr).add j=⟨vb,j,none⟩:=by cases j<;>simp[Addr.add]
  rw[e2];rcases (show j=0∨j=1∨j=2∨j=3∨j=4 by omega) with e|e|e|e|e<;>subst e<;>(simp[cellsO]at hj;subst hj;simp[World.cell?, hvb])
 obtain⟨v',w',hr,h2,h3,h4,h5⟩:=run_append_own_at (P:=Tryz.prog) w base 47 o.type 60 i0 (.agg #[.int .i64 0,.int .i64 0,.int .i64 0,.int .i64 0,.slice none 0 0]) 5 56 Tryz.underlying47 hi hz0 hz1 hz2 rfl (by decide) v ms.length (cellsO ms) hown ⟨vb,0,none⟩ 1 1 (cellsO [m1]) rfl hn (nJ (ms:=[m1]) (fun m hm=>by have e:m=m1:=(by simpa using hm);rw[e];exact hm1)) (by unfold maxLen;omega) (by omega) hbase
 obtain⟨va,vn,vc,rfl⟩:∃va vn vc,v' = .slice va vn vc:=by
  obtain⟨_,⟨e,_⟩|⟨g,c,cur,e,_⟩⟩:=h2
  ·exact⟨_,_,_,e⟩
  ·exact⟨_,_,_,e⟩
 unfold Oper.wp;simp[execOp,ho,resolve,invoke,builtin,hs,hx,hr,Result.andThen];exact hK _ _ (h va vn vc w' h2 h3 h5)
theorem CI {W w10:World} {base P:Nat} {o r m v':Value} {ms:List MO} {G:Gr} {e:Rf} (T:fh W P 50 o r m (.int .i64 G.next) (.int .i64 G.seed)) (O:ja W base o r m ms G) (N:P ∉ cj o r m ms) (hb:base≤P)
    (hrow:fJ w10 base v' (G.roots++[e])) (hg:Ch (blk r) W w10) (hat:∀k ∈ blk v',k ∈ blk r∨W.heap.size≤k) :
    w10.cell? ⟨P,1,none⟩=some r∧w10.frozen? ⟨P,1,none⟩=false∧kZ (w10.setCell ⟨P,1,none⟩ v') base P { G with roots:=G.roots++[e] }∧Below base W (w10.setCell ⟨P,1,none⟩ v'):=by
 have hlt:=dz O;obtain⟨a1,a2,a3⟩:=nk O.2.2.2.2;have inO:∀k ∈ blk o++gD ms,k ∈ cj o r m ms:=fun k hk=>by simp only[cj,List.mem_append]at hk ⊢; exact .inl (.inl hk)
 have inR:∀k ∈ blk r,k ∈ cj o r m ms:=fun k hk=>by simp only[cj,List.mem_append];exact .inl (.inr hk)
 have inM:∀k ∈ blk m,k ∈ cj o r m ms:=fun k hk=>by simp only[cj,List.mem_append];exact .inr hk
 have nB:P ∉ blk r:=fun e=>N (inR P e)
 have T10:=eV T hg nB;have lP:=lt_of_block T
 have nP:P ∉ cj o v' m ms:=fun hc=>by
  simp only[cj,List.mem_append]at hc;rcases hc with (hc|hc)|hc
  ·exact N (inO P (by simpa [List.mem_append] using hc))
  ·rcases hat P hc with e|e
   ·exact nB e
   ·omega
  ·exact N (inM P hc)
 have nd:(cj o v' m ms).Nodup:=by
  unfold cj;refine List.nodup_append.2 ⟨List.nodup_append.2 ⟨O.2.1.2.2,fl _,fun x hx y hy exy => ?_⟩,fl _,fun x hx y hy exy => ?_⟩
  ·rcases hat y hy with e|e
   ·exact a1 x hx (exy▸e)
   ·have:=(hlt x (inO x hx)).2;omega
  ·rcases List.mem_append.1 hx with hx|hx
   ·exact a2 x hx (exy▸hy)
   ·rcases hat x hx with e|e
    ·exact a3 x e (exy▸hy)
    ·have:=(hlt y (inM y hy)).2;omega
 have OG:ja w10 base o v' m ms { G with roots:=G.roots++[e] }:=⟨O.1,qA O.2.1 hg (fun k hk hc=>a1 k hk hc),hrow,aE O.2.2.2.1 hg (fun k hk hc=>a3 k hc hk),nd⟩;obtain⟨_,u1,_,_,_,uf⟩:=ak T10;refine⟨u1,uf 1,⟨o,v',m,ms,pS T10 v',fN OG (aH w10 P 1 v') (fun k hk e=>nP ((List.mem_singleton.1 e)▸hk)),nP,hb⟩,?_⟩
 exact (bn hg (by omega) (fun k hk=>(hlt k (inR k hk)).1)).setCell (p:=⟨P,1,none⟩) hb _
theorem CJ {W w10:World} {base P:Nat} {o r m v':Value} {ms:List MO} {G:Gr} {e:Rf} (T:fh W P 50 o r m (.int .i64 G.next) (.int .i64 G.seed)) (O:ja W base o r m ms G) (N:P ∉ cj o r m ms) (hb:base≤P)
    (hrow:fJ w10 base v' (G.a7++[e])) (hg:Ch (blk m) W w10) (hat:∀k ∈ blk v',k ∈ blk m∨W.heap.size≤k) :
    w10.cell? ⟨P,2,none⟩=some m∧w10.frozen? ⟨P,2,none⟩=false∧kZ (w10.setCell ⟨P,2,none⟩ v') base P { G with a7:=G.a7++[e] }∧Below base W (w10.setCell ⟨P,2,none⟩ v'):=by
 have hlt:=dz O;obtain⟨a1,a2,a3⟩:=nk O.2.2.2.2;have inO:∀k ∈ blk o++gD ms,k ∈ cj o r m ms:=fun k hk=>by simp only[cj,List.mem_append]at hk ⊢; exact .inl (.inl hk)
 have inR:∀k ∈ blk r,k ∈ cj o r m ms:=fun k hk=>by simp only[cj,List.mem_append];exact .inl (.inr hk)
 have inM:∀k ∈ blk m,k ∈ cj o r m ms:=fun k hk=>by simp only[cj,List.mem_append];exact .inr hk
 have nB:P ∉ blk m:=fun e=>N (inM P e)
 have T10:=eV T hg nB;have lP:=lt_of_block T
 have nP:P ∉ cj o r v' ms:=fun hc=>by
  simp only[cj,List.mem_append]at hc;rcases hc with (hc|hc)|hc
  ·exact N (inO P (by simpa [List.mem_append] using hc))
  ·exact N (inR P hc)
  ·rcases hat P hc with e|e
   ·exact nB e
   ·omega
 have nd:(cj o r v' ms).Nodup:=by
  have hOR:(blk o++gD ms++blk r).Nodup:=by
   have:=O.2.2.2.2
   unfold cj at this;exact (List.nodup_append.1 this).1
  unfold cj;refine List.nodup_append.2 ⟨hOR,fl _,fun x hx y hy exy => ?_⟩;rcases hat y hy with e|e
  ·rcases List.mem_append.1 hx with hx|hx
   ·exact a2 x hx (exy▸e)
   ·exact a3 x hx (exy▸e)
  ·rcases List.mem_append.1 hx with hx|hx
   ·have:=(hlt x (inO x hx)).2;omega
   ·have:=(hlt x (inR x hx)).2;omega
 have OG:ja w10 base o r v' ms { G with a7:=G.a7++[e] }:=⟨O.1,qA O.2.1 hg (fun k hk hc=>a2 k hk hc),aE O.2.2.1 hg (fun k hk hc=>a3 k hk hc),hrow,nd⟩;obtain⟨_,_,u2,_,_,uf⟩:=ak T10;refine⟨u2,uf 2,⟨o,r,v',ms,lS T10 v',fN OG (aH w10 P 2 v') (fun k hk e=>nP ((List.mem_singleton.1 e)▸hk)),nP,hb⟩,?_⟩
 exact (bn hg (by omega) (fun k hk=>(hlt k (inM k hk)).1)).setCell (p:=⟨P,2,none⟩) hb _
theorem CM {W w10:World} {base P:Nat} {o v' r m:Value} {ms:List MO} {G:Gr} {m1:MO} (T:fh W P 50 o r m (.int .i64 G.next) (.int .i64 G.seed)) (O:ja W base o r m ms G) (N:P ∉ cj o r m ms) (hb:base≤P) (R1:fJ W base m1.sv m1.slots) (hd:∀k ∈ blk m1.sv,k ∉ cj o r m ms) (hP:P ∉ blk m1.sv)
    (hrow:w10.ownsRow base 60 5 v' (ms.length+1) (cellsO ms++cellsO [m1])) (hg:W.grownBy w10 o.ownBlock) (hat:v'.ownBlock=o.ownBlock∨v'.ownBlock=some W.heap.size) :
    w10.cell? ⟨P,0,none⟩=some o∧w10.frozen? ⟨P,0,none⟩=false∧kZ (w10.setCell ⟨P,0,none⟩ v') base P { G with objs:=G.objs++[m1.abs] }∧Below base W (w10.setCell ⟨P,0,none⟩ v'):=by
 obtain⟨AP,CH,AM⟩:=yF O R1 hd hrow hg hat;have nB:P ∉ blk o:=fun e=>N (by simp only[cj,List.mem_append];exact .inl (.inl (.inl e)))
 have T10:=eV T CH nB;have lP:=lt_of_block T
 have nP:P ∉ cj v' r m (ms++[m1]):=fun e=>by
  rcases AM P e with e|e|e
  ·exact N e
  ·exact hP e
  ·omega
 obtain⟨u0,_,_,_,_,uf⟩:=ak T10;refine⟨u0,uf 0,⟨v',r,m,ms++[m1],pR T10 v',fN AP (aH w10 P 0 v') (fun k hk e=>nP ((List.mem_singleton.1 e)▸hk)),nP,hb⟩,?_⟩
 exact (bn CH (by omega) (fun k hk=>(dz O k (by simp only[cj,List.mem_append];exact .inl (.inl (.inl hk)))).1)).setCell (p:=⟨P,0,none⟩) hb _
set_option maxHeartbeats 4000000 in
theorem fC {w:World} {v:Value} {xs:List Int} (h:au w v xs) (hl:xs.length≤1048576) (n:Int) :
    Calls Tryz.prog 61 #[v,.int .i64 n] w fun e w'=>e = .returned (.bool (decide (n ∈ xs)))∧w'=w:=by
 obtain⟨a,cap,rfl,hlc,hcm,_,hc⟩:=h;have HC:Hid _:=hc;obtain⟨RV,hRV⟩:∃RV,decide (n ∈ xs)=RV:=⟨_,rfl⟩
 rw[hRV];have HRV:Hid _:=hRV;clear hc hRV;go_enter Tryz.func61,Tryz.ntmps61;go_wp2_with fail;go_loopw [5] (fun p wr=>∃k:Nat,k≤xs.length∧p = .int .i64 k∧(∀j,j<k→¬xs.getD j 0=n)∧wr=w) (fun p _=>xs.length-(intOf p).toNat);case atStart=>exact⟨0,Nat.zero_le _,rfl,fun j hj=>by omega,rfl⟩
 case round=>
  obtain⟨k,hk,rfl,hne,hw⟩:=hrel;subst hw;by_cases hlt:k<xs.length
  ·obtain⟨b,off,rfl,hb,hcc⟩:=HC.out (by omega);have c0:=hcc k hlt
   have hget:xs.getD k 0 ∈ xs:=by
    rw[List.getD_eq_getElem?_getD,List.getElem?_eq_getElem hlt];exact List.getElem_mem hlt
   by_cases hy:xs.getD k 0=n
   ·have HV:Hid (RV=true):=by show _=_;rw[←HRV.out,decide_eq_true_eq,←hy];exact hget
    have hy':(xs.getD k 0==n)=true:=by simpa using hy
    clear hcc HC hne hget hy;generalize xs.getD k 0=y at *;go_wp2;go_ret;exact⟨by rw[HV.out];rfl,rfl⟩
   ·have HV:Hid (∀j,j<k+1→¬xs.getD j 0=n):=fun j hj=>by
      by_cases e:j=k
      ·rw[e];exact hy
      ·exact hne j (by omega)
    have hy':(xs.getD k 0==n)=false:=by simpa using hy
    clear hcc HC hne hget hy;generalize xs.getD k 0=y at *;go_wp2;exact⟨⟨k+1,by omega,by go_num,HV,by trivial⟩,by simp[intOf];omega⟩
  ·have HV:Hid (RV=false):=by
     show _=_
     rw[←HRV.out,decide_eq_false_iff_not];intro hm;obtain⟨i,hi,e⟩:=List.getElem_of_mem hm;refine hne i (by omega) ?_;rw[List.getD_eq_getElem?_getD,List.getElem?_eq_getElem hi];exact e
   clear HC hne HRV;go_wp2;go_ret;exact⟨by rw[HV.out];rfl,rfl⟩
theorem ib {w:World} {a:Option Addr} {n cap k:Nat} {xs:List Int} (h:au w (.slice a n cap) xs) (hk:k≤n):au w (.slice a k cap) (xs.take k):=by
 obtain⟨a0,cap0,e,h1,h2,h3,h4⟩:=h;injection e with e1 e2 e3
 subst e1 e2 e3;refine⟨a,cap,by rw[List.length_take,Nat.min_eq_left hk],?_,h2,h3,fun hp => ?_⟩
 ·rw[List.length_take];omega
 ·rw[List.length_take]at hp;obtain⟨b,off,e,hb,hc⟩:=h4 (by omega);refine⟨b,off,e,hb,fun i hi => ?_⟩
  rw[List.length_take]at hi;rw[hc i (by omega),List.getD_eq_getElem?_getD,List.getD_eq_getElem?_getD,List.getElem?_take_of_lt (by omega)]
theorem cQ {w:World} {b off n cap k:Nat} {xs:List Int} (h:au w (.slice (some ⟨b,off,none⟩) n cap) xs) (hk:k≤n) {a:Option Addr} (ha:k<n→a=some ⟨b,off+k,none⟩) (hz:a=none→cap-k=0):au w (.slice a (n-k) (cap-k)) (xs.drop k):=by
 obtain⟨a0,cap0,e,h1,h2,h3,h4⟩:=h;injection e with e1 e2 e3
 subst e1 e2 e3;refine⟨a,cap-k,by rw[List.length_drop],?_,Nat.le_trans (Nat.sub_le _ _) h2,hz,fun hp => ?_⟩
 ·rw[List.length_drop];omega
 ·rw[List.length_drop]at hp;obtain⟨b',off',e,hb,hc⟩:=h4 (by omega);injection e with e
  injection e with e1 e2
  subst e1 e2;refine⟨b,off+k,ha (by omega),hb,fun i hi => ?_⟩
  rw[List.length_drop]at hi;rw[Nat.add_assoc,hc (k+i) (by omega),List.getD_eq_getElem?_getD,List.getD_eq_getElem?_getD,List.getElem?_drop]
theorem aL {w:World} {ops:Array Oper} {rest:List Oper} {o:Oper} {act:Act} {Q:Exit→Act→World→Prop} {a:Option Addr} {n cap:Nat} {xs:List Int}
    (h:au w (.slice a n cap) xs) (hl:n≤1048576) (hgd:o.guard=none) (s x:Operand) (ho:o.op = .call { callee:=.builtin .append,args:=#[s,x],argTypes:=#[22,22] })
    (hs:act.eval s = .slice (some ⟨w.heap.size,0,none⟩) 0 0) (hx:act.eval x = .slice a n cap)
    (hK:∀g cap' w1,w.heap.size≤g→w1.ownsRow w.heap.size 2 1 (.slice (some ⟨g,0,none⟩) n cap') n (cellsOf xs)→Below w.heap.size w w1→wpList Tryz.prog ops Q rest (act.put o.dst (.slice (some ⟨g,0,none⟩) n cap')) w1) :
    wpList Tryz.prog ops Q (o :: rest) act (w.alloc (.cells #[] 2)):=by
 have e:xs.length=n:=by
  obtain⟨a',c',e,_⟩:=h;injection e with _ e _
  exact e.symm
 subst e;exact eA h hl hgd s x ho hs hx hK
end Go.Proofs.YtocidankimefpaaGreatDoor.gr
namespace Go.Proofs.YtocidankimefpaaGreatDoor.gr
open Go.RowKit rows heads region
theorem Ji (b k:Nat) (w:World) {x:Int} (h:w.cell? ⟨b,k,none⟩=some (.int .i64 x)):(Instr.loadAt 2 (.pointer (some ⟨b,k,none⟩))).run Tryz.prog w = .ok (.int .i64 x) w:=by
 go_simp
theorem Ic (w:World):(Instr.buildSlice 22 0 #[]).run Tryz.prog w = .ok (.slice (some ⟨w.heap.size,0,none⟩) 0 0) (w.alloc (.cells #[] 2)):=by
 go_simp
theorem Ie (x:Int) (w:World):(Instr.buildSlice 22 1 #[(0,.int .i64 x)]).run Tryz.prog w = .ok (.slice (some ⟨w.heap.size,0,none⟩) 1 1) (w.alloc (.cells #[.int .i64 x] 2)):=by
 go_simp
def FP (n0 kk m:Nat) (x:Int) (T D:List Int) (lv pv rv fp:Value) (l:Array Bool) (k:Nat) (t:Value) (W:World):Prop:=
 match k with
 |0=>∃g,t = .slice (some ⟨g,0,none⟩) 0 0∧n0≤g∧(l.getD 4 false=true∨W.heap[g]? = some (.cells #[] 2 (0,0)))
 |1=>t=lv
 |2=>t = .int .i64 (kk:Int)
 |3=>t=pv
 |4=>l.getD 8 false=true∨W.ownsRow n0 2 1 t kk (cellsOf T)
 |5=>t=fp
 |6=>t = .int .i64 x
 |7=>∃b,t = .slice (some ⟨b,0,none⟩) 1 1∧(l.getD 8 false=true∨W.heap[b]? = some (.cells #[.int .i64 x] 2 (0,0)))
 |8=>l.getD 10 false=true∨W.ownsRow n0 2 1 t (kk+1) (cellsOf T++[.int .i64 x])
 |9=>t=rv
 |10=>W.ownsRow n0 2 1 t (kk+1+m) ((cellsOf T++[.int .i64 x])++cellsOf D)
 |_=>False
theorem dQ {l:Array Bool} {k j:Nat} (h:l.getD j false=true):(l.setIfInBounds k true).getD j false=true:=by
 by_cases e:k=j
 ·subst e
  have hk:k<l.size:=by
   rcases Nat.lt_or_ge k l.size with q|q
   ·exact q
   ·simp[Array.getD,Nat.not_lt.2 q]at h
  exact aN hk
 ·rw[a8 l e];exact h
theorem Jj {n0 kk m:Nat} {x:Int} {T D:List Int} {lv pv rv fp:Value} {l:Array Bool} (k:Nat) {j:Nat} {t:Value} {W W':World} (hb:Below W.heap.size W W') (h:FP n0 kk m x T D lv pv rv fp l j t W):FP n0 kk m x T D lv pv rv fp (l.setIfInBounds k true) j t W':=by
 match j,h with
 |0,⟨g,h1,h2,h3⟩=>exact⟨g,h1,h2,h3.imp dQ (fun e=>(hb.block g (lt_of_block e)).trans e)⟩
 |1,h=>exact h
 |2,h=>exact h
 |3,h=>exact h
 |4,h=>exact h.imp dQ (fun e=>bW e hb)
 |5,h=>exact h
 |6,h=>exact h
 |7,⟨b,h1,h3⟩=>exact⟨b,h1,h3.imp dQ (fun e=>(hb.block b (lt_of_block e)).trans e)⟩
 |8,h=>exact h.imp dQ (fun e=>bW e hb)
 |9,h=>exact h
 |10,h=>exact bW h hb
 |_+11,h=>exact h.elim
set_option maxHeartbeats 8000000 in
theorem yX {id:Nat} {ops:Array Oper} {a0:Act} {Q:Exit→Act→World→Prop} {w:World} {s0 ls rs P7 fd kk m:Nat} {x:Int} {T D:List Int} {lv pv rv:Value} {a:Option Addr} {cap gr cr:Nat} (hg:∀o ∈ ops,o.guard=none) (hacyc:∀(k:Nat) (o:Oper),ops[k]? = some o→∀e ∈ o.after,e.on<k) (hn:ops.size=12)
    (h0:Has ops 0 (some s0) (.buildSlice 22 0 #[]) [])
    (h1:Has ops 1 (some (s0+1)) (.move (.tmp ls)) [])
    (h2:Has ops 2 (some (s0+2)) (.move (.tmp 8)) [])
    (h3:Has ops 3 (some (s0+3)) (.slice 22 (.tmp (s0+1)) none (some (.tmp (s0+2))) none) [1,2])
    (h4:Has ops 4 (some (s0+4)) (.call { callee:=.builtin .append,args:=#[.tmp s0,.tmp (s0+3)],argTypes:=#[22,22] }) [0,3])
    (h5:Has ops 5 (some (s0+5)) (.fieldAddr 60 (.tmp 7) fd) [])
    (h6:Has ops 6 (some (s0+6)) (.load 2 (.tmp (s0+5))) [5])
    (h7:Has ops 7 (some (s0+7)) (.buildSlice 22 1 #[(0,.tmp (s0+6))]) [6])
    (h8:Has ops 8 (some (s0+8)) (.call { callee:=.builtin .append,args:=#[.tmp (s0+4),.tmp (s0+7)],argTypes:=#[22,22] }) [4,7])
    (h9:Has ops 9 (some (s0+9)) (.move (.tmp rs)) [])
    (h10:Has ops 10 (some (s0+10)) (.call { callee:=.builtin .append,args:=#[.tmp (s0+8),.tmp (s0+9)],argTypes:=#[22,22] }) [8,9])
    (h11:Has ops 11 (some ls) (.assign (.tmp (s0+10))) [0,1,2,3,4,5,6,7,8,9,10])
    (hls:ls<s0) (hls8:ls≠8) (hls7:ls≠7) (hrs:rs<s0) (hlr:ls≠rs) (h8s:8<s0) (sz:s0+10<a0.tmps.size)
    (el:a0.tmps.getD ls undef=lv) (e8:a0.tmps.getD 8 undef = .int .i64 (kk:Int)) (er:a0.tmps.getD rs undef=rv) (e7:a0.tmps.getD 7 undef = .pointer (some ⟨P7,0,none⟩))
    (hcut:∀W,(Instr.sliceAt 22 lv none (some (.int .i64 (kk:Int))) none).run Tryz.prog W = .ok pv W)
    (hfa:∀W,(Instr.fieldAt 60 (.pointer (some ⟨P7,0,none⟩)) fd).run Tryz.prog W = .ok (.pointer (some ⟨P7,fd,none⟩)) W)
    (l7:P7<w.heap.size) (n7:w.cell? ⟨P7,fd,none⟩=some (.int .i64 x))
    (hpv:pv = .slice a kk cap) (hT:au w (.slice a kk cap) T) (hrv:rv = .slice (some ⟨gr,0,none⟩) m cr) (hD:au w (.slice (some ⟨gr,0,none⟩) m cr) D) (hkk:kk≤1000) (hm:m≤1000)
    (fin:∀u w' v,u ls=v→w'.ownsRow w.heap.size 2 1 v (kk+1+m) ((cellsOf T++[.int .i64 x])++cellsOf D)→Below w.heap.size w w'→Q .normal (ovr (fun s=>s==ls || (decide (s0≤s)&&decide (s≤s0+10))) a0 u) w') :
    (Code.region id ops true).wp Tryz.prog Q a0 w:=by
 obtain⟨i0,hi0,hz0,hz1,hz2⟩:=info_parts info;have hin:∀j,j≤10→(fun s=>s==ls || (decide (s0≤s)&&decide (s≤s0+10))) (s0+j)=true:=fun j hj=>by simp;omega
 refine gY (by kernel_rfl) (fun s=>s==ls || (decide (s0≤s)&&decide (s≤s0+10))) hg hacyc (fun l u W=>(l.getD 11 false=false∧Below w.heap.size w W∧(l.getD 10 false=true→l.getD 8 false=true)∧(l.getD 8 false=true→l.getD 4 false=true)∧u ls=lv∧∀k,k<11→l.getD k false=true→FP w.heap.size kk m x T D lv pv rv (.pointer (some ⟨P7,fd,none⟩)) l k (u (s0+k)) W)∨((∀k,k<12→l.getD k false=true)∧Q .normal (ovr (fun s=>s==ls || (decide (s0≤s)&&decide (s≤s0+10))) a0 u) W)) (.inl ⟨?_,(Below.refl _ w).drew,fun h => ?_,fun h => ?_,el,fun k hk h => ?_⟩) ?_ ?_
 ·simp[Array.getD,hn]
 ·simp[Array.getD,hn]at h
 ·simp[Array.getD,hn]at h
 ·simp[Array.getD,hn,show k<12 by omega]at h
 ·rintro l u W (⟨h1,_⟩|⟨_,h⟩) hA
  ·rw[hA 11 (by omega)]at h1;cases h1
  ·exact h
 ·rintro l u W k o (⟨l11,hB,l108,l84,hul,hF⟩|⟨hA,_⟩) hl hlk ho hd
  case inr=>
   have hk:k<12:=by rw[←hn];exact (Array.getElem?_eq_some_iff.1 ho).1
   rw[hA k hk]at hlk;cases hlk
  have hk:k<12:=by rw[←hn];exact (Array.getElem?_eq_some_iff.1 ho).1
  have ev:∀j,j≤10→(ovr (fun s=>s==ls || (decide (s0≤s)&&decide (s≤s0+10))) a0 u).eval (.tmp (s0+j))=u (s0+j):=fun j hj=>aS (hin j hj) (Nat.lt_of_le_of_lt (Nat.add_le_add_left hj s0) sz)
  have evo:∀s,s<s0→s≠ls→(ovr (fun s=>s==ls || (decide (s0≤s)&&decide (s≤s0+10))) a0 u).eval (.tmp s)=a0.tmps.getD s undef:=fun s h1 h2=>ah (by simp[h2];omega) (by omega)
  have mono:∀ {W':World} {v:Value},k<11→Below W.heap.size W W'→(k=10→l.getD 8 false=true)→(k=8→l.getD 4 false=true)→FP w.heap.size kk m x T D lv pv rv (.pointer (some ⟨P7,fd,none⟩)) (l.setIfInBounds k true) k v W'→(((l.setIfInBounds k true).getD 11 false=false∧Below w.heap.size w W'∧((l.setIfInBounds k true).getD 10 false=true→(l.setIfInBounds k true).getD 8 false=true)∧((l.setIfInBounds k true).getD 8 false=true→(l.setIfInBounds k true).getD 4 false=true)∧upd u (s0+k) v ls=lv∧∀j,j<11→(l.setIfInBounds k true).getD j false=true→FP w.heap.size kk m x T D lv pv rv (.pointer (some ⟨P7,fd,none⟩)) (l.setIfInBounds k true) j (upd u (s0+k) v (s0+j)) W')∨((∀j,j<12→(l.setIfInBounds k true).getD j false=true)∧Q .normal (ovr (fun s=>s==ls || (decide (s0≤s)&&decide (s≤s0+10))) a0 (upd u (s0+k) v)) W')):=fun {W' v} h11 hb h10 h8' hv=>by
   refine .inl ⟨by rw[a8 l (by omega)];exact l11,hB.trans (hb.mono hB.size),fun h => ?_,fun h => ?_,by simp[upd,show ¬ls=s0+k by omega,hul],fun j hj hlj => ?_⟩
   ·by_cases e:k=10
    ·exact dQ (h10 e)
    ·rw[a8 l e]at h;exact dQ (l108 h)
   ·by_cases e:k=8
    ·exact dQ (h8' e)
    ·rw[a8 l e]at h;exact dQ (l84 h)
   ·by_cases e:j=k
    ·subst e;simp only[upd,if_true];exact hv
    ·have:¬s0+j=s0+k:=by omega
     simp only[upd,this,if_false];rw[a8 l (Ne.symm e)]at hlj;exact Jj k hb (hF j hj hlj)
  rcases (show k=0∨k=1∨k=2∨k=3∨k=4∨k=5∨k=6∨k=7∨k=8∨k=9∨k=10∨k=11 by omega) with rfl|rfl|rfl|rfl|rfl|rfl|rfl|rfl|rfl|rfl|rfl|rfl
  ·obtain⟨hdst,op,dep⟩:=jB h0 ho hd;refine aA (by simp[execOp,op,Ic,Result.andThen]) ⟨_,aF hdst (hin 0 (by decide)) u _,mono (by decide) ((Below.refl _ W).alloc (Nat.le_refl _) _) (fun e=>absurd e (by decide)) (fun e=>absurd e (by decide)) ⟨W.heap.size,rfl,hB.size,.inr (heap_alloc_new W _)⟩⟩
  ·obtain⟨hdst,op,dep⟩:=jB h1 ho hd;have y:(ovr (fun s=>s==ls || (decide (s0≤s)&&decide (s≤s0+10))) a0 u).eval (.tmp ls)=lv:=(aS (by simp) (by omega)).trans hul;exact aA (w':=W) (by simp[execOp,op,y,Result.andThen]) ⟨_,aF hdst (hin 1 (by decide)) u _,mono (by decide) (Below.refl _ _) (fun e=>absurd e (by decide)) (fun e=>absurd e (by decide)) rfl⟩
  ·obtain⟨hdst,op,dep⟩:=jB h2 ho hd;have y:=(evo 8 (by omega) (by omega)).trans e8;exact aA (w':=W) (by simp[execOp,op,y,Result.andThen]) ⟨_,aF hdst (hin 2 (by decide)) u _,mono (by decide) (Below.refl _ _) (fun e=>absurd e (by decide)) (fun e=>absurd e (by decide)) rfl⟩
  ·obtain⟨hdst,op,dep⟩:=jB h3 ho hd;have y1:=(ev 1 (by decide)).trans (hF 1 (by decide) (dep 1 (by simp)));have y2:=(ev 2 (by decide)).trans (hF 2 (by decide) (dep 2 (by simp)));exact aA (w':=W) (by simp[execOp,op,y1,y2,hcut,Result.andThen]) ⟨_,aF hdst (hin 3 (by decide)) u _,mono (by decide) (Below.refl _ _) (fun e=>absurd e (by decide)) (fun e=>absurd e (by decide)) rfl⟩
  ·obtain⟨hdst,op,dep⟩:=jB h4 ho hd;obtain⟨g,y0,hgn,hlit⟩:=hF 0 (by decide) (dep 0 (by simp));have y1:(ovr (fun s=>s==ls || (decide (s0≤s)&&decide (s≤s0+10))) a0 u).eval (.tmp s0) = .slice (some ⟨g,0,none⟩) 0 0:=(ev 0 (by decide)).trans y0;have y2:=(ev 3 (by decide)).trans ((hF 3 (by decide) (dep 3 (by simp))).trans hpv)
   have hlit':W.heap[g]? = some (.cells #[] 2 (0,0)):=by
    rcases hlit with e|e
    ·rw[hlk]at e;cases e
    ·exact e
   obtain⟨q,c,w',hr,hq,hO,hb⟩:=Cq (aa hT hB) (by omega) hlit' o.type
   have hqn:w.heap.size≤q:=by
    rcases hq with e|e
    ·omega
    ·exact Nat.le_trans hB.size e
   exact aA (w':=w') (by simp[execOp,op,resolve,invoke,builtin,y1,y2,hr,Result.andThen]) ⟨_,aF hdst (hin 4 (by decide)) u _,mono (by decide) hb (fun e=>absurd e (by decide)) (fun e=>absurd e (by decide)) (.inr (hO _ hqn))⟩
  ·obtain⟨hdst,op,dep⟩:=jB h5 ho hd;have y:=(evo 7 (by omega) (by omega)).trans e7;exact aA (w':=W) (by simp[execOp,op,y,hfa,Result.andThen]) ⟨_,aF hdst (hin 5 (by decide)) u _,mono (by decide) (Below.refl _ _) (fun e=>absurd e (by decide)) (fun e=>absurd e (by decide)) rfl⟩
  ·obtain⟨hdst,op,dep⟩:=jB h6 ho hd;have y:=(ev 5 (by decide)).trans (hF 5 (by decide) (dep 5 (by simp)));have n7':=(hB.cell (p:=⟨P7,fd,none⟩) l7).trans n7;exact aA (w':=W) (by simp[execOp,op,y,Ji P7 fd W n7',Result.andThen]) ⟨_,aF hdst (hin 6 (by decide)) u _,mono (by decide) (Below.refl _ _) (fun e=>absurd e (by decide)) (fun e=>absurd e (by decide)) rfl⟩
  ·obtain⟨hdst,op,dep⟩:=jB h7 ho hd;have y:=(ev 6 (by decide)).trans (hF 6 (by decide) (dep 6 (by simp)));exact aA (by simp[execOp,op,y,Ie,Result.andThen]) ⟨_,aF hdst (hin 7 (by decide)) u _,mono (by decide) ((Below.refl _ W).alloc (Nat.le_refl _) _) (fun e=>absurd e (by decide)) (fun e=>absurd e (by decide)) ⟨W.heap.size,rfl,.inr (heap_alloc_new W _)⟩⟩
  ·obtain⟨hdst,op,dep⟩:=jB h8 ho hd;have l4:=dep 4 (by simp);have l7':=dep 7 (by simp)
   have l10:l.getD 10 false=false:=by
    cases e:l.getD 10 false
    ·rfl
    ·rw[l108 e]at hlk;cases hlk
   have r4:W.ownsRow w.heap.size 2 1 (u (s0+4)) kk (cellsOf T):=by
    rcases hF 4 (by decide) l4 with e|e
    ·rw[hlk]at e;cases e
    ·exact e
   obtain⟨b,y0,hlit⟩:=hF 7 (by decide) l7'
   have hlit':W.heap[b]? = some (.cells #[.int .i64 x] 2 (0,0)):=by
    rcases hlit with e|e
    ·rw[hlk]at e;cases e
    ·exact e
   have y1:=ev 4 (by decide);have y2:=(ev 7 (by decide)).trans y0
   obtain⟨v',w',hr,q2,q3,_,q5⟩:=run_append_own_at (P:=Tryz.prog) W w.heap.size 22 o.type 2 i0 (.int .i64 0) 1 8 Tryz.underlying22 hi0 hz0 hz1 hz2 rfl (by decide) (u (s0+4)) kk (cellsOf T) r4 ⟨b,0,none⟩ 1 1 [.int .i64 x] rfl (fun j u' hj=>by
    match j with
    |0=>
     simp at hj;subst hj;simp[Addr.add,World.cell?, hlit']
    |j+1=>simp at hj) (by simp[Value.oneCell']) (by unfold maxLen;omega) (by omega) hB.size
   have hbB:Below w.heap.size w w':=hB.trans (bn (cJ q3) hB.size (fun k hk=>(aM r4 k hk).1));refine aA (w':=w') (v:=v') (by simp[execOp,op,resolve,invoke,builtin,y1,y2,hr,Result.andThen]) ⟨_,aF hdst (hin 8 (by decide)) u _,.inl ⟨by rw[a8 l (by omega)];exact l11,hbB,fun h=>(by rw[a8 l (by omega),l10]at h;cases h),fun _=>dQ l4,by simp[upd,show ¬ls=s0+8 by omega,hul],fun j hj hlj => ?_⟩⟩;by_cases e:j=8
   ·subst e;simp only[upd,if_true];exact .inr q2
   ·have hne:¬s0+j=s0+8:=by omega
    simp only[upd,hne,if_false];rw[a8 l (Ne.symm e)]at hlj;have s8:(l.setIfInBounds 8 true).getD 8 false=true:=aN (by omega);have hFj:=hF j hj hlj;rcases (show j=0∨j=1∨j=2∨j=3∨j=4∨j=5∨j=6∨j=7∨j=9∨j=10 by omega) with rfl|rfl|rfl|rfl|rfl|rfl|rfl|rfl|rfl|rfl
    ·obtain⟨g,f1,f2,f3⟩:=hFj;exact⟨g,f1,f2,.inl (dQ l4)⟩
    ·exact hFj
    ·exact hFj
    ·exact hFj
    ·exact .inl s8
    ·exact hFj
    ·exact hFj
    ·obtain⟨b',f1,f2⟩:=hFj;exact⟨b',f1,.inl s8⟩
    ·exact hFj
    ·rw[l10]at hlj;cases hlj
  ·obtain⟨hdst,op,dep⟩:=jB h9 ho hd;have y:=(evo rs (by omega) (Ne.symm hlr)).trans er;exact aA (w':=W) (by simp[execOp,op,y,Result.andThen]) ⟨_,aF hdst (hin 9 (by decide)) u _,mono (by decide) (Below.refl _ _) (fun e=>absurd e (by decide)) (fun e=>absurd e (by decide)) rfl⟩
  ·obtain⟨hdst,op,dep⟩:=jB h10 ho hd;have l8:=dep 8 (by simp);have l9:=dep 9 (by simp)
   have r8:W.ownsRow w.heap.size 2 1 (u (s0+8)) (kk+1) (cellsOf T++[.int .i64 x]):=by
    rcases hF 8 (by decide) l8 with e|e
    ·rw[hlk]at e;cases e
    ·exact e
   have y1:=ev 8 (by decide);have y2:=(ev 9 (by decide)).trans ((hF 9 (by decide) l9).trans hrv);have hDW:=aa hD hB;obtain⟨hDl,_⟩:=tI hD;obtain⟨v',w',hr,q2,q3,_,q5⟩:=run_append_own_at (P:=Tryz.prog) W w.heap.size 22 o.type 2 i0 (.int .i64 0) 1 8 Tryz.underlying22 hi0 hz0 hz1 hz2 rfl (by decide) (u (s0+8)) (kk+1) (cellsOf T++[.int .i64 x]) r8 ⟨gr,0,none⟩ m cr (cellsOf D) (by simp[hDl]) (cA hDW) (ints_oneCell _ _) (by unfold maxLen;omega) (by omega) hB.size;have hbB:Below w.heap.size w w':=hB.trans (bn (cJ q3) hB.size (fun k hk=>(aM r8 k hk).1));refine aA (w':=w') (v:=v') (by simp[execOp,op,resolve,invoke,builtin,y1,y2,hr,Result.andThen]) ⟨_,aF hdst (hin 10 (by decide)) u _,.inl ⟨by rw[a8 l (by omega)];exact l11,hbB,fun h=>dQ l8,fun _=>dQ (l84 l8),by simp[upd,show ¬ls=s0+10 by omega,hul],fun j hj hlj => ?_⟩⟩;by_cases e:j=10
   ·subst e;simp only[upd,if_true];exact q2
   ·have hne:¬s0+j=s0+10:=by omega
    simp only[upd,hne,if_false];rw[a8 l (Ne.symm e)]at hlj;have hFj:=hF j hj hlj;have s10:(l.setIfInBounds 10 true).getD 10 false=true:=aN (by omega);have l4:(l.setIfInBounds 10 true).getD 8 false=true:=dQ l8;rcases (show j=0∨j=1∨j=2∨j=3∨j=4∨j=5∨j=6∨j=7∨j=8∨j=9 by omega) with rfl|rfl|rfl|rfl|rfl|rfl|rfl|rfl|rfl|rfl
    ·obtain⟨g,f1,f2,f3⟩:=hFj;exact⟨g,f1,f2,.inl (dQ (l84 l8))⟩
    ·exact hFj
    ·exact hFj
    ·exact hFj
    ·exact .inl l4
    ·exact hFj
    ·exact hFj
    ·obtain⟨b',f1,f2⟩:=hFj;exact⟨b',f1,.inl l4⟩
    ·exact .inl s10
    ·exact hFj
  ·obtain⟨hdst,op,dep⟩:=jB h11 ho hd;have r10:=hF 10 (by decide) (dep 10 (by simp));have y:=ev 10 (by decide);refine aA (w':=W) (v:=u (s0+10)) (by simp[execOp,op,y]) ⟨_,aF hdst (by simp) u _,.inr ⟨fun j hj => ?_,fin _ W (u (s0+10)) (by simp[upd]) r10 hB⟩⟩;by_cases e:j=11
   ·subst e;exact aN (by omega)
   ·rw[a8 l (Ne.symm e)];exact dep j (by rcases (show j=0∨j=1∨j=2∨j=3∨j=4∨j=5∨j=6∨j=7∨j=8∨j=9∨j=10 by omega) with rfl|rfl|rfl|rfl|rfl|rfl|rfl|rfl|rfl|rfl|rfl<;>decide)
end Go.Proofs.YtocidankimefpaaGreatDoor.gr
