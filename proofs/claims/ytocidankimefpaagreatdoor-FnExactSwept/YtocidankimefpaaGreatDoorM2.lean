/-
  A drawn region whose last operation comes behind all others, though not at once; and 'copy' as that operation. A drawn region some of whose edges do not bind: by an invariant of what has come up, of the slots and of the world. A drawn region by facts: an operation that its guard wants, and one that 
-/
import Derived.Test.YtocidankimefpaaGreatDoorM1
import Derived.Laws.CopyOwn
namespace Go.Proofs.YtocidankimefpaaGreatDoor.region
open Go Go.RowKit
theorem wp_region_last {P:Program} {id:Nat} {ops:Array Oper} {Q:Exit→Act→World→Prop} {a0:Act} {w:World} (hm:P.follows .mixedOrders=true) (D:Nat→Bool)
    (hg:∀o ∈ ops,o.guard=none) (hacyc:∀(k:Nat) (o:Oper),ops[k]? = some o→∀e ∈ o.after,e.on<k) (n:Nat) (hn:ops.size=n+1) (dst:Nat→Nat) (hinj:∀k,k<n→∀j,j<n→dst j=dst k→j=k)
    (F:Nat→Value→World→Prop) (hst:∀k t W W',Below W.heap.size W W'→F k t W→F k t W')
    (hall:∀l:Nat→Bool,(∀k o,ops[k]? = some o→(k<n→l k=true)→∀e ∈ o.after,Region.binds .any e=true→l e.on=true)→∀j,j<n→l j=true)
    (step:∀k o u W,k<n→ops[k]? = some o→Below w.heap.size w W→(∀j,j<n→(∃e ∈ o.after,e.on=j∧Region.binds .any e=true)→F j (u (dst j)) W)→o.wp P (ovr D a0 u) W (fun a' W'=>∃v,a'=ovr D a0 (upd u (dst k) v)∧Below W.heap.size W W'∧F k v W') Q)
    (last:∀o u W,ops[n]? = some o→Below w.heap.size w W→(∀j,j<n→F j (u (dst j)) W)→o.wp P (ovr D a0 u) W (fun a' W'=>∃u',a'=ovr D a0 u'∧Q .normal (ovr D a0 u') W') Q) :
    (Code.region id ops true).wp P Q a0 w:=by
 refine wp_region_facts hm D hg hacyc (fun l u W=>(l.getD n false=false∧Below w.heap.size w W∧(∀k o,k<n→l.getD k false=true→ops[k]? = some o→∀e ∈ o.after,Region.binds .any e=true→l.getD e.on false=true)∧∀k,k<n→l.getD k false=true→F k (u (dst k)) W)∨((∀k,k<n+1→l.getD k false=true)∧Q .normal (ovr D a0 u) W)) (.inl ⟨?_,(Below.refl _ w).drew,fun k o hk h => ?_,fun k hk h => ?_⟩) ?_ ?_
 ·simp[Array.getD,hn]
 ·simp[Array.getD,hn,show k<n+1 by omega]at h
 ·simp[Array.getD,hn,show k<n+1 by omega]at h
 ·rintro l u W (⟨h1,_⟩|⟨_,h⟩) hA
  ·rw[hA n (by omega)]at h1
   cases h1
  ·exact h
 ·rintro l u W k o (⟨h1,hB,hC,hF⟩|⟨hA,_⟩) hl hlk ho hd
  case inr=>
   have hk:k<n+1:=by rw[←hn];exact (Array.getElem?_eq_some_iff.1 ho).1
   rw[hA k hk]at hlk
   cases hlk
  have hk:k<n+1:=by rw[←hn];exact (Array.getElem?_eq_some_iff.1 ho).1
  by_cases e:k=n
  ·subst e
   have hA:∀j,j<k→l.getD j false=true:=hall (fun j=>l.getD j false) (fun j o' ho' hj e he hb=>by
    have hj1:j<k+1:=by rw[←hn];exact (Array.getElem?_eq_some_iff.1 ho').1
    by_cases e2:j=k
    ·subst e2
     rw[ho]at ho'
     injection ho' with ho'
     subst ho'
     exact hd e he hb
    ·exact hC j o' (by omega) (hj (by omega)) ho' e he hb)
   refine Oper.wp_mono ?_ (last o u W ho hB (fun j hj=>hF j hj (hA j hj)))
   rintro a' W' ⟨u',rfl,h⟩
   refine⟨u',rfl,.inr ⟨fun j hj => ?_,h⟩⟩
   by_cases e:j=k
   ·subst e;exact listed_ne (by omega)
   ·rw[getD_other l (Ne.symm e)];exact hA j (by omega)
  ·have hk':k<n:=by omega
   refine Oper.wp_mono ?_ (step k o u W hk' ho hB (fun j hj ⟨e,he,e1,hb⟩=>hF j hj (by rw[←e1];exact hd e he hb)))
   rintro a' W' ⟨v,rfl,hb,hv⟩
   refine⟨_,rfl,.inl ⟨?_,hB.trans (hb.mono hB.size),?_,?_⟩⟩
   ·rw[getD_other l e];exact h1
   ·intro j o' hj hlj ho' e' he' hb'
    by_cases e2:k=e'.on
    ·rw[←e2];exact listed_ne (by omega)
    ·rw[getD_other l e2]
     by_cases e3:k=j
     ·subst e3
      rw[ho]at ho'
      injection ho' with ho'
      subst ho'
      exact hd e' he' hb'
     ·rw[getD_other l e3]at hlj
      exact hC j o' hj hlj ho' e' he' hb'
   ·exact facts_put (dst:=dst) (hinj k hk') hF (fun j _ _ _ t=>hst j t W W' hb) hv
end Go.Proofs.YtocidankimefpaaGreatDoor.region
namespace Go.Proofs.YtocidankimefpaaGreatDoor.region
open Go
theorem all_listed' {ops:Array Oper} {l:Array Bool} (hacyc:∀(k:Nat) (o:Oper),ops[k]? = some o→∀e ∈ o.after,Region.binds .any e=true→e.on<k) (hl:l.size=ops.size) (h:Region.ready .any ops l=[]):∀k,k<ops.size→l.getD k false=true:=by
 intro k
 induction k using Nat.strongRecOn with
 |ind k ih=>
  intro hk
  have hl':k<l.size:=by omega
  cases hv:l.getD k false with
  |true=>rfl
  |false=>
   have h1:l.getD k true=false:=by
    simp only[Array.getD,hl',dite_true]at hv ⊢
    exact hv
   have:k ∈ Region.ready .any ops l:=mem_ready.2 ⟨h1,ops[k],Array.getElem?_eq_getElem hk,fun e he hb=>ih e.on (hacyc k _ (Array.getElem?_eq_getElem hk) e he hb) (by have:=hacyc k _ (Array.getElem?_eq_getElem hk) e he hb;omega)⟩
   rw[h]at this
   cases this
theorem wp_region_bind {P:Program} {id:Nat} {ops:Array Oper} {Q:Exit→Act→World→Prop} {a0:Act} {w:World} (hm:P.follows .mixedOrders=true) (D:Nat→Bool)
    (hg:∀o ∈ ops,o.guard=none) (hacyc:∀(k:Nat) (o:Oper),ops[k]? = some o→∀e ∈ o.after,Region.binds .any e=true→e.on<k)
    (I:Array Bool→(Nat→Value)→World→Prop)
    (start:I (Array.replicate ops.size false) (fun s=>a0.tmps.getD s undef) w.drew)
    (fin:∀l u w,I l u w→(∀k,k<ops.size→l.getD k false=true)→Q .normal (ovr D a0 u) w)
    (stp:∀l u w k o,I l u w→l.size=ops.size→l.getD k false=false→ops[k]? = some o→(∀e ∈ o.after,Region.binds .any e=true→l.getD e.on false=true) →
     o.wp P (ovr D a0 u) w (fun a' w'=>∃u',a'=ovr D a0 u'∧I (l.setIfInBounds k true) u' w') Q):(Code.region id ops true).wp P Q a0 w:=by
 refine wp_region_inv hm (fun l a w=>l.size=ops.size∧∃u,a=ovr D a0 u∧I l u w) ⟨by simp,_,(ovr_self D a0).symm,start⟩ ?_ ?_
 ·rintro l a w ⟨hl,u,rfl,h⟩ hr
  exact fin l u w h (all_listed' hacyc hl hr)
 ·rintro l a w i ⟨hl,u,rfl,h⟩ hi
  obtain⟨h1,o,ho,hd⟩:=mem_ready.1 hi
  have hi':i<ops.size:=(Array.getElem?_eq_some_iff.1 ho).1
  have h1':l.getD i false=false:=by
   have hl':i<l.size:=by omega
   simp only[Array.getD,hl',dite_true]at h1 ⊢
   exact h1
  have hgo:=hg o (Array.mem_of_getElem? ho)
  unfold wpOp
  rw[ho]
  simp only
  rw[if_pos (by simp[Region.wanted,hgo])]
  refine .inl (Oper.wp_mono (fun a' w' h' => ?_) (stp l u w i o h hl h1' ho hd))
  obtain⟨u',e,h'⟩:=h'
  exact⟨by simpa using hl,u',e,h'⟩
end Go.Proofs.YtocidankimefpaaGreatDoor.region
namespace Go.Proofs.YtocidankimefpaaGreatDoor.region
open Go Go.RowKit
section
variable {P:Program} {ops:Array Oper} {o:Oper} {D:Nat→Bool} {a0:Act} {u:Nat→Value} {W:World} {Q:Exit→Act→World→Prop} {R:World→World→Prop} {F:Value→World→Prop} {dk:Nat}
end
end Go.Proofs.YtocidankimefpaaGreatDoor.region
namespace Go.Proofs.YtocidankimefpaaGreatDoor.region
open Go
theorem onceV {P:Program} {o:Oper} {D:Nat→Bool} {a0:Act} {u:Nat→Value} {W:World} {Q:Exit→Act→World→Prop} {F:Value→Prop} {dk:Nat} {v:Value} (hd:o.dst=some dk) (hD:D dk=true) (hrun:(execOp (ovr D a0 u).eval o).run P W = .ok (.value v) W) (hF:F v) :
    o.wp P (ovr D a0 u) W (fun a' W'=>∃v,a'=ovr D a0 (upd u dk v)∧W'=W∧F v) Q:=wp_value hrun ⟨v,put_in hd hD u v,rfl,hF⟩
theorem onceC {P:Program} {o:Oper} {D:Nat→Bool} {a0:Act} {u:Nat→Value} {W:World} {Q:Exit→Act→World→Prop} {F:Value→Prop} {B:World→Prop} {dk:Nat} {f:FuncId} {args:Array Value} (hd:o.dst=some dk) (hD:D dk=true) (hrun:(execOp (ovr D a0 u).eval o).run P W = .ok (.enter f args) W) (hc:Calls P f args W fun e w'=>∃v,e = .returned v∧B w'∧F v) :
    o.wp P (ovr D a0 u) W (fun a' W'=>∃v,a'=ovr D a0 (upd u dk v)∧B W'∧F v) Q:=wp_call hrun (hc.mono fun _ _ ⟨v,he,h1,h2⟩=>⟨v,he,v,put_in hd hD u v,h1,h2⟩)
theorem upd_eq (u:Nat→Value) (d:Nat) (v:Value):upd u d v d=v:=by simp[upd]
theorem upd_ne {u:Nat→Value} {d c:Nat} {v:Value} (h:c≠d):upd u d v c=u c:=by simp[upd,h]
theorem threeW {P:Program} {o:Oper} {D:Nat→Bool} {a0:Act} {u:Nat→Value} {W W':World} {Q:Exit→Act→World→Prop} {A:Value→World→Prop} {F:Value→Prop} {dk:Nat} {v:Value} (hd:o.dst=some dk) (hD:D dk=true) (hrun:(execOp (ovr D a0 u).eval o).run P W = .ok (.value v) W') (hA:A v W') (hF:F v) :
    o.wp P (ovr D a0 u) W (fun a' W'=>∃v,a'=ovr D a0 (upd u dk v)∧A v W'∧F v) Q:=wp_value hrun ⟨v,put_in hd hD u v,hA,hF⟩
theorem threeC {P:Program} {o:Oper} {D:Nat→Bool} {a0:Act} {u:Nat→Value} {W:World} {Q:Exit→Act→World→Prop} {A:Value→World→Prop} {F:Value→Prop} {dk:Nat} {f:FuncId} {args:Array Value} (hd:o.dst=some dk) (hD:D dk=true) (hrun:(execOp (ovr D a0 u).eval o).run P W = .ok (.enter f args) W) (hc:Calls P f args W fun e w'=>∃v,e = .returned v∧A v w'∧F v) :
    o.wp P (ovr D a0 u) W (fun a' W'=>∃v,a'=ovr D a0 (upd u dk v)∧A v W'∧F v) Q:=wp_call hrun (hc.mono fun _ _ ⟨v,he,h1,h2⟩=>⟨v,he,v,put_in hd hD u v,h1,h2⟩)
theorem wp_region_fourE {P:Program} {id:Nat} {ops:Array Oper} {Q:Exit→Act→World→Prop} {a0:Act} {w:World} (hm:P.follows .mixedOrders=true) (D:Nat→Bool)
    (hg:∀o ∈ ops,o.guard=none) (hacyc:∀(k:Nat) (o:Oper),ops[k]? = some o→∀e ∈ o.after,Region.binds .any e=true→e.on<k) (n c1 c2 c3 c4:Nat) (hn:ops.size=n+1) (h1n:c1<n) (h2n:c2<n) (h3n:c3<n) (h4n:c4<n) (h12:c1≠c2) (h13:c1≠c3) (h14:c1≠c4) (h23:c2≠c3) (h24:c2≠c4) (h34:c3≠c4) (dst:Nat→Nat) (hinj:∀k,k<n→∀j,j<n→dst j=dst k→j=k)
    (F:Nat→Value→Prop) (A0:World→Prop) (A1 A2 A3 A4:Value→World→Prop) (hA:A0 w.drew)
    (AE:World→Prop) (hend:∀u W,AE W→Q .normal (ovr D a0 u) W)
    (he5:∀o,ops[n]? = some o→∃e ∈ o.after,e.on=c4∧Region.binds .any e=true)
    (he2:∀o,ops[c2]? = some o→∃e ∈ o.after,e.on=c1∧Region.binds .any e=true)
    (he3:∀o,ops[c3]? = some o→∃e ∈ o.after,e.on=c2∧Region.binds .any e=true)
    (he4:∀o,ops[c4]? = some o→∃e ∈ o.after,e.on=c3∧Region.binds .any e=true)
    (step:∀k o u W,k<n→k≠c1→k≠c2→k≠c3→k≠c4→ops[k]? = some o→(A0 W∨A1 (u (dst c1)) W∨A2 (u (dst c2)) W∨A3 (u (dst c3)) W∨A4 (u (dst c4)) W∨AE W)→(∀j,j<n→(∃e ∈ o.after,e.on=j∧Region.binds .any e=true)→F j (u (dst j)))→o.wp P (ovr D a0 u) W (fun a' W'=>∃v,a'=ovr D a0 (upd u (dst k) v)∧W'=W∧F k v) Q)
    (call1:∀o u W,ops[c1]? = some o→A0 W→(∀j,j<n→(∃e ∈ o.after,e.on=j∧Region.binds .any e=true)→F j (u (dst j)))→o.wp P (ovr D a0 u) W (fun a' W'=>∃v,a'=ovr D a0 (upd u (dst c1) v)∧A1 v W'∧F c1 v) Q)
    (call2:∀o u W,ops[c2]? = some o→A1 (u (dst c1)) W→(∀j,j<n→(∃e ∈ o.after,e.on=j∧Region.binds .any e=true)→F j (u (dst j)))→o.wp P (ovr D a0 u) W (fun a' W'=>∃v,a'=ovr D a0 (upd u (dst c2) v)∧A2 v W'∧F c2 v) Q)
    (call3:∀o u W,ops[c3]? = some o→A2 (u (dst c2)) W→(∀j,j<n→(∃e ∈ o.after,e.on=j∧Region.binds .any e=true)→F j (u (dst j)))→o.wp P (ovr D a0 u) W (fun a' W'=>∃v,a'=ovr D a0 (upd u (dst c3) v)∧A3 v W'∧F c3 v) Q)
    (call4:∀o u W,ops[c4]? = some o→A3 (u (dst c3)) W→(∀j,j<n→(∃e ∈ o.after,e.on=j∧Region.binds .any e=true)→F j (u (dst j)))→o.wp P (ovr D a0 u) W (fun a' W'=>∃v,a'=ovr D a0 (upd u (dst c4) v)∧A4 v W'∧F c4 v) Q)
    (last:∀o u W,ops[n]? = some o→A4 (u (dst c4)) W→(∀j,j<n→(∃e ∈ o.after,e.on=j∧Region.binds .any e=true)→F j (u (dst j)))→o.wp P (ovr D a0 u) W (fun a' W'=>∃u',a'=ovr D a0 u'∧u'=u∧AE W') Q) :
    (Code.region id ops true).wp P Q a0 w:=by
 refine wp_region_bind hm D hg hacyc (fun l u W=>(l.getD n false=false∧(l.getD c1 false=false→l.getD c2 false=false)∧(l.getD c2 false=false→l.getD c3 false=false)∧(l.getD c3 false=false→l.getD c4 false=false)∧(l.getD c1 false=false→A0 W)∧(l.getD c1 false=true→l.getD c2 false=false→A1 (u (dst c1)) W)∧(l.getD c2 false=true→l.getD c3 false=false→A2 (u (dst c2)) W)∧(l.getD c3 false=true→l.getD c4 false=false→A3 (u (dst c3)) W)∧(l.getD c4 false=true→A4 (u (dst c4)) W)∧∀k,k<n→l.getD k false=true→F k (u (dst k)))∨(l.getD n false=true∧l.getD c1 false=true∧l.getD c2 false=true∧l.getD c3 false=true∧l.getD c4 false=true∧AE W∧∀k,k<n→l.getD k false=true→F k (u (dst k)))) (.inl ⟨?_,fun _ => ?_,fun _ => ?_,fun _ => ?_,fun _=>hA,fun h => ?_,fun h => ?_,fun h => ?_,fun h => ?_,fun k hk h => ?_⟩) ?_ ?_
 ·simp[Array.getD,hn]
 ·simp[Array.getD,hn]
 ·simp[Array.getD,hn]
 ·simp[Array.getD,hn]
 ·simp[Array.getD,hn,show c1<n+1 by omega]at h
 ·simp[Array.getD,hn,show c2<n+1 by omega]at h
 ·simp[Array.getD,hn,show c3<n+1 by omega]at h
 ·simp[Array.getD,hn,show c4<n+1 by omega]at h
 ·simp[Array.getD,hn,show k<n+1 by omega]at h
 ·rintro l u W (⟨h1,_⟩|⟨_,_,_,_,_,h,_⟩) hA
  ·rw[hA n (by omega)]at h1
   cases h1
  ·exact hend u W h
 ·rintro l u W k o (⟨h1,k12,k23,k34,B0,B1,B2,B3,B4,hF⟩|⟨hln,q1,q2,q3,q4,hE,hF⟩) hl hlk ho hd
  case inr=>
   have hk:k<n+1:=by rw[←hn];exact (Array.getElem?_eq_some_iff.1 ho).1
   have nk:k≠n:=fun e=>by rw[e,hln]at hlk;cases hlk
   have n1:k≠c1:=fun e=>by rw[e,q1]at hlk;cases hlk
   have n2:k≠c2:=fun e=>by rw[e,q2]at hlk;cases hlk
   have n3:k≠c3:=fun e=>by rw[e,q3]at hlk;cases hlk
   have n4:k≠c4:=fun e=>by rw[e,q4]at hlk;cases hlk
   have hk':k<n:=by omega
   refine Oper.wp_mono ?_ (step k o u W hk' n1 n2 n3 n4 ho (.inr (.inr (.inr (.inr (.inr hE))))) (fun j hj ⟨e,he,e1,hb⟩=>hF j hj (by rw[←e1];exact hd e he hb)))
   rintro a' W' ⟨v,rfl,rfl,hv⟩
   exact⟨_,rfl,.inr ⟨by rw[getD_other l nk];exact hln,by rw[getD_other l n1];exact q1,by rw[getD_other l n2];exact q2,by rw[getD_other l n3];exact q3,by rw[getD_other l n4];exact q4,hE,facts_put (dst:=dst) (F:=fun k t _=>F k t) (w:=W') (w':=W') (hinj k hk') hF (fun j _ _ _ t z=>z) hv⟩⟩
  have hk:k<n+1:=by rw[←hn];exact (Array.getElem?_eq_some_iff.1 ho).1
  by_cases e:k=n
  ·subst e
   have l4:l.getD c4 false=true:=by
    obtain⟨e,he,e1,hb⟩:=he5 o ho
    rw[←e1];exact hd e he hb
   have l3:l.getD c3 false=true:=by
    cases hh:l.getD c3 false
    ·rw[k34 hh]at l4;cases l4
    ·rfl
   have l2:l.getD c2 false=true:=by
    cases hh:l.getD c2 false
    ·rw[k23 hh]at l3;cases l3
    ·rfl
   have l1:l.getD c1 false=true:=by
    cases hh:l.getD c1 false
    ·rw[k12 hh]at l2;cases l2
    ·rfl
   refine Oper.wp_mono ?_ (last o u W ho (B4 l4) (fun j hj ⟨e,he,e1,hb⟩=>hF j hj (by rw[←e1];exact hd e he hb)))
   rintro a' W' ⟨u',rfl,rfl,h⟩
   refine⟨_,rfl,.inr ⟨listed_ne (by omega),by rw[getD_other l (by omega)];exact l1,by rw[getD_other l (by omega)];exact l2,by rw[getD_other l (by omega)];exact l3,by rw[getD_other l (by omega)];exact l4,h,fun j hj hlj => ?_⟩⟩
   rw[getD_other l (by omega)]at hlj
   exact hF j hj hlj
  ·have hk':k<n:=by omega
   have hfd:∀j,j<n→(∃e ∈ o.after,e.on=j∧Region.binds .any e=true)→F j (u (dst j)):=fun j hj ⟨e,he,e1,hb⟩=>hF j hj (by rw[←e1];exact hd e he hb)
   have hput:∀ {v:Value},F k v→∀j,j<n→(l.set! k true).getD j false=true→F j ((upd u (dst k) v) (dst j)):=fun {v} hv=>facts_put (dst:=dst) (F:=fun k t _=>F k t) (w:=W) (w':=W) (hinj k hk') hF (fun j _ _ _ t z=>z) hv
   have dne:∀c,c<n→c≠k→∀v,(upd u (dst k) v) (dst c)=u (dst c):=fun c hc hck v=>upd_ne (fun e=>hck (hinj k hk' c hc e))
   by_cases ec1:k=c1
   ·subst ec1
    have l2:=k12 hlk
    have l3:=k23 l2
    have l4:=k34 l3
    refine Oper.wp_mono ?_ (call1 o u W ho (B0 hlk) hfd)
    rintro a' W' ⟨v,rfl,hb,hv⟩
    refine⟨_,rfl,.inl ⟨?_,fun h => ?_,fun _ => ?_,fun _ => ?_,fun h => ?_,fun _ _ => ?_,fun h => ?_,fun h => ?_,fun h => ?_,hput hv⟩⟩
    ·rw[getD_other l e];exact h1
    ·rw[listed_ne (by omega)]at h;cases h
    ·rw[getD_other l h13];exact l3
    ·rw[getD_other l h14];exact l4
    ·rw[listed_ne (by omega)]at h;cases h
    ·rw[upd_eq];exact hb
    ·rw[getD_other l h12,l2]at h;cases h
    ·rw[getD_other l h13,l3]at h;cases h
    ·rw[getD_other l h14,l4]at h;cases h
   ·skip
    by_cases ec2:k=c2
    ·subst ec2
     have l1:l.getD c1 false=true:=by
      obtain⟨e,he,e1,hb⟩:=he2 o ho
      rw[←e1];exact hd e he hb
     have l3:=k23 hlk
     have l4:=k34 l3
     refine Oper.wp_mono ?_ (call2 o u W ho (B1 l1 hlk) hfd)
     rintro a' W' ⟨v,rfl,hb,hv⟩
     refine⟨_,rfl,.inl ⟨?_,fun h => ?_,fun h => ?_,fun _ => ?_,fun h => ?_,fun _ h => ?_,fun _ _ => ?_,fun h => ?_,fun h => ?_,hput hv⟩⟩
     ·rw[getD_other l e];exact h1
     ·rw[getD_other l (Ne.symm h12),l1]at h;cases h
     ·rw[listed_ne (by omega)]at h;cases h
     ·rw[getD_other l h24];exact l4
     ·rw[getD_other l (Ne.symm h12),l1]at h;cases h
     ·rw[listed_ne (by omega)]at h;cases h
     ·rw[upd_eq];exact hb
     ·rw[getD_other l h23,l3]at h;cases h
     ·rw[getD_other l h24,l4]at h;cases h
    ·skip
     by_cases ec3:k=c3
     ·subst ec3
      have l2:l.getD c2 false=true:=by
       obtain⟨e,he,e1,hb⟩:=he3 o ho
       rw[←e1];exact hd e he hb
      have l1:l.getD c1 false=true:=by
       cases hh:l.getD c1 false
       ·rw[k12 hh]at l2;cases l2
       ·rfl
      have l4:=k34 hlk
      refine Oper.wp_mono ?_ (call3 o u W ho (B2 l2 hlk) hfd)
      rintro a' W' ⟨v,rfl,hb,hv⟩
      refine⟨_,rfl,.inl ⟨?_,fun h => ?_,fun h => ?_,fun h => ?_,fun h => ?_,fun _ h => ?_,fun _ h => ?_,fun _ _ => ?_,fun h => ?_,hput hv⟩⟩
      ·rw[getD_other l e];exact h1
      ·rw[getD_other l (Ne.symm h13),l1]at h;cases h
      ·rw[getD_other l (Ne.symm h23),l2]at h;cases h
      ·rw[listed_ne (by omega)]at h;cases h
      ·rw[getD_other l (Ne.symm h13),l1]at h;cases h
      ·rw[getD_other l (Ne.symm h23),l2]at h;cases h
      ·rw[listed_ne (by omega)]at h;cases h
      ·rw[upd_eq];exact hb
      ·rw[getD_other l h34,l4]at h;cases h
     ·skip
      by_cases ec4:k=c4
      ·subst ec4
       have l3:l.getD c3 false=true:=by
        obtain⟨e,he,e1,hb⟩:=he4 o ho
        rw[←e1];exact hd e he hb
       have l2:l.getD c2 false=true:=by
        cases hh:l.getD c2 false
        ·rw[k23 hh]at l3;cases l3
        ·rfl
       have l1:l.getD c1 false=true:=by
        cases hh:l.getD c1 false
        ·rw[k12 hh]at l2;cases l2
        ·rfl
       refine Oper.wp_mono ?_ (call4 o u W ho (B3 l3 hlk) hfd)
       rintro a' W' ⟨v,rfl,hb,hv⟩
       refine⟨_,rfl,.inl ⟨?_,fun h => ?_,fun h => ?_,fun h => ?_,fun h => ?_,fun _ h => ?_,fun _ h => ?_,fun _ h => ?_,fun _ => ?_,hput hv⟩⟩
       ·rw[getD_other l e];exact h1
       ·rw[getD_other l (Ne.symm h14),l1]at h;cases h
       ·rw[getD_other l (Ne.symm h24),l2]at h;cases h
       ·rw[getD_other l (Ne.symm h34),l3]at h;cases h
       ·rw[getD_other l (Ne.symm h14),l1]at h;cases h
       ·rw[getD_other l (Ne.symm h24),l2]at h;cases h
       ·rw[getD_other l (Ne.symm h34),l3]at h;cases h
       ·rw[listed_ne (by omega)]at h;cases h
       ·rw[upd_eq];exact hb
      ·skip
       have hAB:A0 W∨A1 (u (dst c1)) W∨A2 (u (dst c2)) W∨A3 (u (dst c3)) W∨A4 (u (dst c4)) W∨AE W:=by
        cases hh1:l.getD c1 false
        ·exact .inl (B0 hh1)
        ·skip
         cases hh2:l.getD c2 false
         ·exact .inr (.inl (B1 hh1 hh2))
         ·skip
          cases hh3:l.getD c3 false
          ·exact .inr (.inr (.inl (B2 hh2 hh3)))
          ·skip
           cases hh4:l.getD c4 false
           ·exact .inr (.inr (.inr (.inl (B3 hh3 hh4))))
           ·exact .inr (.inr (.inr (.inr (.inl (B4 hh4)))))
       refine Oper.wp_mono ?_ (step k o u W hk' ec1 ec2 ec3 ec4 ho hAB hfd)
       rintro a' W' ⟨v,rfl,rfl,hv⟩
       refine⟨_,rfl,.inl ⟨?_,fun h => ?_,fun h => ?_,fun h => ?_,fun h=>B0 ?_,fun h h' => ?_,fun h h' => ?_,fun h h' => ?_,fun h => ?_,hput hv⟩⟩
       ·rw[getD_other l e];exact h1
       ·rw[getD_other l ec1]at h;rw[getD_other l ec2];exact k12 h
       ·rw[getD_other l ec2]at h;rw[getD_other l ec3];exact k23 h
       ·rw[getD_other l ec3]at h;rw[getD_other l ec4];exact k34 h
       ·rwa [getD_other l ec1]at h
       ·rw[dne c1 h1n (Ne.symm ec1)];rw[getD_other l ec1]at h;rw[getD_other l ec2]at h';exact B1 h h'
       ·rw[dne c2 h2n (Ne.symm ec2)];rw[getD_other l ec2]at h;rw[getD_other l ec3]at h';exact B2 h h'
       ·rw[dne c3 h3n (Ne.symm ec3)];rw[getD_other l ec3]at h;rw[getD_other l ec4]at h';exact B3 h h'
       ·rw[dne c4 h4n (Ne.symm ec4)];rw[getD_other l ec4]at h;exact B4 h
end Go.Proofs.YtocidankimefpaaGreatDoor.region
