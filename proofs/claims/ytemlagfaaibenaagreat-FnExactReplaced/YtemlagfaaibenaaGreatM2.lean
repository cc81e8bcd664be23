/-
  Who owns which block: what is owned stays where another's block is written. What a law on an answer that is a list needs. Lists of entries (a number and a text) in memory: what may be read of one (EntsAt); a row of the call's own (OwnE). How much a list of entries holds, as the laws reckon it. A reg
-/
import Derived.Test.YtemlagfaaibenaaGreatM1
import Derived.Test.YtemlagfaaibenaaGreatProg
import Derived.Orders
import Derived.Deep.Quiet
import Derived.Below
import Derived.Tactics
import Derived.Laws.CopyOwn
import Derived.Deep.RegionLaw
import Derived.Deep.Cut
import Derived.Deep.CutRange
import Derived.Maps.OwnSet
namespace Go.Proofs.YtemlagfaaibenaaGreat.rows
open Go.RowKit
set_option maxRecDepth 100000
def In (lo hi:Nat) (v:Value):Prop:=∀k,v.ownBlock=some k→lo≤k∧k<hi
theorem own_in {w:World} {base:Nat} {v:Value} {xs:List Int} (h:Own w base v xs):In base w.heap.size v:=fun k e=>World.ownsRow.lt h k e
theorem intsAt_drewN {w:World} {n:Nat} {v:Value} {xs:List Int} (h:IntsAt w v xs):IntsAt (w.drewN n) v xs:=h
end Go.Proofs.YtemlagfaaibenaaGreat.rows
namespace Go.Proofs.YtemlagfaaibenaaGreat.rows
open Go.RowKit
end Go.Proofs.YtemlagfaaibenaaGreat.rows
namespace Go.Proofs.YtemlagfaaibenaaGreat.ents
open Go.RowKit rows
abbrev Ent:=Int×ByteArray
abbrev ev (e:Ent):Value:=.agg #[.int .i64 e.1,.string e.2]
end Go.Proofs.YtemlagfaaibenaaGreat.ents
namespace Go.Proofs.YtemlagfaaibenaaGreat.region
open Go
theorem count_set (l:Array Bool) (i:Nat) (h:l.getD i true=false):(l.setIfInBounds i true).toList.count false+1=l.toList.count false:=by
 have hi:i<l.size:=by
  rcases Nat.lt_or_ge i l.size with h'|h'
  ·exact h'
  ·simp[Array.getD,Nat.not_lt.2 h']at h
 have he:l.toList[i]'(by simpa using hi)=false:=by
  simpa [Array.getD,hi] using h
 rw[Array.toList_setIfInBounds,List.count_set (by simpa using hi)]
 have hc:0<l.toList.count false:=List.count_pos_iff.2 (by rw[←he];exact List.getElem_mem _)
 simp[he]
 have hc':0<l.count false:=by simpa using hc
 omega
theorem wpAny_inv {P:Program} {md:Region.Mode} {ops:Array Oper} {Q:Exit→Act→World→Prop} (I:Array Bool→Act→World→Prop)
    (fin:∀l a w,I l a w→Region.ready md ops l=[]→Q .normal a w)
    (stp:∀l a w i,I l a w→i ∈ Region.ready md ops l→wpOp P ops Q i (I (l.setIfInBounds i true)) a w) :
    ∀(fuel:Nat) (l:Array Bool) (a:Act) (w:World),l.toList.count false≤fuel→I l a w→wpAny P md ops Q fuel l a w
 |0,l,a,w,hc,h=>by
  have e:Region.ready md ops l=[]:=by
   rw[List.eq_nil_iff_forall_not_mem]
   intro i hi
   have:=count_set l i (mem_ready.1 hi).1
   omega
  exact⟨e,fin l a w h e⟩
 |fuel+1,l,a,w,hc,h=>by
  refine⟨fun e=>fin l a w h e,fun i hi=>wpOp_mono (fun a' w' h' => ?_) (stp l a w i h hi)⟩
  have:=count_set l i (mem_ready.1 hi).1
  exact wpAny_inv I fin stp fuel _ a' w' (by omega) h'
theorem wp_region_inv {P:Program} {id:Nat} {ops:Array Oper} {Q:Exit→Act→World→Prop} {a:Act} {w:World} (hm:P.follows .mixedOrders=true) (I:Array Bool→Act→World→Prop)
    (start:I (Array.replicate ops.size false) a w.drew)
    (fin:∀l a w,I l a w→Region.ready .any ops l=[]→Q .normal a w)
    (stp:∀l a w i,I l a w→i ∈ Region.ready .any ops l→wpOp P ops Q i (I (l.setIfInBounds i true)) a w):(Code.region id ops true).wp P Q a w:=
 wp_region_any hm (wpAny_inv I fin stp _ _ _ _ (by simp) start)
def ovr (D:Nat→Bool) (a0:Act) (u:Nat→Value):Act:= { a0 with tmps:=((List.range a0.tmps.size).map fun s=>if D s then u s else a0.tmps.getD s undef).toArray }
def upd (u:Nat→Value) (d:Nat) (v:Value):Nat→Value:=fun s=>if s=d then v else u s
theorem getD_at (t:Array Value) (s:Nat):t.getD s undef=t[s]?.getD undef:=by
 rw[Array.getD_eq_getD_getElem?]
theorem ovr_at (D:Nat→Bool) (a0:Act) (u:Nat→Value) (s:Nat) (hs:s<a0.tmps.size):(ovr D a0 u).tmps[s]? = some (if D s then u s else a0.tmps.getD s undef):=by
 simp[ovr,hs]
theorem ovr_size (D:Nat→Bool) (a0:Act) (u:Nat→Value):(ovr D a0 u).tmps.size=a0.tmps.size:=by simp[ovr]
theorem ovr_self (D:Nat→Bool) (a0:Act):ovr D a0 (fun s=>a0.tmps.getD s undef)=a0:=by
 cases a0 with
 |mk tmps defers=>
  unfold ovr
  congr 1
  apply Array.ext_getElem?
  intro s
  rcases Nat.lt_or_ge s tmps.size with h|h
  ·simp[h]
  ·simp[h]
theorem ovr_put {D:Nat→Bool} {a0:Act} {u:Nat→Value} {d:Nat} {v:Value} (hd:D d=true):(ovr D a0 u).put (some d) v=ovr D a0 (upd u d v):=by
 have e:((ovr D a0 u).put (some d) v).tmps=(ovr D a0 (upd u d v)).tmps:=by
  show (ovr D a0 u).tmps.setIfInBounds d v=_
  apply Array.ext_getElem?
  intro s
  rcases Nat.lt_or_ge s a0.tmps.size with h|h
  ·rw[ovr_at D a0 _ s h,Array.getElem?_setIfInBounds]
   by_cases hs:d=s
   ·subst hs
    rw[if_pos rfl,ovr_size,if_pos h,if_pos hd]
    simp[upd]
   ·rw[if_neg hs,ovr_at D a0 _ s h]
    have:¬s=d:=fun e=>hs e.symm
    simp[upd,this]
  ·rw[Array.getElem?_eq_none (by simpa [ovr_size] using h),Array.getElem?_eq_none (by simpa [ovr_size] using h)]
 have e':((ovr D a0 u).put (some d) v).defers=(ovr D a0 (upd u d v)).defers:=rfl
 cases h1:(ovr D a0 u).put (some d) v
 cases h2:ovr D a0 (upd u d v)
 rw[h1,h2]at e e'
 simp only at e e'
 rw[e,e']
theorem all_listed {ops:Array Oper} {l:Array Bool} (hacyc:∀(k:Nat) (o:Oper),ops[k]? = some o→∀e ∈ o.after,e.on<k) (hl:l.size=ops.size) (h:Region.ready .any ops l=[]):∀k,k<ops.size→l.getD k false=true:=by
 intro k
 induction k using Nat.strongRecOn with
 |ind k ih=>
  intro hk
  have hl':k<l.size:=by omega
  cases hv:l.getD k false with
  |true=>rfl
  |false=>
   have h1:l.getD k true=false:=by
    simp only[Array.getD,hl',dite_true]at hv ⊢
    exact hv
   have:k ∈ Region.ready .any ops l:=mem_ready.2 ⟨h1,ops[k],Array.getElem?_eq_getElem hk,fun e he _=>ih e.on (hacyc k _ (Array.getElem?_eq_getElem hk) e he) (by have:=hacyc k _ (Array.getElem?_eq_getElem hk) e he;omega)⟩
   rw[h]at this
   cases this
theorem wp_region_facts {P:Program} {id:Nat} {ops:Array Oper} {Q:Exit→Act→World→Prop} {a0:Act} {w:World} (hm:P.follows .mixedOrders=true) (D:Nat→Bool)
    (hg:∀o ∈ ops,o.guard=none) (hacyc:∀(k:Nat) (o:Oper),ops[k]? = some o→∀e ∈ o.after,e.on<k)
    (I:Array Bool→(Nat→Value)→World→Prop)
    (start:I (Array.replicate ops.size false) (fun s=>a0.tmps.getD s undef) w.drew)
    (fin:∀l u w,I l u w→(∀k,k<ops.size→l.getD k false=true)→Q .normal (ovr D a0 u) w)
    (stp:∀l u w k o,I l u w→l.size=ops.size→l.getD k false=false→ops[k]? = some o→(∀e ∈ o.after,Region.binds .any e=true→l.getD e.on false=true) →
     o.wp P (ovr D a0 u) w (fun a' w'=>∃u',a'=ovr D a0 u'∧I (l.setIfInBounds k true) u' w') Q):(Code.region id ops true).wp P Q a0 w:=by
 refine wp_region_inv hm (fun l a w=>l.size=ops.size∧∃u,a=ovr D a0 u∧I l u w) ⟨by simp,_,(ovr_self D a0).symm,start⟩ ?_ ?_
 ·rintro l a w ⟨hl,u,rfl,h⟩ hr
  exact fin l u w h (all_listed hacyc hl hr)
 ·rintro l a w i ⟨hl,u,rfl,h⟩ hi
  obtain⟨h1,o,ho,hd⟩:=mem_ready.1 hi
  have hi':i<ops.size:=(Array.getElem?_eq_some_iff.1 ho).1
  have h1':l.getD i false=false:=by
   have hl':i<l.size:=by omega
   simp only[Array.getD,hl',dite_true]at h1 ⊢
   exact h1
  have hgo:=hg o (Array.mem_of_getElem? ho)
  unfold wpOp
  rw[ho]
  simp only
  rw[if_pos (by simp[Region.wanted,hgo])]
  refine .inl (Oper.wp_mono (fun a' w' h' => ?_) (stp l u w i o h hl h1' ho hd))
  obtain⟨u',e,h'⟩:=h'
  exact⟨by simpa using hl,u',e,h'⟩
theorem getD_other (l:Array Bool) {k j:Nat} (h:¬k=j):(l.setIfInBounds k true).getD j false=l.getD j false:=by
 rw[Array.getD_eq_getD_getElem?, Array.getElem?_setIfInBounds,if_neg h,Array.getD_eq_getD_getElem?]
theorem facts_put {n:Nat} {F:Nat→Value→World→Prop} {dst:Nat→Nat} {l:Array Bool} {u:Nat→Value} {w w':World} {k:Nat} {v:Value} (hi:∀j,j<n→dst j=dst k→j=k)
    (H:∀j,j<n→l.getD j false=true→F j (u (dst j)) w) (hs:∀j,j<n→j≠k→l.getD j false=true→∀t,F j t w→F j t w') (hv:F k v w') :
    ∀j,j<n→(l.setIfInBounds k true).getD j false=true→F j (upd u (dst k) v (dst j)) w':=by
 intro j hj hlj
 by_cases e:j=k
 ·subst e
  simp only[upd,if_true]
  exact hv
 ·have:¬dst j=dst k:=fun e'=>e (hi j hj e')
  simp only[upd,this,if_false]
  have hlj':l.getD j false=true:=by rwa [getD_other l (Ne.symm e)]at hlj
  exact hs j hj e hlj' _ (H j hj hlj')
theorem listed_ne {l:Array Bool} {k:Nat} (hk:k<l.size):(l.setIfInBounds k true).getD k false=true:=by
 simp[Array.getD,hk]
theorem wp_value {P:Program} {o:Oper} {a:Act} {w w':World} {K:Act→World→Prop} {Q:Exit→Act→World→Prop} {v:Value} (h:(execOp a.eval o).run P w = .ok (.value v) w') (hk:K (a.put o.dst v) w'):o.wp P a w K Q:=by
 unfold Oper.wp
 rw[h]
 exact hk
theorem wp_call {P:Program} {o:Oper} {a:Act} {w:World} {K:Act→World→Prop} {Q:Exit→Act→World→Prop} {f:FuncId} {args:Array Value} (h:(execOp a.eval o).run P w = .ok (.enter f args) w) (hk:Calls P f args w fun e w'=>∃v,e = .returned v∧K (a.put o.dst v) w'):o.wp P a w K Q:=by
 unfold Oper.wp
 rw[h,Oper.upon_enter]
 refine hk.mono ?_
 rintro e w' ⟨v,rfl,h⟩
 exact h
theorem eval_in {D:Nat→Bool} {a0:Act} {u:Nat→Value} {s:Nat} (hd:D s=true) (hs:s<a0.tmps.size):(ovr D a0 u).eval (.tmp s)=u s:=by
 show (ovr D a0 u).tmps.getD s undef=_
 rw[getD_at,ovr_at D a0 u s hs,hd]
 rfl
theorem eval_out {D:Nat→Bool} {a0:Act} {u:Nat→Value} {s:Nat} (hd:D s=false) (hs:s<a0.tmps.size):(ovr D a0 u).eval (.tmp s)=a0.tmps.getD s undef:=by
 show (ovr D a0 u).tmps.getD s undef=_
 rw[getD_at,ovr_at D a0 u s hs,hd]
 rfl
theorem put_in {D:Nat→Bool} {a0:Act} {o:Oper} {d:Nat} (ho:o.dst=some d) (hd:D d=true) (u:Nat→Value) (v:Value):(ovr D a0 u).put o.dst v=ovr D a0 (upd u d v):=by
 rw[ho]
 exact ovr_put hd
theorem put_no {D:Nat→Bool} {a0:Act} {o:Oper} (ho:o.dst=none) (u:Nat→Value) (v:Value):(ovr D a0 u).put o.dst v=ovr D a0 u:=by
 rw[ho]
 rfl
end Go.Proofs.YtemlagfaaibenaaGreat.region
namespace Go.Proofs.YtemlagfaaibenaaGreat.region
open Go Go.RowKit
theorem wp_skip' {P:Program} {o:Oper} {a:Act} {w w':World} {K:Act→World→Prop} {Q:Exit→Act→World→Prop} (h:(execOp a.eval o).run P w = .ok .skip w') (hk:K (a.put o.dst undef) w'):o.wp P a w K Q:=by
 unfold Oper.wp
 rw[h]
 exact hk
theorem wp_region_guarded {P:Program} {id:Nat} {ops:Array Oper} {Q:Exit→Act→World→Prop} {a0:Act} {w:World} (hm:P.follows .mixedOrders=true) (D:Nat→Bool) (R:World→World→Prop) (Rtr:∀a b c,R a b→R b c→R a c) (Rdr:R w w.drew)
    (hacyc:∀(k:Nat) (o:Oper),ops[k]? = some o→∀e ∈ o.after,e.on<k) (n:Nat) (hn:ops.size=n) (dst:Nat→Nat) (hinj:∀k,k<n→∀j,j<n→dst j=dst k→j=k)
    (F:Nat→Value→World→Prop) (hst:∀k t W W',R W W'→F k t W→F k t W')
    (step:∀k o u W,k<n→ops[k]? = some o→R w W→(∀j,j<n→(∃e ∈ o.after,e.on=j∧Region.binds .any e=true)→F j (u (dst j)) W) →
     (Region.wanted o (yielded ops (ovr D a0 u).tmps)=true∧o.wp P (ovr D a0 u) W (fun a' W'=>∃v,a'=ovr D a0 (upd u (dst k) v)∧R W W'∧F k v W') Q) ∨
     (Region.wanted o (yielded ops (ovr D a0 u).tmps)=false∧o.dst=some (dst k)∧D (dst k)=true∧F k undef W))
    (fin:∀u W,R w W→(∀j,j<n→F j (u (dst j)) W)→Q .normal (ovr D a0 u) W) :
    (Code.region id ops true).wp P Q a0 w:=by
 refine wp_region_inv hm (fun l a W=>l.size=ops.size∧∃u,a=ovr D a0 u∧R w W∧∀k,k<n→l.getD k false=true→F k (u (dst k)) W) ⟨by simp,_,(ovr_self D a0).symm,Rdr,fun k hk h => ?_⟩ ?_ ?_
 ·simp[Array.getD,hn,hk]at h
 ·rintro l a W ⟨hl,u,rfl,hB,hF⟩ hr
  have hA:=all_listed hacyc hl hr
  exact fin u W hB fun j hj=>hF j hj (hA j (by omega))
 ·rintro l a W i ⟨hl,u,rfl,hB,hF⟩ hi
  obtain⟨h1,o,ho,hd⟩:=mem_ready.1 hi
  have hi':i<n:=by rw[←hn];exact (Array.getElem?_eq_some_iff.1 ho).1
  unfold wpOp
  rw[ho]
  simp only
  rcases step i o u W hi' ho hB (fun j hj ⟨e,he,e1,hb⟩=>hF j hj (by rw[←e1];exact hd e he hb)) with ⟨hw,h⟩|⟨hw,hds,hD,h⟩
  ·rw[if_pos hw]
   refine .inl (Oper.wp_mono (fun a' W' h' => ?_) h)
   obtain⟨v,rfl,hR,hv⟩:=h'
   exact⟨by simpa using hl,_,rfl,Rtr _ _ _ hB hR,facts_put (dst:=dst) (hinj i hi') hF (fun j _ _ _ t=>hst j t W W' hR) hv⟩
  ·rw[if_neg (by rw[hw];simp)]
   refine⟨by simpa using hl,upd u (dst i) undef,?_,hB,facts_put (dst:=dst) (hinj i hi') hF (fun j _ _ _ t ht=>ht) h⟩
   rw[hds]
   exact ovr_put hD
theorem wanted_none {ops:Array Oper} {o:Oper} {t:Array Value} (h:o.guard=none):Region.wanted o (yielded ops t)=true:=by simp[Region.wanted,h]
theorem wanted_some {ops:Array Oper} {o og:Oper} {D:Nat→Bool} {a0:Act} {u:Nat→Value} {g d:Nat} {b c:Bool} (h:o.guard=some (g,b)) (hg:ops[g]? = some og) (hd:og.dst=some d) (hD:D d=true) (hs:d<a0.tmps.size) (hu:u d = .bool c):Region.wanted o (yielded ops (ovr D a0 u).tmps)=(c==b):=by
 have hy:yielded ops (ovr D a0 u).tmps g=some c:=by
  unfold yielded
  rw[hg]
  simp only[Option.bind_some,hd]
  rw[ovr_at D a0 u d hs,hD,if_pos rfl,hu]
 simp only[Region.wanted,h,hy]
 cases b<;>cases c<;>rfl
theorem wp_region_seq {P:Program} {id:Nat} {ops:Array Oper} {Q:Exit→Act→World→Prop} {a0:Act} {w:World} (D:Nat→Bool) (R:World→World→Prop) (Rtr:∀a b c,R a b→R b c→R a c) (Rrf:R w w)
    (n:Nat) (hn:ops.size=n) (dst:Nat→Nat) (hinj:∀k,k<n→∀j,j<n→dst j=dst k→j=k)
    (F:Nat→Value→World→Prop) (hst:∀k t W W',R W W'→F k t W→F k t W')
    (step:∀k o u W,k<n→ops[k]? = some o→R w W→(∀j,j<k→F j (u (dst j)) W) →
     (Region.wanted o (yielded ops (ovr D a0 u).tmps)=true∧o.wp P (ovr D a0 u) W (fun a' W'=>∃v,a'=ovr D a0 (upd u (dst k) v)∧R W W'∧F k v W') Q) ∨
     (Region.wanted o (yielded ops (ovr D a0 u).tmps)=false∧o.dst=some (dst k)∧D (dst k)=true∧F k undef W))
    (fin:∀u W,R w W→(∀j,j<n→F j (u (dst j)) W)→Q .normal (ovr D a0 u) W) :
    (Code.region id ops false).wp P Q a0 w:=by
 have put:∀(k:Nat) (u:Nat→Value) (v:Value) (W W':World),k<n→(∀j,j<k→F j (u (dst j)) W)→(∀j t,F j t W→F j t W')→F k v W'→∀j,j<k+1→F j (upd u (dst k) v (dst j)) W':=by
  intro k u v W W' hk hF hs hv j hj
  by_cases e:j=k
  ·subst e
   simp only[upd,if_true]
   exact hv
  ·have:¬dst j=dst k:=fun e'=>e (hinj k hk j (by omega) e')
   simp only[upd,this,if_false]
   exact hs j _ (hF j (by omega))
 have main:∀(l:List Oper) (k:Nat) (u:Nat→Value) (W:World),ops.toList.drop k=l→k≤n→R w W→(∀j,j<k→F j (u (dst j)) W)→wpList P ops Q l (ovr D a0 u) W:=by
  intro l
  induction l with
  |nil=>
   intro k u W hl hk hR hF
   have:n≤k:=by
    have:=congrArg List.length hl
    simp at this
    omega
   exact fin u W hR fun j hj=>hF j (by omega)
  |cons o l ih=>
   intro k u W hl hk hR hF
   have hk':k<n:=by
    have:=congrArg List.length hl
    simp at this
    omega
   have ho:ops[k]? = some o:=by
    have h0:=congrArg (fun l=>l[0]?) hl
    simpa using h0
   have hl':ops.toList.drop (k+1)=l:=by
    have h0:=congrArg List.tail hl
    simpa using h0
   rcases step k o u W hk' ho hR hF with ⟨hw,h⟩|⟨hw,hds,hD,h⟩
   ·show if _ then _ else _
    rw[if_pos hw]
    refine .inl (Oper.wp_mono (fun a' W' h' => ?_) h)
    obtain⟨v,rfl,hR',hv⟩:=h'
    exact ih (k+1) _ W' hl' hk' (Rtr _ _ _ hR hR') (put k u v W W' hk' hF (fun j t=>hst j t W W' hR') hv)
   ·show if _ then _ else _
    rw[if_neg (by rw[hw];simp),hds,ovr_put hD]
    exact ih (k+1) _ W hl' hk' hR (put k u undef W W hk' hF (fun _ _ h=>h) h)
 refine wp_region_list ?_
 have:=main ops.toList 0 (fun s=>a0.tmps.getD s undef) w (by simp) (Nat.zero_le _) Rrf (fun j hj=>by omega)
 rwa [ovr_self]at this
end Go.Proofs.YtemlagfaaibenaaGreat.region
namespace Go.Proofs.YtemlagfaaibenaaGreat.copyk
open Go.RowKit
theorem run_clear_k {P:Program} (w:World) (t e ty:TypeId) (z:Value) (sz:Nat) (hu:P.underlying t=some (.slice e)) (hv:∀w,(zeroValue e).run P w = .ok z w)
    (ap:Option Addr) (n c:Nat) (g off:Nat) (cur:List Value) (ct:TypeId) (hg:w.heap[g]? = some (.cells cur.toArray ct (0,0))) (hpos:0<n→ap=some ⟨g,off,none⟩)
    (hl:(Builtin.zeroCells z.cells n).toList.length=n*sz) (h1:∀v ∈ (Builtin.zeroCells z.cells n).toList,v.oneCell'=true) (hfit:off+n*sz≤cur.length) :
    ∃w',(Builtin.clear_ #[t] ty #[.slice ap n c]).run P w = .ok (.tuple #[]) w'∧w'.heap[g]? = some (.cells (if n=0 then cur else splice cur off (Builtin.zeroCells z.cells n).toList).toArray ct (0,0))∧(∀k,k≠g→w'.heap[k]? = w.heap[k]?)∧∀ {B:Nat} {w0:World},Below B w0 w→B≤g→Below B w0 w':=by
 cases n with
 |zero=>
  refine⟨w,?_,by simpa using hg,fun _ _=>rfl,fun h _=>h⟩
  cases ap<;>simp[Builtin.clear_,run_underlying hu]
 |succ n=>
  obtain rfl:=hpos (by omega)
  have hst:=run_storeCells_at P g off ct (Builtin.zeroCells z.cells (n+1)).toList 0 cur.toArray w hg (by rw[hl];simpa using hfit) h1
  refine⟨w.setRow g (splice cur off (Builtin.zeroCells z.cells (n+1)).toList).toArray,?_,?_,fun k hk=>setRow_other w g k _ hk,fun h h'=>below_setRow h h' _⟩
  ·simp only[Builtin.clear_]
   simp[run_underlying hu,hv,hst,splice]
  ·simpa using setRow_heap w g _ (splice cur off (Builtin.zeroCells z.cells (n+1)).toList).toArray ct _ hg
end Go.Proofs.YtemlagfaaibenaaGreat.copyk
namespace Go.Proofs.YtemlagfaaibenaaGreat.rows
open Go.RowKit
set_option maxRecDepth 100000
theorem isRow_any {w:World} {v:Value} {xs:List Int} (h:IntsAt w v xs) :
    Calls Tryz.prog 124 #[v] w fun e w'=>e = .returned (.bool (rowOk xs))∧w'=w:=by
 obtain⟨a,cap,rfl,hlc,hcm,_,hc⟩:=h
 clear hc
 by_cases h1:xs.length≤1000
 ·have h2:(xs.length:Int)≤1000:=by omega
  go_enter Tryz.func124,Tryz.ntmps124
  go_wp2
  go_ret
  exact⟨by simp[rowOk,h1],rfl⟩
 ·have h2:¬(xs.length:Int)≤1000:=by omega
  go_enter Tryz.func124,Tryz.ntmps124
  go_wp2
  go_ret
  exact⟨by simp[rowOk];omega,rfl⟩
def cutOk (len:Nat) (f n:Int):Bool:=decide (0≤f∧0≤n∧f+n≤len)
theorem cutOk_true {len:Nat} {f n:Int} (h:cutOk len f n=true):0≤f∧0≤n∧f+n≤len:=by simpa [cutOk] using h
theorem cutOk_false {len:Nat} {f n:Int} (h:cutOk len f n=false):¬(0≤f∧0≤n∧f+n≤len):=by simpa [cutOk] using h
def piece (a:Option Addr) (f n:Nat):Value:=.slice (if n=0 then a else a.map (·.add f)) n n
theorem cut_no {w:World} {a:Option Addr} {len cap:Nat} (hlc:len≤cap) (hcm:cap≤maxLen) (f n:Int) (hf:I64 f) (hn:I64 n) (d:cutOk len f n=false) :
    Calls Tryz.prog 143 #[.slice a len cap,.int .i64 f,.int .i64 n] w fun e w'=>e = .returned (.tuple #[.slice none 0 0,.bool false])∧w'=w:=by
 unfold I64 at hf hn
 unfold maxLen at hcm
 have d':=cutOk_false d
 clear d
 by_cases h1:f<0
 ·go_enter Tryz.func143,Tryz.ntmps143
  go_wp2
  go_ret2
  exact⟨rfl,rfl⟩
 ·by_cases h2:n<0
  ·go_enter Tryz.func143,Tryz.ntmps143
   go_wp2
   go_ret2
   exact⟨rfl,rfl⟩
  ·have h3:n > (len:Int)-f:=by omega
   go_enter Tryz.func143,Tryz.ntmps143
   go_wp2
   go_ret2
   exact⟨rfl,rfl⟩
theorem cut_yes {w:World} {a:Option Addr} {len cap:Nat} (hlc:len≤cap) (hcm:cap≤maxLen) (F N:Nat) (fn:F+N≤len) :
    Calls Tryz.prog 143 #[.slice a len cap,.int .i64 F,.int .i64 N] w fun e w'=>e = .returned (.tuple #[piece a F N,.bool true])∧w'=w:=by
 unfold maxLen at hcm
 have h1:¬(F:Int)<0:=by omega
 have h2:¬(N:Int)<0:=by omega
 have h3:¬(N:Int) > (len:Int)-F:=by omega
 go_enter Tryz.func143,Tryz.ntmps143
 go_wp2
 all_goals go_ret2
 ·exact⟨by simp[piece, *],rfl⟩
 ·exact⟨by simp[piece, *],rfl⟩
theorem piece_at (b off k n:Nat) (hn:0<n):piece (some ⟨b,off,none⟩) k n = .slice (some ⟨b,off+k,none⟩) n n:=by
 have hn':n≠0:=by omega
 by_cases h0:k=0
 ·subst h0;simp[piece,Addr.add]
 ·simp[piece,Addr.add,h0,hn']
theorem piece_none (a:Option Addr) (k:Nat):piece a k 0 = .slice a 0 0:=by simp[piece]
theorem implReadAt (w:World) (v:Value) (xs:List Int) (i:Int) (h:IntsAt w v xs) (hl:xs.length≤1048576) (hi:I64 i) :
    Calls Tryz.prog 151 #[v,.int .i64 i] w fun e w'=>e = .returned (.tuple #[.int .i64 (readAt xs i),.bool (okAt xs i)])∧Below w.heap.size w w':=by
 have h':=h
 obtain⟨a,cap,rfl,hlc,hcm,_,hc⟩:=h
 cases d1:rowOk xs
 ·have eo:okAt xs i=false:=by simp[okAt,d1]
  have er:readAt xs i=0:=by simp[readAt,eo]
  rw[er,eo]
  clear hc er
  go_enter Tryz.func151,Tryz.ntmps151
  go_wp2_with (go_at_call 124;refine (isRow_any h').mono ?_;rintro e w' ⟨rfl,hw⟩;rw[hw];clear hw w')
  go_ret2
  exact⟨rfl,Below.refl _ _⟩
 ·cases d2:atOk xs i
  ·have eo:okAt xs i=false:=by simp[okAt,d2]
   have er:readAt xs i=0:=by simp[readAt,eo]
   have dc:cutOk xs.length i 1=false:=by simp[cutOk,atOk]at d2 ⊢; omega
   rw[er,eo]
   clear hc er
   go_enter Tryz.func151,Tryz.ntmps151
   go_wp2_with (go_at_call 124;refine (isRow_any h').mono ?_;rintro e w' ⟨rfl,hw⟩;rw[hw];clear hw w')
   refine (cut_no hlc hcm i 1 hi ⟨by decide,by decide⟩ dc).mono ?_
   rintro e w' ⟨rfl,hw⟩
   rw[hw]
   clear hw w'
   go_wp2
   go_ret2
   exact⟨rfl,Below.refl _ _⟩
  ·have eo:okAt xs i=true:=by simp[okAt,d1,d2]
   obtain⟨p1,p2⟩:=atOk_true d2
   obtain⟨k,rfl⟩:=Int.eq_ofNat_of_zero_le p1
   obtain⟨b,off,rfl,hb,hcc⟩:=hc (by omega)
   have c0:=hcc k (by omega)
   have er:readAt xs k=xs.getD k 0:=by simp[readAt,eo]
   have ep:=piece_at b off k 1 (by decide)
   rw[er,eo]
   clear hc hcc er
   generalize xs.getD k 0=x at *
   go_enter Tryz.func151,Tryz.ntmps151
   go_wp2_with (go_at_call 124;refine (isRow_any h').mono ?_;rintro e w' ⟨rfl,hw⟩;rw[hw];clear hw w')
   refine (cut_yes hlc hcm k 1 (by omega)).mono ?_
   rintro e w' ⟨rfl,hw⟩
   rw[hw,ep]
   clear hw w' ep
   go_wp2
   go_ret2
   exact⟨rfl,Below.refl _ _⟩
theorem infoSize:(Tryz.prog.info? 2).map (·.size)=some 1:=by kernel_rfl
theorem splice_all {L cs:List Value} (h:cs.length=L.length):splice L 0 cs=cs:=by simp[splice,h]
theorem src_of {w:World} {a:Option Addr} {cap:Nat} {xs:List Int} (h:IntsAt w (.slice a xs.length cap) xs) (hp:0<xs.length):∃ad,a=some ad∧∀j v,(cellsOf xs)[j]? = some v→w.cell? (ad.add j)=some v:=by
 have h':=h
 obtain⟨a',cap',e,_,_,_,hc⟩:=h
 injection e with e1 e2 e3
 subst e1
 obtain⟨b,off,rfl,_⟩:=hc hp
 exact⟨_,rfl,ints_news h'⟩
theorem own_nil (w:World) (base:Nat):Own w base (.slice none 0 0) []:=World.ownsRow_nil _ _ _ _
theorem copied_any {w:World} {v:Value} {xs:List Int} (h:IntsAt w v xs) (hl:xs.length≤1048576) :
    Calls Tryz.prog 61 #[v] w fun e w'=>e = .returned (.slice (some ⟨w.heap.size,0,none⟩) xs.length xs.length)∧Full w' w.heap.size xs∧Below w.heap.size w w':=by
 have h':=h
 obtain⟨a,cap,rfl,hlc,hcm,_,hc⟩:=h
 obtain⟨i0,hi,hz0,hz1,hz2⟩:=info_parts info
 clear hc
 go_enter Tryz.func61,Tryz.ntmps61
 go_upto_region 2 with (at_make;refine wpList_make_full _ rfl _ _ 22 rfl w.heap.size 2 i0 (.int .i64 0) 1 Tryz.underlying22 hi hz0 hz1 _ _ _ _ xs.length rfl rfl rfl rfl (by rw[hz2];omega) (by unfold maxLen;omega) (Nat.le_refl _) ?_;intro w1 hown hgrow)
 have F0:Full w1 w.heap.size (List.replicate xs.length 0):=own_full hown (by simp[cellsOf,toList_madeCells_one,Value.cells])
 have B0:Below w.heap.size w w1:=(Below.refl _ _).grown hgrow (Nat.le_refl _) (fun k e=>by cases e)
 have SRC:=src_of (intsAt_below h' B0)
 have hn:(cellsOf xs).length=Nat.min xs.length xs.length:=by rw[show Nat.min xs.length xs.length=xs.length from Nat.min_self _];simp
 have hfit:0+(cellsOf xs).length≤(cellsOf (List.replicate xs.length 0)).length:=by simp
 have hp0:0<(cellsOf xs).length→some (⟨w.heap.size,0,none⟩:Addr)=some ⟨w.heap.size,0,none⟩∧∃ad,a=some ad∧∀j v,(cellsOf xs)[j]? = some v→w1.cell? (ad.add j)=some v:=fun hp=>⟨rfl,SRC (by simpa using hp)⟩
 have HN:Hid _:=hn
 have HF:Hid _:=hfit
 have HP:Hid _:=hp0
 have HF0:Hid _:=F0
 clear hown hgrow hn hfit hp0 F0 SRC
 go_wp2_with (refine wpList_copy_splice rfl (.tmp 7) (.tmp 8) 22 22 rfl 2 Tryz.underlying22 infoSize (some ⟨w.heap.size,0,none⟩) a xs.length xs.length xs.length cap rfl rfl w.heap.size 0 (cellsOf (List.replicate xs.length 0)) 2 HF0.out (cellsOf xs) HN.out HP.out HF.out (ints_oneCell _ _) w.heap.size w B0 (Nat.le_refl _) ?_;intro w2 hF hB)
 have F2:Full w2 w.heap.size xs:=by
  have:=hF.out
  rw[splice_all (by simp)]at this
  exact this
 go_ret
 exact⟨rfl,F2,hB⟩
end Go.Proofs.YtemlagfaaibenaaGreat.rows
namespace Go.Proofs.YtemlagfaaibenaaGreat.hp
open Go.Maps
set_option linter.unusedVariables false
def ends (nt:Int→Bool) (nx:Int→Int):Nat→Int→Bool
 |0,_=>false
 |n+1,p=>if nt p=true then ends nt nx n (nx p) else true
section
variable {nt:Int→Bool} {nx:Int→Int}
theorem ends_more:∀ {n:Nat} {p:Int},ends nt nx n p=true→ends nt nx (n+1) p=true
 |0,_,h=>by cases h
 |n+1,p,h=>by
  unfold ends at h ⊢
  by_cases e:nt p=true
  ·rw[if_pos e]at h ⊢
   exact ends_more h
  ·rw[if_neg e]
theorem ends_le {n m:Nat} {p:Int} (h:ends nt nx n p=true) (hm:n≤m):ends nt nx m p=true:=by
 induction m with
 |zero=>obtain rfl:n=0:=by omega
        exact h
 |succ m ih=>
  by_cases e:n=m+1
  ·rw[←e];exact h
  ·exact ends_more (ih (by omega))
def Fins (nt:Int→Bool) (nx:Int→Int) (p:Int):Prop:=∃n,ends nt nx n p=true
theorem fins_next {p:Int} (h:nt p=true):Fins nt nx p↔Fins nt nx (nx p):=by
 constructor
 ·rintro⟨n,hn⟩
  cases n with
  |zero=>cases hn
  |succ n=>unfold ends at hn;rw[if_pos h]at hn;exact⟨n,hn⟩
 ·rintro⟨n,hn⟩
  exact⟨n+1,by unfold ends;rw[if_pos h];exact hn⟩
theorem fins_stop {p:Int} (h:nt p=false):Fins nt nx p:=⟨1,by unfold ends;rw[if_neg (by rw[h];decide)]⟩
def Goes (nt:Int→Bool) (nx:Int→Int):Nat→Int→Int→Prop
 |0,p,q=>p=q
 |n+1,p,q=>nt p=true∧Goes nt nx n (nx p) q
theorem goes_fins:∀ {n:Nat} {p q:Int},Goes nt nx n p q→(Fins nt nx p↔Fins nt nx q)
 |0,p,q,h=>by rw[show p=q from h]
 |n+1,p,q,h=>(fins_next h.1).trans (goes_fins h.2)
theorem goes_more:∀ {n:Nat} {p q:Int},Goes nt nx n p q→nt q=true→Goes nt nx (n+1) p (nx q)
 |0,p,q,h,hq=>by rw[show p=q from h];exact⟨hq,rfl⟩
 |n+1,p,q,h,hq=>⟨h.1,goes_more h.2 hq⟩
theorem goes_len:∀ {m n:Nat} {p q:Int},Goes nt nx m p q→ends nt nx n p=true→nt q=true→∃k,n=m+k∧ends nt nx k q=true
 |0,n,p,q,h,hn,_=>⟨n,by omega,by rw[←show p=q from h];exact hn⟩
 |m+1,n,p,q,h,hn,hq=>by
  cases n with
  |zero=>cases hn
  |succ n=>
   unfold ends at hn
   rw[if_pos h.1]at hn
   obtain⟨k,e,hk⟩:=goes_len h.2 hn hq
   exact⟨k,by omega,hk⟩
theorem round_no {m:Nat} {p:Int} (h:Goes nt nx (m+1) p p):¬Fins nt nx p:=by
 rintro⟨n,hn⟩
 induction n using Nat.strongRecOn with
 |ind n ih=>
  obtain⟨k,e,hk⟩:=goes_len h hn h.1
  exact ih k (by omega) hk
theorem nodup_le:∀ {l ps:List Int},l.Nodup→(∀x ∈ l,x ∈ ps)→l.length≤ps.length
 | [],_,_,_=>Nat.zero_le _
 |x :: l,ps,hn,hs=>by
  obtain⟨hx,hn⟩:=List.nodup_cons.1 hn
  have hm:=hs x (List.mem_cons_self ..)
  have:=nodup_le (l:=l) (ps:=ps.erase x) hn (fun y hy=>(List.mem_erase_of_ne (fun e=>hx (by rw[←e];exact hy))).2 (hs y (List.mem_cons_of_mem _ hy)))
  rw[List.length_erase_of_mem hm]at this
  have:0<ps.length:=List.length_pos_of_mem hm
  simp only[List.length_cons]
  omega
theorem chain_list {ps:List Int} (hc:∀p ∈ ps,nt p=true→nx p ∈ ps):∀ {n:Nat} {p:Int},p ∈ ps→ends nt nx (n+1) p=true→ends nt nx n p=false→∃l:List Int,l.length=n+1∧l.Nodup∧(∀x ∈ l,x ∈ ps)∧∀x ∈ l,ends nt nx (n+1) x=true
 |0,p,hp,h,_=>⟨[p],rfl,by simp,by simpa using hp,by simpa using h⟩
 |n+1,p,hp,h,h0=>by
  have e:nt p=true:=by
   cases e:nt p
   ·unfold ends at h0;rw[if_neg (by rw[e];decide)]at h0;cases h0
   ·rfl
  have h1:ends nt nx (n+1) (nx p)=true:=by unfold ends at h;rw[if_pos e]at h;exact h
  have h2:ends nt nx n (nx p)=false:=by unfold ends at h0;rw[if_pos e]at h0;exact h0
  obtain⟨l,a,b,c,d⟩:=chain_list hc (hc p hp e) h1 h2
  refine⟨p :: l,by simp[a],List.nodup_cons.2 ⟨fun hm => ?_,b⟩,?_,?_⟩
  ·rw[d p hm]at h0;cases h0
  ·intro x hx
   rcases List.mem_cons.1 hx with rfl|hx
   ·exact hp
   ·exact c x hx
  ·intro x hx
   rcases List.mem_cons.1 hx with rfl|hx
   ·exact h
   ·exact ends_more (d x hx)
theorem fins_len {ps:List Int} (hc:∀p ∈ ps,nt p=true→nx p ∈ ps) {p:Int} (hp:p ∈ ps) (h:Fins nt nx p):ends nt nx ps.length p=true:=by
 obtain⟨n,hn⟩:=h
 induction n using Nat.strongRecOn with
 |ind n ih=>
  cases n with
  |zero=>cases hn
  |succ n=>
   cases e:ends nt nx n p
   ·obtain⟨l,a,b,c,_⟩:=chain_list hc hp hn e
    have:=nodup_le b c
    exact ends_le hn (by omega)
   ·exact ih n (by omega) e
theorem fins_iff {ps:List Int} (hc:∀p ∈ ps,nt p=true→nx p ∈ ps) {p:Int} (hp:p ∈ ps) {n:Nat} (hn:ps.length≤n):ends nt nx n p=true↔Fins nt nx p:=⟨fun h=>⟨n,h⟩,fun h=>ends_le (fins_len hc hp h) hn⟩
end
abbrev kI (p:Int):Lit:=.int .i64 p
theorem kI_key (p:Int):WideAt.IsKeyLit (kI p):=by unfold WideAt.IsKeyLit;simp
theorem kI_ne {p q:Int} (h:p≠q):kI p≠kI q:=fun e=>h (by injection e)
abbrev nD (r:Int):DataW Unit:=.lit (.int .i64 r)
def cntN (L:List Int) (D:DataW Unit):Nat:=(L.filter (fun p => !Maps.has D (kI p))).length
theorem cntN_start (L:List Int):cntN L (.map [])=L.length:=by simp[cntN,Maps.has]
theorem filter_less {f g:Int→Bool} (h:∀x,g x=true→f x=true):∀l:List Int,(l.filter g).length≤(l.filter f).length
 | []=>Nat.le_refl _
 |x :: l=>by
  have:=filter_less h l
  cases e:g x
  ·rw[List.filter_cons_of_neg (by rw[e];decide)]
   cases e':f x
   ·rw[List.filter_cons_of_neg (by rw[e'];decide)];exact this
   ·rw[List.filter_cons_of_pos e'];simp only[List.length_cons];omega
  ·rw[List.filter_cons_of_pos e,List.filter_cons_of_pos (h x e)];simp only[List.length_cons];omega
theorem filter_one {f g:Int→Bool} (h:∀x,g x=true→f x=true) {y:Int} (hf:f y=true) (hg:g y=false):∀l:List Int,y ∈ l→(l.filter g).length+1≤(l.filter f).length
 | [],hy=>by simp at hy
 |x :: l,hy=>by
  by_cases e:x=y
  ·subst e
   rw[List.filter_cons_of_neg (by rw[hg];decide),List.filter_cons_of_pos hf]
   have:=filter_less h l
   simp only[List.length_cons];omega
  ·have hl:y ∈ l:=by
     rcases List.mem_cons.1 hy with e'|e'
     ·exact absurd e'.symm e
     ·exact e'
   have:=filter_one h hf hg l hl
   cases e1:g x
   ·rw[List.filter_cons_of_neg (by rw[e1];decide)]
    cases e2:f x
    ·rw[List.filter_cons_of_neg (by rw[e2];decide)];exact this
    ·rw[List.filter_cons_of_pos e2];simp only[List.length_cons];omega
   ·rw[List.filter_cons_of_pos e1,List.filter_cons_of_pos (h x e1)];simp only[List.length_cons];omega
theorem cntN_put {L:List Int} {D:DataW Unit} (hD:Tidy D) {p:Int} (hp:p ∈ L) (hn:Maps.has D (kI p)=false) (d:DataW Unit):cntN L (D.put (kI p) d)+1≤cntN L D:=by
 unfold cntN
 refine filter_one (fun x hx => ?_) (y:=p) (by rw[hn];rfl) (by rw[Maps.has_put_same hD.isMap (kI_key _)];rfl) L hp
 by_cases e:x=p
 ·subst e
  rw[Maps.has_put_same hD.isMap (kI_key _)]at hx;cases hx
 ·rwa [Maps.has_put_other (kI_ne e)]at hx
structure NE (nt:Int→Bool) (nx:Int→Int) (L:List Int) (k:Nat) (D:DataW Unit):Prop where
 tidy:Tidy D
 mem:∀q,Maps.has D (kI q)=true→q ∈ L
 val:∀q,Maps.has D (kI q)=true→∃r:Nat,r<k∧D.atKey (kI q) (nD 0)=nD r
 fin:∀q,Maps.has D (kI q)=true→Fins nt nx q
structure NEi (nt:Int→Bool) (nx:Int→Int) (L:List Int) (k:Nat) (D:DataW Unit) (st cur:Int):Prop where
 tidy:Tidy D
 mem:∀q,Maps.has D (kI q)=true→q ∈ L
 val:∀q,Maps.has D (kI q)=true→∃r:Nat,r≤k∧D.atKey (kI q) (nD 0)=nD r∧(r<k→Fins nt nx q)∧(r=k→∃m,Goes nt nx (m+1) q cur)
 path:∃m,Goes nt nx m st cur
section
variable {nt:Int→Bool} {nx:Int→Int} {L:List Int} {k:Nat} {D:DataW Unit} {st cur:Int}
theorem ne_start:NE nt nx L 0 (.map []) where
 tidy:=Maps.tidy_empty
 mem:=fun q h=>by simp[Maps.has]at h
 val:=fun q h=>by simp[Maps.has]at h
 fin:=fun q h=>by simp[Maps.has]at h
theorem NE.into (h:NE nt nx L k D) (st:Int):NEi nt nx L k D st st where
 tidy:=h.tidy
 mem:=h.mem
 val:=fun q hq=>by
  obtain⟨r,hr,e⟩:=h.val q hq
  exact⟨r,by omega,e,fun _=>h.fin q hq,fun e=>by omega⟩
 path:=⟨0,rfl⟩
theorem NEi.stop (h:NEi nt nx L k D st cur) (hf:Fins nt nx cur):NE nt nx L (k+1) D∧Fins nt nx st:=by
 refine⟨⟨h.tidy,h.mem,fun q hq => ?_,fun q hq => ?_⟩,?_⟩
 ·obtain⟨r,hr,e,_⟩:=h.val q hq
  exact⟨r,by omega,e⟩
 ·obtain⟨r,hr,e,h1,h2⟩:=h.val q hq
  by_cases hk:r=k
  ·obtain⟨m,hm⟩:=h2 hk
   exact (goes_fins hm).2 hf
  ·exact h1 (by omega)
 ·obtain⟨m,hm⟩:=h.path
  exact (goes_fins hm).2 hf
theorem nD_inj {a b:Int} (h:nD a=nD b):a=b:=by injection h with h;injection h
theorem NEi.round (h:NEi nt nx L k D st cur) (hh:Maps.has D (kI cur)=true) (hv:D.atKey (kI cur) (nD 0)=nD k):¬Fins nt nx st:=by
 obtain⟨r,hr,e,_,h2⟩:=h.val cur hh
 have e':=nD_inj (e.symm.trans hv)
 obtain⟨m,hm⟩:=h2 (by omega)
 obtain⟨m',hp⟩:=h.path
 exact fun hf=>round_no hm ((goes_fins hp).1 hf)
theorem NEi.old (h:NEi nt nx L k D st cur) (hh:Maps.has D (kI cur)=true) {c:Int} (hv:D.atKey (kI cur) (nD 0)=nD c) (hc:c≠k):Fins nt nx cur:=by
 obtain⟨r,hr,e,h1,_⟩:=h.val cur hh
 have e':=nD_inj (e.symm.trans hv)
 exact h1 (by omega)
theorem NEi.step (h:NEi nt nx L k D st cur) (hm:cur ∈ L) (hn:nt cur=true):NEi nt nx L k (D.put (kI cur) (nD k)) st (nx cur):=by
 refine⟨h.tidy.put (kI_key _) _,fun q hq => ?_,fun q hq => ?_,?_⟩
 ·by_cases e:q=cur
  ·rw[e];exact hm
  ·rw[Maps.has_put_other (kI_ne e)]at hq;exact h.mem q hq
 ·by_cases e:q=cur
  ·subst e
   exact⟨k,Nat.le_refl _,Maps.atKey_put_same h.tidy.isMap (kI_key _) _ _,fun e=>by omega,fun _=>⟨0,hn,rfl⟩⟩
  ·rw[Maps.has_put_other (kI_ne e)]at hq
   obtain⟨r,hr,e1,h1,h2⟩:=h.val q hq
   refine⟨r,hr,(Maps.atKey_put_other (kI_ne e) _ _).trans e1,h1,fun ek => ?_⟩
   obtain⟨m,hg⟩:=h2 ek
   exact⟨m+1,goes_more hg hn⟩
 ·obtain⟨m,hp⟩:=h.path
  exact⟨m+1,goes_more hp hn⟩
end
end Go.Proofs.YtemlagfaaibenaaGreat.hp
namespace Go.Proofs.YtemlagfaaibenaaGreat.region
open Go Go.RowKit
theorem ovr_congr {D:Nat→Bool} {a0:Act} {u u':Nat→Value} (h:∀s,D s=true→u s=u' s):ovr D a0 u=ovr D a0 u':=by
 unfold ovr
 congr 2
 refine List.map_congr_left fun s _ => ?_
 cases e:D s
 ·rfl
 ·simp[h s e]
theorem put_dummy {D:Nat→Bool} {a0:Act} {o:Oper} {d:Nat} (ho:o.dst=none) (hd:D d=false) (u:Nat→Value) (v v':Value):(ovr D a0 u).put o.dst v'=ovr D a0 (upd u d v):=by
 rw[ho]
 show ovr D a0 u=_
 refine ovr_congr fun s hs => ?_
 unfold upd
 rw[if_neg]
 rintro rfl
 rw[hd]at hs
 cases hs
theorem wp_skipped {P:Program} {o:Oper} {a:Act} {w w':World} {K:Act→World→Prop} {Q:Exit→Act→World→Prop} (h:(execOp a.eval o).run P w = .ok .skip w') (hk:K (a.put o.dst undef) w'):o.wp P a w K Q:=wp_skip' h hk
section
variable {P:Program} {ops:Array Oper} {o:Oper} {D:Nat→Bool} {a0:Act} {u:Nat→Value} {W:World} {Q:Exit→Act→World→Prop} {R:World→World→Prop} {F:Value→World→Prop} {dk:Nat}
theorem tellV {v:Value} (hg:o.guard=none) (hd:o.dst=some dk) (hD:D dk=true) (hrun:(execOp (ovr D a0 u).eval o).run P W = .ok (.value v) W) (hR:R W W) (hF:F v W) :
    (Region.wanted o (yielded ops (ovr D a0 u).tmps)=true∧o.wp P (ovr D a0 u) W (fun a' W'=>∃v,a'=ovr D a0 (upd u dk v)∧R W W'∧F v W') Q)∨(Region.wanted o (yielded ops (ovr D a0 u).tmps)=false∧o.dst=some dk∧D dk=true∧F undef W):=
 .inl ⟨wanted_none hg,wp_value hrun ⟨v,put_in hd hD u v,hR,hF⟩⟩
theorem tellC {f:FuncId} {args:Array Value} (hg:o.guard=none) (hd:o.dst=some dk) (hD:D dk=true) (hrun:(execOp (ovr D a0 u).eval o).run P W = .ok (.enter f args) W) (hc:Calls P f args W fun e w'=>∃v,e = .returned v∧R W w'∧F v w') :
    (Region.wanted o (yielded ops (ovr D a0 u).tmps)=true∧o.wp P (ovr D a0 u) W (fun a' W'=>∃v,a'=ovr D a0 (upd u dk v)∧R W W'∧F v W') Q)∨(Region.wanted o (yielded ops (ovr D a0 u).tmps)=false∧o.dst=some dk∧D dk=true∧F undef W):=
 .inl ⟨wanted_none hg,wp_call hrun (hc.mono fun _ _ ⟨v,he,h1,h2⟩=>⟨v,he,v,put_in hd hD u v,h1,h2⟩)⟩
theorem tellS {W':World} (hg:o.guard=none) (hd:o.dst=none) (hD:D dk=false) (hrun:(execOp (ovr D a0 u).eval o).run P W = .ok .skip W') (hR:R W W') (hF:F undef W') :
    (Region.wanted o (yielded ops (ovr D a0 u).tmps)=true∧o.wp P (ovr D a0 u) W (fun a' W'=>∃v,a'=ovr D a0 (upd u dk v)∧R W W'∧F v W') Q)∨(Region.wanted o (yielded ops (ovr D a0 u).tmps)=false∧o.dst=some dk∧D dk=true∧F undef W):=
 .inl ⟨wanted_none hg,wp_skipped hrun ⟨undef,put_dummy hd hD u undef undef,hR,hF⟩⟩
end
section
variable {P:Program} {o:Oper} {D:Nat→Bool} {a0:Act} {u:Nat→Value} {W:World} {Q:Exit→Act→World→Prop} {F:Value→World→Prop} {dk:Nat}
theorem plainV {v:Value} (hd:o.dst=some dk) (hD:D dk=true) (hrun:(execOp (ovr D a0 u).eval o).run P W = .ok (.value v) W) (hF:F v W) :
    o.wp P (ovr D a0 u) W (fun a' W'=>∃v,a'=ovr D a0 (upd u dk v)∧Below W.heap.size W W'∧F v W') Q:=wp_value hrun ⟨v,put_in hd hD u v,Below.refl _ _,hF⟩
theorem plainC {f:FuncId} {args:Array Value} (hd:o.dst=some dk) (hD:D dk=true) (hrun:(execOp (ovr D a0 u).eval o).run P W = .ok (.enter f args) W) (hc:Calls P f args W fun e w'=>∃v,e = .returned v∧Below W.heap.size W w'∧F v w') :
    o.wp P (ovr D a0 u) W (fun a' W'=>∃v,a'=ovr D a0 (upd u dk v)∧Below W.heap.size W W'∧F v W') Q:=wp_call hrun (hc.mono fun _ _ ⟨v,he,h1,h2⟩=>⟨v,he,v,put_in hd hD u v,h1,h2⟩)
end
theorem wp_region_last {P:Program} {id:Nat} {ops:Array Oper} {Q:Exit→Act→World→Prop} {a0:Act} {w:World} (hm:P.follows .mixedOrders=true) (D:Nat→Bool)
    (hg:∀o ∈ ops,o.guard=none) (hacyc:∀(k:Nat) (o:Oper),ops[k]? = some o→∀e ∈ o.after,e.on<k) (n:Nat) (hn:ops.size=n+1) (dst:Nat→Nat) (hinj:∀k,k<n→∀j,j<n→dst j=dst k→j=k)
    (F:Nat→Value→World→Prop) (hst:∀k t W W',Below W.heap.size W W'→F k t W→F k t W')
    (hall:∀l:Nat→Bool,(∀k o,ops[k]? = some o→(k<n→l k=true)→∀e ∈ o.after,Region.binds .any e=true→l e.on=true)→∀j,j<n→l j=true)
    (step:∀k o u W,k<n→ops[k]? = some o→Below w.heap.size w W→(∀j,j<n→(∃e ∈ o.after,e.on=j∧Region.binds .any e=true)→F j (u (dst j)) W)→o.wp P (ovr D a0 u) W (fun a' W'=>∃v,a'=ovr D a0 (upd u (dst k) v)∧Below W.heap.size W W'∧F k v W') Q)
    (last:∀o u W,ops[n]? = some o→Below w.heap.size w W→(∀j,j<n→F j (u (dst j)) W)→o.wp P (ovr D a0 u) W (fun a' W'=>∃u',a'=ovr D a0 u'∧Q .normal (ovr D a0 u') W') Q) :
    (Code.region id ops true).wp P Q a0 w:=by
 refine wp_region_facts hm D hg hacyc (fun l u W=>(l.getD n false=false∧Below w.heap.size w W∧(∀k o,k<n→l.getD k false=true→ops[k]? = some o→∀e ∈ o.after,Region.binds .any e=true→l.getD e.on false=true)∧∀k,k<n→l.getD k false=true→F k (u (dst k)) W)∨((∀k,k<n+1→l.getD k false=true)∧Q .normal (ovr D a0 u) W)) (.inl ⟨?_,(Below.refl _ w).drew,fun k o hk h => ?_,fun k hk h => ?_⟩) ?_ ?_
 ·simp[Array.getD,hn]
 ·simp[Array.getD,hn,show k<n+1 by omega]at h
 ·simp[Array.getD,hn,show k<n+1 by omega]at h
 ·rintro l u W (⟨h1,_⟩|⟨_,h⟩) hA
  ·rw[hA n (by omega)]at h1
   cases h1
  ·exact h
 ·rintro l u W k o (⟨h1,hB,hC,hF⟩|⟨hA,_⟩) hl hlk ho hd
  case inr=>
   have hk:k<n+1:=by rw[←hn];exact (Array.getElem?_eq_some_iff.1 ho).1
   rw[hA k hk]at hlk
   cases hlk
  have hk:k<n+1:=by rw[←hn];exact (Array.getElem?_eq_some_iff.1 ho).1
  by_cases e:k=n
  ·subst e
   have hA:∀j,j<k→l.getD j false=true:=hall (fun j=>l.getD j false) (fun j o' ho' hj e he hb=>by
    have hj1:j<k+1:=by rw[←hn];exact (Array.getElem?_eq_some_iff.1 ho').1
    by_cases e2:j=k
    ·subst e2
     rw[ho]at ho'
     injection ho' with ho'
     subst ho'
     exact hd e he hb
    ·exact hC j o' (by omega) (hj (by omega)) ho' e he hb)
   refine Oper.wp_mono ?_ (last o u W ho hB (fun j hj=>hF j hj (hA j hj)))
   rintro a' W' ⟨u',rfl,h⟩
   refine⟨u',rfl,.inr ⟨fun j hj => ?_,h⟩⟩
   by_cases e:j=k
   ·subst e;exact listed_ne (by omega)
   ·rw[getD_other l (Ne.symm e)];exact hA j (by omega)
  ·have hk':k<n:=by omega
   refine Oper.wp_mono ?_ (step k o u W hk' ho hB (fun j hj ⟨e,he,e1,hb⟩=>hF j hj (by rw[←e1];exact hd e he hb)))
   rintro a' W' ⟨v,rfl,hb,hv⟩
   refine⟨_,rfl,.inl ⟨?_,hB.trans (hb.mono hB.size),?_,?_⟩⟩
   ·rw[getD_other l e];exact h1
   ·intro j o' hj hlj ho' e' he' hb'
    by_cases e2:k=e'.on
    ·rw[←e2];exact listed_ne (by omega)
    ·rw[getD_other l e2]
     by_cases e3:k=j
     ·subst e3
      rw[ho]at ho'
      injection ho' with ho'
      subst ho'
      exact hd e' he' hb'
     ·rw[getD_other l e3]at hlj
      exact hC j o' hj hlj ho' e' he' hb'
   ·exact facts_put (dst:=dst) (hinj k hk') hF (fun j _ _ _ t=>hst j t W W' hb) hv
end Go.Proofs.YtemlagfaaibenaaGreat.region
namespace Go.Proofs.YtemlagfaaibenaaGreat.region
open Go
end Go.Proofs.YtemlagfaaibenaaGreat.region
namespace Go.Proofs.YtemlagfaaibenaaGreat.region
open Go Go.RowKit
section
variable {P:Program} {ops:Array Oper} {o:Oper} {D:Nat→Bool} {a0:Act} {u:Nat→Value} {W:World} {Q:Exit→Act→World→Prop} {R:World→World→Prop} {F:Value→World→Prop} {dk:Nat}
end
end Go.Proofs.YtemlagfaaibenaaGreat.region
