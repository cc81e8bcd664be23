/-
  What the program's ReadAt answers. A copy by make and copy: a block of its own that holds just these numbers. Chains of notes: which of them end, and how the program finds it out by a map of rounds. A drawn region with a store among its operations: the store's fact lies at a slot that is none. A dra
-/
import Derived.Test.YtemlagfaaibenaaGreatM1
import Derived.Laws.CopyOwn
import Derived.Deep.Cut
import Derived.Deep.CutRange
import Derived.Maps.OwnSet
namespace Go.Proofs.YtemlagfaaibenaaGreat.rows
open Go.RowKit
set_option maxRecDepth 100000
theorem implReadAt (w:World) (v:Value) (xs:List Int) (i:Int) (h:IntsAt w v xs) (hl:xs.length≤1048576) (hi:I64 i) :
    Calls Tryz.prog 151 #[v,.int .i64 i] w fun e w'=>e = .returned (.tuple #[.int .i64 (readAt xs i),.bool (okAt xs i)])∧Below w.heap.size w w':=by
 have h':=h
 obtain⟨a,cap,rfl,hlc,hcm,_,hc⟩:=h
 cases d1:rowOk xs
 ·have eo:okAt xs i=false:=by simp[okAt,d1]
  have er:readAt xs i=0:=by simp[readAt,eo]
  rw[er,eo]
  clear hc er
  go_enter Tryz.func151,Tryz.ntmps151
  go_wp2_with (go_at_call 124;refine (isRow_any h').mono ?_;rintro e w' ⟨rfl,hw⟩;rw[hw];clear hw w')
  go_ret2
  exact⟨rfl,Below.refl _ _⟩
 ·cases d2:atOk xs i
  ·have eo:okAt xs i=false:=by simp[okAt,d2]
   have er:readAt xs i=0:=by simp[readAt,eo]
   have dc:cutOk xs.length i 1=false:=by simp[cutOk,atOk]at d2 ⊢; omega
   rw[er,eo]
   clear hc er
   go_enter Tryz.func151,Tryz.ntmps151
   go_wp2_with (go_at_call 124;refine (isRow_any h').mono ?_;rintro e w' ⟨rfl,hw⟩;rw[hw];clear hw w')
   refine (cut_no hlc hcm i 1 hi ⟨by decide,by decide⟩ dc).mono ?_
   rintro e w' ⟨rfl,hw⟩
   rw[hw]
   clear hw w'
   go_wp2
   go_ret2
   exact⟨rfl,Below.refl _ _⟩
  ·have eo:okAt xs i=true:=by simp[okAt,d1,d2]
   obtain⟨p1,p2⟩:=atOk_true d2
   obtain⟨k,rfl⟩:=Int.eq_ofNat_of_zero_le p1
   obtain⟨b,off,rfl,hb,hcc⟩:=hc (by omega)
   have c0:=hcc k (by omega)
   have er:readAt xs k=xs.getD k 0:=by simp[readAt,eo]
   have ep:=piece_at b off k 1 (by decide)
   rw[er,eo]
   clear hc hcc er
   generalize xs.getD k 0=x at *
   go_enter Tryz.func151,Tryz.ntmps151
   go_wp2_with (go_at_call 124;refine (isRow_any h').mono ?_;rintro e w' ⟨rfl,hw⟩;rw[hw];clear hw w')
   refine (cut_yes hlc hcm k 1 (by omega)).mono ?_
   rintro e w' ⟨rfl,hw⟩
   rw[hw,ep]
   clear hw w' ep
   go_wp2
   go_ret2
   exact⟨rfl,Below.refl _ _⟩
theorem infoSize:(Tryz.prog.info? 2).map (·.size)=some 1:=by kernel_rfl
theorem splice_all {L cs:List Value} (h:cs.length=L.length):splice L 0 cs=cs:=by simp[splice,h]
theorem src_of {w:World} {a:Option Addr} {cap:Nat} {xs:List Int} (h:IntsAt w (.slice a xs.length cap) xs) (hp:0<xs.length):∃ad,a=some ad∧∀j v,(cellsOf xs)[j]? = some v→w.cell? (ad.add j)=some v:=by
 have h':=h
 obtain⟨a',cap',e,_,_,_,hc⟩:=h
 injection e with e1 e2 e3
 subst e1
 obtain⟨b,off,rfl,_⟩:=hc hp
 exact⟨_,rfl,ints_news h'⟩
theorem own_nil (w:World) (base:Nat):Own w base (.slice none 0 0) []:=World.ownsRow_nil _ _ _ _
theorem copied_any {w:World} {v:Value} {xs:List Int} (h:IntsAt w v xs) (hl:xs.length≤1048576) :
    Calls Tryz.prog 61 #[v] w fun e w'=>e = .returned (.slice (some ⟨w.heap.size,0,none⟩) xs.length xs.length)∧Full w' w.heap.size xs∧Below w.heap.size w w':=by
 have h':=h
 obtain⟨a,cap,rfl,hlc,hcm,_,hc⟩:=h
 obtain⟨i0,hi,hz0,hz1,hz2⟩:=info_parts info
 clear hc
 go_enter Tryz.func61,Tryz.ntmps61
 go_upto_region 2 with (at_make;refine wpList_make_full _ rfl _ _ 22 rfl w.heap.size 2 i0 (.int .i64 0) 1 Tryz.underlying22 hi hz0 hz1 _ _ _ _ xs.length rfl rfl rfl rfl (by rw[hz2];omega) (by unfold maxLen;omega) (Nat.le_refl _) ?_;intro w1 hown hgrow)
 have F0:Full w1 w.heap.size (List.replicate xs.length 0):=own_full hown (by simp[cellsOf,toList_madeCells_one,Value.cells])
 have B0:Below w.heap.size w w1:=(Below.refl _ _).grown hgrow (Nat.le_refl _) (fun k e=>by cases e)
 have SRC:=src_of (intsAt_below h' B0)
 have hn:(cellsOf xs).length=Nat.min xs.length xs.length:=by rw[show Nat.min xs.length xs.length=xs.length from Nat.min_self _];simp
 have hfit:0+(cellsOf xs).length≤(cellsOf (List.replicate xs.length 0)).length:=by simp
 have hp0:0<(cellsOf xs).length→some (⟨w.heap.size,0,none⟩:Addr)=some ⟨w.heap.size,0,none⟩∧∃ad,a=some ad∧∀j v,(cellsOf xs)[j]? = some v→w1.cell? (ad.add j)=some v:=fun hp=>⟨rfl,SRC (by simpa using hp)⟩
 have HN:Hid _:=hn
 have HF:Hid _:=hfit
 have HP:Hid _:=hp0
 have HF0:Hid _:=F0
 clear hown hgrow hn hfit hp0 F0 SRC
 go_wp2_with (refine wpList_copy_splice rfl (.tmp 7) (.tmp 8) 22 22 rfl 2 Tryz.underlying22 infoSize (some ⟨w.heap.size,0,none⟩) a xs.length xs.length xs.length cap rfl rfl w.heap.size 0 (cellsOf (List.replicate xs.length 0)) 2 HF0.out (cellsOf xs) HN.out HP.out HF.out (ints_oneCell _ _) w.heap.size w B0 (Nat.le_refl _) ?_;intro w2 hF hB)
 have F2:Full w2 w.heap.size xs:=by
  have:=hF.out
  rw[splice_all (by simp)]at this
  exact this
 go_ret
 exact⟨rfl,F2,hB⟩
end Go.Proofs.YtemlagfaaibenaaGreat.rows
namespace Go.Proofs.YtemlagfaaibenaaGreat.hp
open Go.Maps
set_option linter.unusedVariables false
def ends (nt:Int→Bool) (nx:Int→Int):Nat→Int→Bool
 |0,_=>false
 |n+1,p=>if nt p=true then ends nt nx n (nx p) else true
section
variable {nt:Int→Bool} {nx:Int→Int}
theorem ends_more:∀ {n:Nat} {p:Int},ends nt nx n p=true→ends nt nx (n+1) p=true
 |0,_,h=>by cases h
 |n+1,p,h=>by
  unfold ends at h ⊢
  by_cases e:nt p=true
  ·rw[if_pos e]at h ⊢
   exact ends_more h
  ·rw[if_neg e]
theorem ends_le {n m:Nat} {p:Int} (h:ends nt nx n p=true) (hm:n≤m):ends nt nx m p=true:=by
 induction m with
 |zero=>obtain rfl:n=0:=by omega
        exact h
 |succ m ih=>
  by_cases e:n=m+1
  ·rw[←e];exact h
  ·exact ends_more (ih (by omega))
def Fins (nt:Int→Bool) (nx:Int→Int) (p:Int):Prop:=∃n,ends nt nx n p=true
theorem fins_next {p:Int} (h:nt p=true):Fins nt nx p↔Fins nt nx (nx p):=by
 constructor
 ·rintro⟨n,hn⟩
  cases n with
  |zero=>cases hn
  |succ n=>unfold ends at hn;rw[if_pos h]at hn;exact⟨n,hn⟩
 ·rintro⟨n,hn⟩
  exact⟨n+1,by unfold ends;rw[if_pos h];exact hn⟩
theorem fins_stop {p:Int} (h:nt p=false):Fins nt nx p:=⟨1,by unfold ends;rw[if_neg (by rw[h];decide)]⟩
def Goes (nt:Int→Bool) (nx:Int→Int):Nat→Int→Int→Prop
 |0,p,q=>p=q
 |n+1,p,q=>nt p=true∧Goes nt nx n (nx p) q
theorem goes_fins:∀ {n:Nat} {p q:Int},Goes nt nx n p q→(Fins nt nx p↔Fins nt nx q)
 |0,p,q,h=>by rw[show p=q from h]
 |n+1,p,q,h=>(fins_next h.1).trans (goes_fins h.2)
theorem goes_more:∀ {n:Nat} {p q:Int},Goes nt nx n p q→nt q=true→Goes nt nx (n+1) p (nx q)
 |0,p,q,h,hq=>by rw[show p=q from h];exact⟨hq,rfl⟩
 |n+1,p,q,h,hq=>⟨h.1,goes_more h.2 hq⟩
theorem goes_len:∀ {m n:Nat} {p q:Int},Goes nt nx m p q→ends nt nx n p=true→nt q=true→∃k,n=m+k∧ends nt nx k q=true
 |0,n,p,q,h,hn,_=>⟨n,by omega,by rw[←show p=q from h];exact hn⟩
 |m+1,n,p,q,h,hn,hq=>by
  cases n with
  |zero=>cases hn
  |succ n=>
   unfold ends at hn
   rw[if_pos h.1]at hn
   obtain⟨k,e,hk⟩:=goes_len h.2 hn hq
   exact⟨k,by omega,hk⟩
theorem round_no {m:Nat} {p:Int} (h:Goes nt nx (m+1) p p):¬Fins nt nx p:=by
 rintro⟨n,hn⟩
 induction n using Nat.strongRecOn with
 |ind n ih=>
  obtain⟨k,e,hk⟩:=goes_len h hn h.1
  exact ih k (by omega) hk
theorem nodup_le:∀ {l ps:List Int},l.Nodup→(∀x ∈ l,x ∈ ps)→l.length≤ps.length
 | [],_,_,_=>Nat.zero_le _
 |x :: l,ps,hn,hs=>by
  obtain⟨hx,hn⟩:=List.nodup_cons.1 hn
  have hm:=hs x (List.mem_cons_self ..)
  have:=nodup_le (l:=l) (ps:=ps.erase x) hn (fun y hy=>(List.mem_erase_of_ne (fun e=>hx (by rw[←e];exact hy))).2 (hs y (List.mem_cons_of_mem _ hy)))
  rw[List.length_erase_of_mem hm]at this
  have:0<ps.length:=List.length_pos_of_mem hm
  simp only[List.length_cons]
  omega
theorem chain_list {ps:List Int} (hc:∀p ∈ ps,nt p=true→nx p ∈ ps):∀ {n:Nat} {p:Int},p ∈ ps→ends nt nx (n+1) p=true→ends nt nx n p=false→∃l:List Int,l.length=n+1∧l.Nodup∧(∀x ∈ l,x ∈ ps)∧∀x ∈ l,ends nt nx (n+1) x=true
 |0,p,hp,h,_=>⟨[p],rfl,by simp,by simpa using hp,by simpa using h⟩
 |n+1,p,hp,h,h0=>by
  have e:nt p=true:=by
   cases e:nt p
   ·unfold ends at h0;rw[if_neg (by rw[e];decide)]at h0;cases h0
   ·rfl
  have h1:ends nt nx (n+1) (nx p)=true:=by unfold ends at h;rw[if_pos e]at h;exact h
  have h2:ends nt nx n (nx p)=false:=by unfold ends at h0;rw[if_pos e]at h0;exact h0
  obtain⟨l,a,b,c,d⟩:=chain_list hc (hc p hp e) h1 h2
  refine⟨p :: l,by simp[a],List.nodup_cons.2 ⟨fun hm => ?_,b⟩,?_,?_⟩
  ·rw[d p hm]at h0;cases h0
  ·intro x hx
   rcases List.mem_cons.1 hx with rfl|hx
   ·exact hp
   ·exact c x hx
  ·intro x hx
   rcases List.mem_cons.1 hx with rfl|hx
   ·exact h
   ·exact ends_more (d x hx)
theorem fins_len {ps:List Int} (hc:∀p ∈ ps,nt p=true→nx p ∈ ps) {p:Int} (hp:p ∈ ps) (h:Fins nt nx p):ends nt nx ps.length p=true:=by
 obtain⟨n,hn⟩:=h
 induction n using Nat.strongRecOn with
 |ind n ih=>
  cases n with
  |zero=>cases hn
  |succ n=>
   cases e:ends nt nx n p
   ·obtain⟨l,a,b,c,_⟩:=chain_list hc hp hn e
    have:=nodup_le b c
    exact ends_le hn (by omega)
   ·exact ih n (by omega) e
theorem fins_iff {ps:List Int} (hc:∀p ∈ ps,nt p=true→nx p ∈ ps) {p:Int} (hp:p ∈ ps) {n:Nat} (hn:ps.length≤n):ends nt nx n p=true↔Fins nt nx p:=⟨fun h=>⟨n,h⟩,fun h=>ends_le (fins_len hc hp h) hn⟩
end
abbrev kI (p:Int):Lit:=.int .i64 p
theorem kI_key (p:Int):WideAt.IsKeyLit (kI p):=by unfold WideAt.IsKeyLit;simp
theorem kI_ne {p q:Int} (h:p≠q):kI p≠kI q:=fun e=>h (by injection e)
abbrev nD (r:Int):DataW Unit:=.lit (.int .i64 r)
def cntN (L:List Int) (D:DataW Unit):Nat:=(L.filter (fun p => !Maps.has D (kI p))).length
theorem cntN_start (L:List Int):cntN L (.map [])=L.length:=by simp[cntN,Maps.has]
theorem filter_less {f g:Int→Bool} (h:∀x,g x=true→f x=true):∀l:List Int,(l.filter g).length≤(l.filter f).length
 | []=>Nat.le_refl _
 |x :: l=>by
  have:=filter_less h l
  cases e:g x
  ·rw[List.filter_cons_of_neg (by rw[e];decide)]
   cases e':f x
   ·rw[List.filter_cons_of_neg (by rw[e'];decide)];exact this
   ·rw[List.filter_cons_of_pos e'];simp only[List.length_cons];omega
  ·rw[List.filter_cons_of_pos e,List.filter_cons_of_pos (h x e)];simp only[List.length_cons];omega
theorem filter_one {f g:Int→Bool} (h:∀x,g x=true→f x=true) {y:Int} (hf:f y=true) (hg:g y=false):∀l:List Int,y ∈ l→(l.filter g).length+1≤(l.filter f).length
 | [],hy=>by simp at hy
 |x :: l,hy=>by
  by_cases e:x=y
  ·subst e
   rw[List.filter_cons_of_neg (by rw[hg];decide),List.filter_cons_of_pos hf]
   have:=filter_less h l
   simp only[List.length_cons];omega
  ·have hl:y ∈ l:=by
     rcases List.mem_cons.1 hy with e'|e'
     ·exact absurd e'.symm e
     ·exact e'
   have:=filter_one h hf hg l hl
   cases e1:g x
   ·rw[List.filter_cons_of_neg (by rw[e1];decide)]
    cases e2:f x
    ·rw[List.filter_cons_of_neg (by rw[e2];decide)];exact this
    ·rw[List.filter_cons_of_pos e2];simp only[List.length_cons];omega
   ·rw[List.filter_cons_of_pos e1,List.filter_cons_of_pos (h x e1)];simp only[List.length_cons];omega
theorem cntN_put {L:List Int} {D:DataW Unit} (hD:Tidy D) {p:Int} (hp:p ∈ L) (hn:Maps.has D (kI p)=false) (d:DataW Unit):cntN L (D.put (kI p) d)+1≤cntN L D:=by
 unfold cntN
 refine filter_one (fun x hx => ?_) (y:=p) (by rw[hn];rfl) (by rw[Maps.has_put_same hD.isMap (kI_key _)];rfl) L hp
 by_cases e:x=p
 ·subst e
  rw[Maps.has_put_same hD.isMap (kI_key _)]at hx;cases hx
 ·rwa [Maps.has_put_other (kI_ne e)]at hx
structure NE (nt:Int→Bool) (nx:Int→Int) (L:List Int) (k:Nat) (D:DataW Unit):Prop where
 tidy:Tidy D
 mem:∀q,Maps.has D (kI q)=true→q ∈ L
 val:∀q,Maps.has D (kI q)=true→∃r:Nat,r<k∧D.atKey (kI q) (nD 0)=nD r
 fin:∀q,Maps.has D (kI q)=true→Fins nt nx q
structure NEi (nt:Int→Bool) (nx:Int→Int) (L:List Int) (k:Nat) (D:DataW Unit) (st cur:Int):Prop where
 tidy:Tidy D
 mem:∀q,Maps.has D (kI q)=true→q ∈ L
 val:∀q,Maps.has D (kI q)=true→∃r:Nat,r≤k∧D.atKey (kI q) (nD 0)=nD r∧(r<k→Fins nt nx q)∧(r=k→∃m,Goes nt nx (m+1) q cur)
 path:∃m,Goes nt nx m st cur
section
variable {nt:Int→Bool} {nx:Int→Int} {L:List Int} {k:Nat} {D:DataW Unit} {st cur:Int}
theorem ne_start:NE nt nx L 0 (.map []) where
 tidy:=Maps.tidy_empty
 mem:=fun q h=>by simp[Maps.has]at h
 val:=fun q h=>by simp[Maps.has]at h
 fin:=fun q h=>by simp[Maps.has]at h
theorem NE.into (h:NE nt nx L k D) (st:Int):NEi nt nx L k D st st where
 tidy:=h.tidy
 mem:=h.mem
 val:=fun q hq=>by
  obtain⟨r,hr,e⟩:=h.val q hq
  exact⟨r,by omega,e,fun _=>h.fin q hq,fun e=>by omega⟩
 path:=⟨0,rfl⟩
theorem NEi.stop (h:NEi nt nx L k D st cur) (hf:Fins nt nx cur):NE nt nx L (k+1) D∧Fins nt nx st:=by
 refine⟨⟨h.tidy,h.mem,fun q hq => ?_,fun q hq => ?_⟩,?_⟩
 ·obtain⟨r,hr,e,_⟩:=h.val q hq
  exact⟨r,by omega,e⟩
 ·obtain⟨r,hr,e,h1,h2⟩:=h.val q hq
  by_cases hk:r=k
  ·obtain⟨m,hm⟩:=h2 hk
   exact (goes_fins hm).2 hf
  ·exact h1 (by omega)
 ·obtain⟨m,hm⟩:=h.path
  exact (goes_fins hm).2 hf
theorem nD_inj {a b:Int} (h:nD a=nD b):a=b:=by injection h with h;injection h
theorem NEi.round (h:NEi nt nx L k D st cur) (hh:Maps.has D (kI cur)=true) (hv:D.atKey (kI cur) (nD 0)=nD k):¬Fins nt nx st:=by
 obtain⟨r,hr,e,_,h2⟩:=h.val cur hh
 have e':=nD_inj (e.symm.trans hv)
 obtain⟨m,hm⟩:=h2 (by omega)
 obtain⟨m',hp⟩:=h.path
 exact fun hf=>round_no hm ((goes_fins hp).1 hf)
theorem NEi.old (h:NEi nt nx L k D st cur) (hh:Maps.has D (kI cur)=true) {c:Int} (hv:D.atKey (kI cur) (nD 0)=nD c) (hc:c≠k):Fins nt nx cur:=by
 obtain⟨r,hr,e,h1,_⟩:=h.val cur hh
 have e':=nD_inj (e.symm.trans hv)
 exact h1 (by omega)
theorem NEi.step (h:NEi nt nx L k D st cur) (hm:cur ∈ L) (hn:nt cur=true):NEi nt nx L k (D.put (kI cur) (nD k)) st (nx cur):=by
 refine⟨h.tidy.put (kI_key _) _,fun q hq => ?_,fun q hq => ?_,?_⟩
 ·by_cases e:q=cur
  ·rw[e];exact hm
  ·rw[Maps.has_put_other (kI_ne e)]at hq;exact h.mem q hq
 ·by_cases e:q=cur
  ·subst e
   exact⟨k,Nat.le_refl _,Maps.atKey_put_same h.tidy.isMap (kI_key _) _ _,fun e=>by omega,fun _=>⟨0,hn,rfl⟩⟩
  ·rw[Maps.has_put_other (kI_ne e)]at hq
   obtain⟨r,hr,e1,h1,h2⟩:=h.val q hq
   refine⟨r,hr,(Maps.atKey_put_other (kI_ne e) _ _).trans e1,h1,fun ek => ?_⟩
   obtain⟨m,hg⟩:=h2 ek
   exact⟨m+1,goes_more hg hn⟩
 ·obtain⟨m,hp⟩:=h.path
  exact⟨m+1,goes_more hp hn⟩
end
end Go.Proofs.YtemlagfaaibenaaGreat.hp
namespace Go.Proofs.YtemlagfaaibenaaGreat.region
open Go Go.RowKit
theorem wp_skipped {P:Program} {o:Oper} {a:Act} {w w':World} {K:Act→World→Prop} {Q:Exit→Act→World→Prop} (h:(execOp a.eval o).run P w = .ok .skip w') (hk:K (a.put o.dst undef) w'):o.wp P a w K Q:=wp_skip' h hk
section
variable {P:Program} {ops:Array Oper} {o:Oper} {D:Nat→Bool} {a0:Act} {u:Nat→Value} {W:World} {Q:Exit→Act→World→Prop} {R:World→World→Prop} {F:Value→World→Prop} {dk:Nat}
end
section
variable {P:Program} {o:Oper} {D:Nat→Bool} {a0:Act} {u:Nat→Value} {W:World} {Q:Exit→Act→World→Prop} {F:Value→World→Prop} {dk:Nat}
theorem plainV {v:Value} (hd:o.dst=some dk) (hD:D dk=true) (hrun:(execOp (ovr D a0 u).eval o).run P W = .ok (.value v) W) (hF:F v W) :
    o.wp P (ovr D a0 u) W (fun a' W'=>∃v,a'=ovr D a0 (upd u dk v)∧Below W.heap.size W W'∧F v W') Q:=wp_value hrun ⟨v,put_in hd hD u v,Below.refl _ _,hF⟩
theorem plainC {f:FuncId} {args:Array Value} (hd:o.dst=some dk) (hD:D dk=true) (hrun:(execOp (ovr D a0 u).eval o).run P W = .ok (.enter f args) W) (hc:Calls P f args W fun e w'=>∃v,e = .returned v∧Below W.heap.size W w'∧F v w') :
    o.wp P (ovr D a0 u) W (fun a' W'=>∃v,a'=ovr D a0 (upd u dk v)∧Below W.heap.size W W'∧F v W') Q:=wp_call hrun (hc.mono fun _ _ ⟨v,he,h1,h2⟩=>⟨v,he,v,put_in hd hD u v,h1,h2⟩)
theorem plainS {W':World} (hd:o.dst=none) (hrun:(execOp (ovr D a0 u).eval o).run P W = .ok .skip W') (hQ:Q .normal (ovr D a0 u) W') :
    o.wp P (ovr D a0 u) W (fun a' W'=>∃u',a'=ovr D a0 u'∧Q .normal (ovr D a0 u') W') Q:=wp_skipped hrun ⟨u,put_no hd u undef,hQ⟩
end
theorem wp_region_last {P:Program} {id:Nat} {ops:Array Oper} {Q:Exit→Act→World→Prop} {a0:Act} {w:World} (hm:P.follows .mixedOrders=true) (D:Nat→Bool)
    (hg:∀o ∈ ops,o.guard=none) (hacyc:∀(k:Nat) (o:Oper),ops[k]? = some o→∀e ∈ o.after,e.on<k) (n:Nat) (hn:ops.size=n+1) (dst:Nat→Nat) (hinj:∀k,k<n→∀j,j<n→dst j=dst k→j=k)
    (F:Nat→Value→World→Prop) (hst:∀k t W W',Below W.heap.size W W'→F k t W→F k t W')
    (hall:∀l:Nat→Bool,(∀k o,ops[k]? = some o→(k<n→l k=true)→∀e ∈ o.after,Region.binds .any e=true→l e.on=true)→∀j,j<n→l j=true)
    (step:∀k o u W,k<n→ops[k]? = some o→Below w.heap.size w W→(∀j,j<n→(∃e ∈ o.after,e.on=j∧Region.binds .any e=true)→F j (u (dst j)) W)→o.wp P (ovr D a0 u) W (fun a' W'=>∃v,a'=ovr D a0 (upd u (dst k) v)∧Below W.heap.size W W'∧F k v W') Q)
    (last:∀o u W,ops[n]? = some o→Below w.heap.size w W→(∀j,j<n→F j (u (dst j)) W)→o.wp P (ovr D a0 u) W (fun a' W'=>∃u',a'=ovr D a0 u'∧Q .normal (ovr D a0 u') W') Q) :
    (Code.region id ops true).wp P Q a0 w:=by
 refine wp_region_facts hm D hg hacyc (fun l u W=>(l.getD n false=false∧Below w.heap.size w W∧(∀k o,k<n→l.getD k false=true→ops[k]? = some o→∀e ∈ o.after,Region.binds .any e=true→l.getD e.on false=true)∧∀k,k<n→l.getD k false=true→F k (u (dst k)) W)∨((∀k,k<n+1→l.getD k false=true)∧Q .normal (ovr D a0 u) W)) (.inl ⟨?_,(Below.refl _ w).drew,fun k o hk h => ?_,fun k hk h => ?_⟩) ?_ ?_
 ·simp[Array.getD,hn]
 ·simp[Array.getD,hn,show k<n+1 by omega]at h
 ·simp[Array.getD,hn,show k<n+1 by omega]at h
 ·rintro l u W (⟨h1,_⟩|⟨_,h⟩) hA
  ·rw[hA n (by omega)]at h1
   cases h1
  ·exact h
 ·rintro l u W k o (⟨h1,hB,hC,hF⟩|⟨hA,_⟩) hl hlk ho hd
  case inr=>
   have hk:k<n+1:=by rw[←hn];exact (Array.getElem?_eq_some_iff.1 ho).1
   rw[hA k hk]at hlk
   cases hlk
  have hk:k<n+1:=by rw[←hn];exact (Array.getElem?_eq_some_iff.1 ho).1
  by_cases e:k=n
  ·subst e
   have hA:∀j,j<k→l.getD j false=true:=hall (fun j=>l.getD j false) (fun j o' ho' hj e he hb=>by
    have hj1:j<k+1:=by rw[←hn];exact (Array.getElem?_eq_some_iff.1 ho').1
    by_cases e2:j=k
    ·subst e2
     rw[ho]at ho'
     injection ho' with ho'
     subst ho'
     exact hd e he hb
    ·exact hC j o' (by omega) (hj (by omega)) ho' e he hb)
   refine Oper.wp_mono ?_ (last o u W ho hB (fun j hj=>hF j hj (hA j hj)))
   rintro a' W' ⟨u',rfl,h⟩
   refine⟨u',rfl,.inr ⟨fun j hj => ?_,h⟩⟩
   by_cases e:j=k
   ·subst e;exact listed_ne (by omega)
   ·rw[getD_other l (Ne.symm e)];exact hA j (by omega)
  ·have hk':k<n:=by omega
   refine Oper.wp_mono ?_ (step k o u W hk' ho hB (fun j hj ⟨e,he,e1,hb⟩=>hF j hj (by rw[←e1];exact hd e he hb)))
   rintro a' W' ⟨v,rfl,hb,hv⟩
   refine⟨_,rfl,.inl ⟨?_,hB.trans (hb.mono hB.size),?_,?_⟩⟩
   ·rw[getD_other l e];exact h1
   ·intro j o' hj hlj ho' e' he' hb'
    by_cases e2:k=e'.on
    ·rw[←e2];exact listed_ne (by omega)
    ·rw[getD_other l e2]
     by_cases e3:k=j
     ·subst e3
      rw[ho]at ho'
      injection ho' with ho'
      subst ho'
      exact hd e' he' hb'
     ·rw[getD_other l e3]at hlj
      exact hC j o' hj hlj ho' e' he' hb'
   ·exact facts_put (dst:=dst) (hinj k hk') hF (fun j _ _ _ t=>hst j t W W' hb) hv
end Go.Proofs.YtemlagfaaibenaaGreat.region
namespace Go.Proofs.YtemlagfaaibenaaGreat.region
open Go
theorem all_listed' {ops:Array Oper} {l:Array Bool} (hacyc:∀(k:Nat) (o:Oper),ops[k]? = some o→∀e ∈ o.after,Region.binds .any e=true→e.on<k) (hl:l.size=ops.size) (h:Region.ready .any ops l=[]):∀k,k<ops.size→l.getD k false=true:=by
 intro k
 induction k using Nat.strongRecOn with
 |ind k ih=>
  intro hk
  have hl':k<l.size:=by omega
  cases hv:l.getD k false with
  |true=>rfl
  |false=>
   have h1:l.getD k true=false:=by
    simp only[Array.getD,hl',dite_true]at hv ⊢
    exact hv
   have:k ∈ Region.ready .any ops l:=mem_ready.2 ⟨h1,ops[k],Array.getElem?_eq_getElem hk,fun e he hb=>ih e.on (hacyc k _ (Array.getElem?_eq_getElem hk) e he hb) (by have:=hacyc k _ (Array.getElem?_eq_getElem hk) e he hb;omega)⟩
   rw[h]at this
   cases this
theorem wp_region_bind {P:Program} {id:Nat} {ops:Array Oper} {Q:Exit→Act→World→Prop} {a0:Act} {w:World} (hm:P.follows .mixedOrders=true) (D:Nat→Bool)
    (hg:∀o ∈ ops,o.guard=none) (hacyc:∀(k:Nat) (o:Oper),ops[k]? = some o→∀e ∈ o.after,Region.binds .any e=true→e.on<k)
    (I:Array Bool→(Nat→Value)→World→Prop)
    (start:I (Array.replicate ops.size false) (fun s=>a0.tmps.getD s undef) w.drew)
    (fin:∀l u w,I l u w→(∀k,k<ops.size→l.getD k false=true)→Q .normal (ovr D a0 u) w)
    (stp:∀l u w k o,I l u w→l.size=ops.size→l.getD k false=false→ops[k]? = some o→(∀e ∈ o.after,Region.binds .any e=true→l.getD e.on false=true) →
     o.wp P (ovr D a0 u) w (fun a' w'=>∃u',a'=ovr D a0 u'∧I (l.setIfInBounds k true) u' w') Q):(Code.region id ops true).wp P Q a0 w:=by
 refine wp_region_inv hm (fun l a w=>l.size=ops.size∧∃u,a=ovr D a0 u∧I l u w) ⟨by simp,_,(ovr_self D a0).symm,start⟩ ?_ ?_
 ·rintro l a w ⟨hl,u,rfl,h⟩ hr
  exact fin l u w h (all_listed' hacyc hl hr)
 ·rintro l a w i ⟨hl,u,rfl,h⟩ hi
  obtain⟨h1,o,ho,hd⟩:=mem_ready.1 hi
  have hi':i<ops.size:=(Array.getElem?_eq_some_iff.1 ho).1
  have h1':l.getD i false=false:=by
   have hl':i<l.size:=by omega
   simp only[Array.getD,hl',dite_true]at h1 ⊢
   exact h1
  have hgo:=hg o (Array.mem_of_getElem? ho)
  unfold wpOp
  rw[ho]
  simp only
  rw[if_pos (by simp[Region.wanted,hgo])]
  refine .inl (Oper.wp_mono (fun a' w' h' => ?_) (stp l u w i o h hl h1' ho hd))
  obtain⟨u',e,h'⟩:=h'
  exact⟨by simpa using hl,u',e,h'⟩
end Go.Proofs.YtemlagfaaibenaaGreat.region
namespace Go.Proofs.YtemlagfaaibenaaGreat.region
open Go Go.RowKit
theorem wp_region_guardedB {P:Program} {id:Nat} {ops:Array Oper} {Q:Exit→Act→World→Prop} {a0:Act} {w:World} (hm:P.follows .mixedOrders=true) (D:Nat→Bool) (R:World→World→Prop) (Rtr:∀a b c,R a b→R b c→R a c) (Rdr:R w w.drew)
    (hacyc:∀(k:Nat) (o:Oper),ops[k]? = some o→∀e ∈ o.after,Region.binds .any e=true→e.on<k) (n:Nat) (hn:ops.size=n) (dst:Nat→Nat) (hinj:∀k,k<n→∀j,j<n→dst j=dst k→j=k)
    (F:Nat→Value→World→Prop) (hst:∀k t W W',R W W'→F k t W→F k t W')
    (step:∀k o u W,k<n→ops[k]? = some o→R w W→(∀j,j<n→(∃e ∈ o.after,e.on=j∧Region.binds .any e=true)→F j (u (dst j)) W) →
     (Region.wanted o (yielded ops (ovr D a0 u).tmps)=true∧o.wp P (ovr D a0 u) W (fun a' W'=>∃v,a'=ovr D a0 (upd u (dst k) v)∧R W W'∧F k v W') Q) ∨
     (Region.wanted o (yielded ops (ovr D a0 u).tmps)=false∧o.dst=some (dst k)∧D (dst k)=true∧F k undef W))
    (fin:∀u W,R w W→(∀j,j<n→F j (u (dst j)) W)→Q .normal (ovr D a0 u) W) :
    (Code.region id ops true).wp P Q a0 w:=by
 refine wp_region_inv hm (fun l a W=>l.size=ops.size∧∃u,a=ovr D a0 u∧R w W∧∀k,k<n→l.getD k false=true→F k (u (dst k)) W) ⟨by simp,_,(ovr_self D a0).symm,Rdr,fun k hk h => ?_⟩ ?_ ?_
 ·simp[Array.getD,hn,hk]at h
 ·rintro l a W ⟨hl,u,rfl,hB,hF⟩ hr
  have hA:=all_listed' hacyc hl hr
  exact fin u W hB fun j hj=>hF j hj (hA j (by omega))
 ·rintro l a W i ⟨hl,u,rfl,hB,hF⟩ hi
  obtain⟨h1,o,ho,hd⟩:=mem_ready.1 hi
  have hi':i<n:=by rw[←hn];exact (Array.getElem?_eq_some_iff.1 ho).1
  unfold wpOp
  rw[ho]
  simp only
  rcases step i o u W hi' ho hB (fun j hj ⟨e,he,e1,hb⟩=>hF j hj (by rw[←e1];exact hd e he hb)) with ⟨hw,h⟩|⟨hw,hds,hD,h⟩
  ·rw[if_pos hw]
   refine .inl (Oper.wp_mono (fun a' W' h' => ?_) h)
   obtain⟨v,rfl,hR,hv⟩:=h'
   exact⟨by simpa using hl,_,rfl,Rtr _ _ _ hB hR,facts_put (dst:=dst) (hinj i hi') hF (fun j _ _ _ t=>hst j t W W' hR) hv⟩
  ·rw[if_neg (by rw[hw];simp)]
   refine⟨by simpa using hl,upd u (dst i) undef,?_,hB,facts_put (dst:=dst) (hinj i hi') hF (fun j _ _ _ t ht=>ht) h⟩
   rw[hds]
   exact ovr_put hD
section
variable {P:Program} {ops:Array Oper} {o:Oper} {D:Nat→Bool} {a0:Act} {u:Nat→Value} {W:World} {Q:Exit→Act→World→Prop} {R:World→World→Prop} {F:Value→World→Prop} {dk:Nat}
theorem tellVw {v:Value} (hw:Region.wanted o (yielded ops (ovr D a0 u).tmps)=true) (hd:o.dst=some dk) (hD:D dk=true) (hrun:(execOp (ovr D a0 u).eval o).run P W = .ok (.value v) W) (hR:R W W) (hF:F v W) :
    (Region.wanted o (yielded ops (ovr D a0 u).tmps)=true∧o.wp P (ovr D a0 u) W (fun a' W'=>∃v,a'=ovr D a0 (upd u dk v)∧R W W'∧F v W') Q)∨(Region.wanted o (yielded ops (ovr D a0 u).tmps)=false∧o.dst=some dk∧D dk=true∧F undef W):=
 .inl ⟨hw,wp_value hrun ⟨v,put_in hd hD u v,hR,hF⟩⟩
theorem tellCw {f:FuncId} {args:Array Value} (hw:Region.wanted o (yielded ops (ovr D a0 u).tmps)=true) (hd:o.dst=some dk) (hD:D dk=true) (hrun:(execOp (ovr D a0 u).eval o).run P W = .ok (.enter f args) W) (hc:Calls P f args W fun e w'=>∃v,e = .returned v∧R W w'∧F v w') :
    (Region.wanted o (yielded ops (ovr D a0 u).tmps)=true∧o.wp P (ovr D a0 u) W (fun a' W'=>∃v,a'=ovr D a0 (upd u dk v)∧R W W'∧F v W') Q)∨(Region.wanted o (yielded ops (ovr D a0 u).tmps)=false∧o.dst=some dk∧D dk=true∧F undef W):=
 .inl ⟨hw,wp_call hrun (hc.mono fun _ _ ⟨v,he,h1,h2⟩=>⟨v,he,v,put_in hd hD u v,h1,h2⟩)⟩
end
def RelG (a b:World):Prop:=Below a.heap.size a b
theorem relG_refl (a:World):RelG a a:=Below.refl _ _
theorem relG_trans (a b c:World) (h:RelG a b) (g:RelG b c):RelG a c:=Below.trans h (Below.mono g (Below.size h))
theorem relG_drew (a:World):RelG a a.drew:=(Below.refl _ _).drew
end Go.Proofs.YtemlagfaaibenaaGreat.region
namespace Go.Proofs.YtemlagfaaibenaaGreat.region
open Go
theorem onceV {P:Program} {o:Oper} {D:Nat→Bool} {a0:Act} {u:Nat→Value} {W:World} {Q:Exit→Act→World→Prop} {F:Value→Prop} {dk:Nat} {v:Value} (hd:o.dst=some dk) (hD:D dk=true) (hrun:(execOp (ovr D a0 u).eval o).run P W = .ok (.value v) W) (hF:F v) :
    o.wp P (ovr D a0 u) W (fun a' W'=>∃v,a'=ovr D a0 (upd u dk v)∧W'=W∧F v) Q:=wp_value hrun ⟨v,put_in hd hD u v,rfl,hF⟩
theorem onceC {P:Program} {o:Oper} {D:Nat→Bool} {a0:Act} {u:Nat→Value} {W:World} {Q:Exit→Act→World→Prop} {F:Value→Prop} {B:World→Prop} {dk:Nat} {f:FuncId} {args:Array Value} (hd:o.dst=some dk) (hD:D dk=true) (hrun:(execOp (ovr D a0 u).eval o).run P W = .ok (.enter f args) W) (hc:Calls P f args W fun e w'=>∃v,e = .returned v∧B w'∧F v) :
    o.wp P (ovr D a0 u) W (fun a' W'=>∃v,a'=ovr D a0 (upd u dk v)∧B W'∧F v) Q:=wp_call hrun (hc.mono fun _ _ ⟨v,he,h1,h2⟩=>⟨v,he,v,put_in hd hD u v,h1,h2⟩)
theorem upd_eq (u:Nat→Value) (d:Nat) (v:Value):upd u d v d=v:=by simp[upd]
theorem upd_ne {u:Nat→Value} {d c:Nat} {v:Value} (h:c≠d):upd u d v c=u c:=by simp[upd,h]
theorem threeW {P:Program} {o:Oper} {D:Nat→Bool} {a0:Act} {u:Nat→Value} {W W':World} {Q:Exit→Act→World→Prop} {A:Value→World→Prop} {F:Value→Prop} {dk:Nat} {v:Value} (hd:o.dst=some dk) (hD:D dk=true) (hrun:(execOp (ovr D a0 u).eval o).run P W = .ok (.value v) W') (hA:A v W') (hF:F v) :
    o.wp P (ovr D a0 u) W (fun a' W'=>∃v,a'=ovr D a0 (upd u dk v)∧A v W'∧F v) Q:=wp_value hrun ⟨v,put_in hd hD u v,hA,hF⟩
theorem threeC {P:Program} {o:Oper} {D:Nat→Bool} {a0:Act} {u:Nat→Value} {W:World} {Q:Exit→Act→World→Prop} {A:Value→World→Prop} {F:Value→Prop} {dk:Nat} {f:FuncId} {args:Array Value} (hd:o.dst=some dk) (hD:D dk=true) (hrun:(execOp (ovr D a0 u).eval o).run P W = .ok (.enter f args) W) (hc:Calls P f args W fun e w'=>∃v,e = .returned v∧A v w'∧F v) :
    o.wp P (ovr D a0 u) W (fun a' W'=>∃v,a'=ovr D a0 (upd u dk v)∧A v W'∧F v) Q:=wp_call hrun (hc.mono fun _ _ ⟨v,he,h1,h2⟩=>⟨v,he,v,put_in hd hD u v,h1,h2⟩)
theorem wp_region_fourE {P:Program} {id:Nat} {ops:Array Oper} {Q:Exit→Act→World→Prop} {a0:Act} {w:World} (hm:P.follows .mixedOrders=true) (D:Nat→Bool)
    (hg:∀o ∈ ops,o.guard=none) (hacyc:∀(k:Nat) (o:Oper),ops[k]? = some o→∀e ∈ o.after,Region.binds .any e=true→e.on<k) (n c1 c2 c3 c4:Nat) (hn:ops.size=n+1) (h1n:c1<n) (h2n:c2<n) (h3n:c3<n) (h4n:c4<n) (h12:c1≠c2) (h13:c1≠c3) (h14:c1≠c4) (h23:c2≠c3) (h24:c2≠c4) (h34:c3≠c4) (dst:Nat→Nat) (hinj:∀k,k<n→∀j,j<n→dst j=dst k→j=k)
    (F:Nat→Value→Prop) (A0:World→Prop) (A1 A2 A3 A4:Value→World→Prop) (hA:A0 w.drew)
    (AE:World→Prop) (hend:∀u W,AE W→Q .normal (ovr D a0 u) W)
    (he5:∀o,ops[n]? = some o→∃e ∈ o.after,e.on=c4∧Region.binds .any e=true)
    (he2:∀o,ops[c2]? = some o→∃e ∈ o.after,e.on=c1∧Region.binds .any e=true)
    (he3:∀o,ops[c3]? = some o→∃e ∈ o.after,e.on=c2∧Region.binds .any e=true)
    (he4:∀o,ops[c4]? = some o→∃e ∈ o.after,e.on=c3∧Region.binds .any e=true)
    (step:∀k o u W,k<n→k≠c1→k≠c2→k≠c3→k≠c4→ops[k]? = some o→(A0 W∨A1 (u (dst c1)) W∨A2 (u (dst c2)) W∨A3 (u (dst c3)) W∨A4 (u (dst c4)) W∨AE W)→(∀j,j<n→(∃e ∈ o.after,e.on=j∧Region.binds .any e=true)→F j (u (dst j)))→o.wp P (ovr D a0 u) W (fun a' W'=>∃v,a'=ovr D a0 (upd u (dst k) v)∧W'=W∧F k v) Q)
    (call1:∀o u W,ops[c1]? = some o→A0 W→(∀j,j<n→(∃e ∈ o.after,e.on=j∧Region.binds .any e=true)→F j (u (dst j)))→o.wp P (ovr D a0 u) W (fun a' W'=>∃v,a'=ovr D a0 (upd u (dst c1) v)∧A1 v W'∧F c1 v) Q)
    (call2:∀o u W,ops[c2]? = some o→A1 (u (dst c1)) W→(∀j,j<n→(∃e ∈ o.after,e.on=j∧Region.binds .any e=true)→F j (u (dst j)))→o.wp P (ovr D a0 u) W (fun a' W'=>∃v,a'=ovr D a0 (upd u (dst c2) v)∧A2 v W'∧F c2 v) Q)
    (call3:∀o u W,ops[c3]? = some o→A2 (u (dst c2)) W→(∀j,j<n→(∃e ∈ o.after,e.on=j∧Region.binds .any e=true)→F j (u (dst j)))→o.wp P (ovr D a0 u) W (fun a' W'=>∃v,a'=ovr D a0 (upd u (dst c3) v)∧A3 v W'∧F c3 v) Q)
    (call4:∀o u W,ops[c4]? = some o→A3 (u (dst c3)) W→(∀j,j<n→(∃e ∈ o.after,e.on=j∧Region.binds .any e=true)→F j (u (dst j)))→o.wp P (ovr D a0 u) W (fun a' W'=>∃v,a'=ovr D a0 (upd u (dst c4) v)∧A4 v W'∧F c4 v) Q)
    (last:∀o u W,ops[n]? = some o→A4 (u (dst c4)) W→(∀j,j<n→(∃e ∈ o.after,e.on=j∧Region.binds .any e=true)→F j (u (dst j)))→o.wp P (ovr D a0 u) W (fun a' W'=>∃u',a'=ovr D a0 u'∧u'=u∧AE W') Q) :
    (Code.region id ops true).wp P Q a0 w:=by
 refine wp_region_bind hm D hg hacyc (fun l u W=>(l.getD n false=false∧(l.getD c1 false=false→l.getD c2 false=false)∧(l.getD c2 false=false→l.getD c3 false=false)∧(l.getD c3 false=false→l.getD c4 false=false)∧(l.getD c1 false=false→A0 W)∧(l.getD c1 false=true→l.getD c2 false=false→A1 (u (dst c1)) W)∧(l.getD c2 false=true→l.getD c3 false=false→A2 (u (dst c2)) W)∧(l.getD c3 false=true→l.getD c4 false=false→A3 (u (dst c3)) W)∧(l.getD c4 false=true→A4 (u (dst c4)) W)∧∀k,k<n→l.getD k false=true→F k (u (dst k)))∨(l.getD n false=true∧l.getD c1 false=true∧l.getD c2 false=true∧l.getD c3 false=true∧l.getD c4 false=true∧AE W∧∀k,k<n→l.getD k false=true→F k (u (dst k)))) (.inl ⟨?_,fun _ => ?_,fun _ => ?_,fun _ => ?_,fun _=>hA,fun h => ?_,fun h => ?_,fun h => ?_,fun h => ?_,fun k hk h => ?_⟩) ?_ ?_
 ·simp[Array.getD,hn]
 ·simp[Array.getD,hn]
 ·simp[Array.getD,hn]
 ·simp[Array.getD,hn]
 ·simp[Array.getD,hn,show c1<n+1 by omega]at h
 ·simp[Array.getD,hn,show c2<n+1 by omega]at h
 ·simp[Array.getD,hn,show c3<n+1 by omega]at h
 ·simp[Array.getD,hn,show c4<n+1 by omega]at h
 ·simp[Array.getD,hn,show k<n+1 by omega]at h
 ·rintro l u W (⟨h1,_⟩|⟨_,_,_,_,_,h,_⟩) hA
  ·rw[hA n (by omega)]at h1
   cases h1
  ·exact hend u W h
 ·rintro l u W k o (⟨h1,k12,k23,k34,B0,B1,B2,B3,B4,hF⟩|⟨hln,q1,q2,q3,q4,hE,hF⟩) hl hlk ho hd
  case inr=>
   have hk:k<n+1:=by rw[←hn];exact (Array.getElem?_eq_some_iff.1 ho).1
   have nk:k≠n:=fun e=>by rw[e,hln]at hlk;cases hlk
   have n1:k≠c1:=fun e=>by rw[e,q1]at hlk;cases hlk
   have n2:k≠c2:=fun e=>by rw[e,q2]at hlk;cases hlk
   have n3:k≠c3:=fun e=>by rw[e,q3]at hlk;cases hlk
   have n4:k≠c4:=fun e=>by rw[e,q4]at hlk;cases hlk
   have hk':k<n:=by omega
   refine Oper.wp_mono ?_ (step k o u W hk' n1 n2 n3 n4 ho (.inr (.inr (.inr (.inr (.inr hE))))) (fun j hj ⟨e,he,e1,hb⟩=>hF j hj (by rw[←e1];exact hd e he hb)))
   rintro a' W' ⟨v,rfl,rfl,hv⟩
   exact⟨_,rfl,.inr ⟨by rw[getD_other l nk];exact hln,by rw[getD_other l n1];exact q1,by rw[getD_other l n2];exact q2,by rw[getD_other l n3];exact q3,by rw[getD_other l n4];exact q4,hE,facts_put (dst:=dst) (F:=fun k t _=>F k t) (w:=W') (w':=W') (hinj k hk') hF (fun j _ _ _ t z=>z) hv⟩⟩
  have hk:k<n+1:=by rw[←hn];exact (Array.getElem?_eq_some_iff.1 ho).1
  by_cases e:k=n
  ·subst e
   have l4:l.getD c4 false=true:=by
    obtain⟨e,he,e1,hb⟩:=he5 o ho
    rw[←e1];exact hd e he hb
   have l3:l.getD c3 false=true:=by
    cases hh:l.getD c3 false
    ·rw[k34 hh]at l4;cases l4
    ·rfl
   have l2:l.getD c2 false=true:=by
    cases hh:l.getD c2 false
    ·rw[k23 hh]at l3;cases l3
    ·rfl
   have l1:l.getD c1 false=true:=by
    cases hh:l.getD c1 false
    ·rw[k12 hh]at l2;cases l2
    ·rfl
   refine Oper.wp_mono ?_ (last o u W ho (B4 l4) (fun j hj ⟨e,he,e1,hb⟩=>hF j hj (by rw[←e1];exact hd e he hb)))
   rintro a' W' ⟨u',rfl,rfl,h⟩
   refine⟨_,rfl,.inr ⟨listed_ne (by omega),by rw[getD_other l (by omega)];exact l1,by rw[getD_other l (by omega)];exact l2,by rw[getD_other l (by omega)];exact l3,by rw[getD_other l (by omega)];exact l4,h,fun j hj hlj => ?_⟩⟩
   rw[getD_other l (by omega)]at hlj
   exact hF j hj hlj
  ·have hk':k<n:=by omega
   have hfd:∀j,j<n→(∃e ∈ o.after,e.on=j∧Region.binds .any e=true)→F j (u (dst j)):=fun j hj ⟨e,he,e1,hb⟩=>hF j hj (by rw[←e1];exact hd e he hb)
   have hput:∀ {v:Value},F k v→∀j,j<n→(l.set! k true).getD j false=true→F j ((upd u (dst k) v) (dst j)):=fun {v} hv=>facts_put (dst:=dst) (F:=fun k t _=>F k t) (w:=W) (w':=W) (hinj k hk') hF (fun j _ _ _ t z=>z) hv
   have dne:∀c,c<n→c≠k→∀v,(upd u (dst k) v) (dst c)=u (dst c):=fun c hc hck v=>upd_ne (fun e=>hck (hinj k hk' c hc e))
   by_cases ec1:k=c1
   ·subst ec1
    have l2:=k12 hlk
    have l3:=k23 l2
    have l4:=k34 l3
    refine Oper.wp_mono ?_ (call1 o u W ho (B0 hlk) hfd)
    rintro a' W' ⟨v,rfl,hb,hv⟩
    refine⟨_,rfl,.inl ⟨?_,fun h => ?_,fun _ => ?_,fun _ => ?_,fun h => ?_,fun _ _ => ?_,fun h => ?_,fun h => ?_,fun h => ?_,hput hv⟩⟩
    ·rw[getD_other l e];exact h1
    ·rw[listed_ne (by omega)]at h;cases h
    ·rw[getD_other l h13];exact l3
    ·rw[getD_other l h14];exact l4
    ·rw[listed_ne (by omega)]at h;cases h
    ·rw[upd_eq];exact hb
    ·rw[getD_other l h12,l2]at h;cases h
    ·rw[getD_other l h13,l3]at h;cases h
    ·rw[getD_other l h14,l4]at h;cases h
   ·skip
    by_cases ec2:k=c2
    ·subst ec2
     have l1:l.getD c1 false=true:=by
      obtain⟨e,he,e1,hb⟩:=he2 o ho
      rw[←e1];exact hd e he hb
     have l3:=k23 hlk
     have l4:=k34 l3
     refine Oper.wp_mono ?_ (call2 o u W ho (B1 l1 hlk) hfd)
     rintro a' W' ⟨v,rfl,hb,hv⟩
     refine⟨_,rfl,.inl ⟨?_,fun h => ?_,fun h => ?_,fun _ => ?_,fun h => ?_,fun _ h => ?_,fun _ _ => ?_,fun h => ?_,fun h => ?_,hput hv⟩⟩
     ·rw[getD_other l e];exact h1
     ·rw[getD_other l (Ne.symm h12),l1]at h;cases h
     ·rw[listed_ne (by omega)]at h;cases h
     ·rw[getD_other l h24];exact l4
     ·rw[getD_other l (Ne.symm h12),l1]at h;cases h
     ·rw[listed_ne (by omega)]at h;cases h
     ·rw[upd_eq];exact hb
     ·rw[getD_other l h23,l3]at h;cases h
     ·rw[getD_other l h24,l4]at h;cases h
    ·skip
     by_cases ec3:k=c3
     ·subst ec3
      have l2:l.getD c2 false=true:=by
       obtain⟨e,he,e1,hb⟩:=he3 o ho
       rw[←e1];exact hd e he hb
      have l1:l.getD c1 false=true:=by
       cases hh:l.getD c1 false
       ·rw[k12 hh]at l2;cases l2
       ·rfl
      have l4:=k34 hlk
      refine Oper.wp_mono ?_ (call3 o u W ho (B2 l2 hlk) hfd)
      rintro a' W' ⟨v,rfl,hb,hv⟩
      refine⟨_,rfl,.inl ⟨?_,fun h => ?_,fun h => ?_,fun h => ?_,fun h => ?_,fun _ h => ?_,fun _ h => ?_,fun _ _ => ?_,fun h => ?_,hput hv⟩⟩
      ·rw[getD_other l e];exact h1
      ·rw[getD_other l (Ne.symm h13),l1]at h;cases h
      ·rw[getD_other l (Ne.symm h23),l2]at h;cases h
      ·rw[listed_ne (by omega)]at h;cases h
      ·rw[getD_other l (Ne.symm h13),l1]at h;cases h
      ·rw[getD_other l (Ne.symm h23),l2]at h;cases h
      ·rw[listed_ne (by omega)]at h;cases h
      ·rw[upd_eq];exact hb
      ·rw[getD_other l h34,l4]at h;cases h
     ·skip
      by_cases ec4:k=c4
      ·subst ec4
       have l3:l.getD c3 false=true:=by
        obtain⟨e,he,e1,hb⟩:=he4 o ho
        rw[←e1];exact hd e he hb
       have l2:l.getD c2 false=true:=by
        cases hh:l.getD c2 false
        ·rw[k23 hh]at l3;cases l3
        ·rfl
       have l1:l.getD c1 false=true:=by
        cases hh:l.getD c1 false
        ·rw[k12 hh]at l2;cases l2
        ·rfl
       refine Oper.wp_mono ?_ (call4 o u W ho (B3 l3 hlk) hfd)
       rintro a' W' ⟨v,rfl,hb,hv⟩
       refine⟨_,rfl,.inl ⟨?_,fun h => ?_,fun h => ?_,fun h => ?_,fun h => ?_,fun _ h => ?_,fun _ h => ?_,fun _ h => ?_,fun _ => ?_,hput hv⟩⟩
       ·rw[getD_other l e];exact h1
       ·rw[getD_other l (Ne.symm h14),l1]at h;cases h
       ·rw[getD_other l (Ne.symm h24),l2]at h;cases h
       ·rw[getD_other l (Ne.symm h34),l3]at h;cases h
       ·rw[getD_other l (Ne.symm h14),l1]at h;cases h
       ·rw[getD_other l (Ne.symm h24),l2]at h;cases h
       ·rw[getD_other l (Ne.symm h34),l3]at h;cases h
       ·rw[listed_ne (by omega)]at h;cases h
       ·rw[upd_eq];exact hb
      ·skip
       have hAB:A0 W∨A1 (u (dst c1)) W∨A2 (u (dst c2)) W∨A3 (u (dst c3)) W∨A4 (u (dst c4)) W∨AE W:=by
        cases hh1:l.getD c1 false
        ·exact .inl (B0 hh1)
        ·skip
         cases hh2:l.getD c2 false
         ·exact .inr (.inl (B1 hh1 hh2))
         ·skip
          cases hh3:l.getD c3 false
          ·exact .inr (.inr (.inl (B2 hh2 hh3)))
          ·skip
           cases hh4:l.getD c4 false
           ·exact .inr (.inr (.inr (.inl (B3 hh3 hh4))))
           ·exact .inr (.inr (.inr (.inr (.inl (B4 hh4)))))
       refine Oper.wp_mono ?_ (step k o u W hk' ec1 ec2 ec3 ec4 ho hAB hfd)
       rintro a' W' ⟨v,rfl,rfl,hv⟩
       refine⟨_,rfl,.inl ⟨?_,fun h => ?_,fun h => ?_,fun h => ?_,fun h=>B0 ?_,fun h h' => ?_,fun h h' => ?_,fun h h' => ?_,fun h => ?_,hput hv⟩⟩
       ·rw[getD_other l e];exact h1
       ·rw[getD_other l ec1]at h;rw[getD_other l ec2];exact k12 h
       ·rw[getD_other l ec2]at h;rw[getD_other l ec3];exact k23 h
       ·rw[getD_other l ec3]at h;rw[getD_other l ec4];exact k34 h
       ·rwa [getD_other l ec1]at h
       ·rw[dne c1 h1n (Ne.symm ec1)];rw[getD_other l ec1]at h;rw[getD_other l ec2]at h';exact B1 h h'
       ·rw[dne c2 h2n (Ne.symm ec2)];rw[getD_other l ec2]at h;rw[getD_other l ec3]at h';exact B2 h h'
       ·rw[dne c3 h3n (Ne.symm ec3)];rw[getD_other l ec3]at h;rw[getD_other l ec4]at h';exact B3 h h'
       ·rw[dne c4 h4n (Ne.symm ec4)];rw[getD_other l ec4]at h;exact B4 h
end Go.Proofs.YtemlagfaaibenaaGreat.region
