/-
  Lists of entries (a number and a text) in memory: what may be read of one (EntsAt); a row of the call's own (OwnE). How much a list of entries holds, as the laws reckon it. 'copy' and 'clear' on slices whose elements take more than one cell. What the program asks of a row, and a piece cut off one. W
-/
import Derived.Test.YtkiognecebgaiaaGreatDoorM1
import Derived.Test.YtkiognecebgaiaaGreatDoorProg
import Derived.Laws.CopyOwn
import Derived.Deep.RegionLaw
import Derived.Deep.Cut
import Derived.Deep.CutRange
import Derived.Maps.OwnSet
namespace Go.Proofs.YtkiognecebgaiaaGreatDoor.ents
open Go.RowKit rows
abbrev Ent:=Int×ByteArray
abbrev ev (e:Ent):Value:=.agg #[.int .i64 e.1,.string e.2]
end Go.Proofs.YtkiognecebgaiaaGreatDoor.ents
namespace Go.Proofs.YtkiognecebgaiaaGreatDoor.copyk
open Go.RowKit
theorem run_clear_k {P:Program} (w:World) (t e ty:TypeId) (z:Value) (sz:Nat) (hu:P.underlying t=some (.slice e)) (hv:∀w,(zeroValue e).run P w = .ok z w)
    (ap:Option Addr) (n c:Nat) (g off:Nat) (cur:List Value) (ct:TypeId) (hg:w.heap[g]? = some (.cells cur.toArray ct (0,0))) (hpos:0<n→ap=some ⟨g,off,none⟩)
    (hl:(Builtin.zeroCells z.cells n).toList.length=n*sz) (h1:∀v ∈ (Builtin.zeroCells z.cells n).toList,v.oneCell'=true) (hfit:off+n*sz≤cur.length) :
    ∃w',(Builtin.clear_ #[t] ty #[.slice ap n c]).run P w = .ok (.tuple #[]) w'∧w'.heap[g]? = some (.cells (if n=0 then cur else splice cur off (Builtin.zeroCells z.cells n).toList).toArray ct (0,0))∧(∀k,k≠g→w'.heap[k]? = w.heap[k]?)∧∀ {B:Nat} {w0:World},Below B w0 w→B≤g→Below B w0 w':=by
 cases n with
 |zero=>
  refine⟨w,?_,by simpa using hg,fun _ _=>rfl,fun h _=>h⟩
  cases ap<;>simp[Builtin.clear_,run_underlying hu]
 |succ n=>
  obtain rfl:=hpos (by omega)
  have hst:=run_storeCells_at P g off ct (Builtin.zeroCells z.cells (n+1)).toList 0 cur.toArray w hg (by rw[hl];simpa using hfit) h1
  refine⟨w.setRow g (splice cur off (Builtin.zeroCells z.cells (n+1)).toList).toArray,?_,?_,fun k hk=>setRow_other w g k _ hk,fun h h'=>below_setRow h h' _⟩
  ·simp only[Builtin.clear_]
   simp[run_underlying hu,hv,hst,splice]
  ·simpa using setRow_heap w g _ (splice cur off (Builtin.zeroCells z.cells (n+1)).toList).toArray ct _ hg
end Go.Proofs.YtkiognecebgaiaaGreatDoor.copyk
namespace Go.Proofs.YtkiognecebgaiaaGreatDoor.rows
open Go.RowKit
set_option maxRecDepth 100000
theorem isRow_any {w:World} {v:Value} {xs:List Int} (h:IntsAt w v xs) :
    Calls Tryz.prog 205 #[v] w fun e w'=>e = .returned (.bool (rowOk xs))∧w'=w:=by
 obtain⟨a,cap,rfl,hlc,hcm,_,hc⟩:=h
 clear hc
 by_cases h1:xs.length≤1000
 ·have h2:(xs.length:Int)≤1000:=by omega
  go_enter Tryz.func205,Tryz.ntmps205
  go_wp2
  go_ret
  exact⟨by simp[rowOk,h1],rfl⟩
 ·have h2:¬(xs.length:Int)≤1000:=by omega
  go_enter Tryz.func205,Tryz.ntmps205
  go_wp2
  go_ret
  exact⟨by simp[rowOk];omega,rfl⟩
def cutOk (len:Nat) (f n:Int):Bool:=decide (0≤f∧0≤n∧f+n≤len)
theorem cutOk_true {len:Nat} {f n:Int} (h:cutOk len f n=true):0≤f∧0≤n∧f+n≤len:=by simpa [cutOk] using h
theorem cutOk_false {len:Nat} {f n:Int} (h:cutOk len f n=false):¬(0≤f∧0≤n∧f+n≤len):=by simpa [cutOk] using h
def piece (a:Option Addr) (f n:Nat):Value:=.slice (if n=0 then a else a.map (·.add f)) n n
theorem cut_no {w:World} {a:Option Addr} {len cap:Nat} (hlc:len≤cap) (hcm:cap≤maxLen) (f n:Int) (hf:I64 f) (hn:I64 n) (d:cutOk len f n=false) :
    Calls Tryz.prog 204 #[.slice a len cap,.int .i64 f,.int .i64 n] w fun e w'=>e = .returned (.tuple #[.slice none 0 0,.bool false])∧w'=w:=by
 unfold I64 at hf hn
 unfold maxLen at hcm
 have d':=cutOk_false d
 clear d
 by_cases h1:f<0
 ·go_enter Tryz.func204,Tryz.ntmps204
  go_wp2
  go_ret2
  exact⟨rfl,rfl⟩
 ·by_cases h2:n<0
  ·go_enter Tryz.func204,Tryz.ntmps204
   go_wp2
   go_ret2
   exact⟨rfl,rfl⟩
  ·have h3:n > (len:Int)-f:=by omega
   go_enter Tryz.func204,Tryz.ntmps204
   go_wp2
   go_ret2
   exact⟨rfl,rfl⟩
theorem cut_yes {w:World} {a:Option Addr} {len cap:Nat} (hlc:len≤cap) (hcm:cap≤maxLen) (F N:Nat) (fn:F+N≤len) :
    Calls Tryz.prog 204 #[.slice a len cap,.int .i64 F,.int .i64 N] w fun e w'=>e = .returned (.tuple #[piece a F N,.bool true])∧w'=w:=by
 unfold maxLen at hcm
 have h1:¬(F:Int)<0:=by omega
 have h2:¬(N:Int)<0:=by omega
 have h3:¬(N:Int) > (len:Int)-F:=by omega
 go_enter Tryz.func204,Tryz.ntmps204
 go_wp2
 all_goals go_ret2
 ·exact⟨by simp[piece, *],rfl⟩
 ·exact⟨by simp[piece, *],rfl⟩
theorem piece_at (b off k n:Nat) (hn:0<n):piece (some ⟨b,off,none⟩) k n = .slice (some ⟨b,off+k,none⟩) n n:=by
 have hn':n≠0:=by omega
 by_cases h0:k=0
 ·subst h0;simp[piece,Addr.add]
 ·simp[piece,Addr.add,h0,hn']
theorem piece_none (a:Option Addr) (k:Nat):piece a k 0 = .slice a 0 0:=by simp[piece]
theorem implReadAt (w:World) (v:Value) (xs:List Int) (i:Int) (h:IntsAt w v xs) (hl:xs.length≤1048576) (hi:I64 i) :
    Calls Tryz.prog 216 #[v,.int .i64 i] w fun e w'=>e = .returned (.tuple #[.int .i64 (readAt xs i),.bool (okAt xs i)])∧Below w.heap.size w w':=by
 have h':=h
 obtain⟨a,cap,rfl,hlc,hcm,_,hc⟩:=h
 cases d1:rowOk xs
 ·have eo:okAt xs i=false:=by simp[okAt,d1]
  have er:readAt xs i=0:=by simp[readAt,eo]
  rw[er,eo]
  clear hc er
  go_enter Tryz.func216,Tryz.ntmps216
  go_wp2_with (go_at_call 205;refine (isRow_any h').mono ?_;rintro e w' ⟨rfl,hw⟩;rw[hw];clear hw w')
  go_ret2
  exact⟨rfl,Below.refl _ _⟩
 ·cases d2:atOk xs i
  ·have eo:okAt xs i=false:=by simp[okAt,d2]
   have er:readAt xs i=0:=by simp[readAt,eo]
   have dc:cutOk xs.length i 1=false:=by simp[cutOk,atOk]at d2 ⊢; omega
   rw[er,eo]
   clear hc er
   go_enter Tryz.func216,Tryz.ntmps216
   go_wp2_with (go_at_call 205;refine (isRow_any h').mono ?_;rintro e w' ⟨rfl,hw⟩;rw[hw];clear hw w')
   refine (cut_no hlc hcm i 1 hi ⟨by decide,by decide⟩ dc).mono ?_
   rintro e w' ⟨rfl,hw⟩
   rw[hw]
   clear hw w'
   go_wp2
   go_ret2
   exact⟨rfl,Below.refl _ _⟩
  ·have eo:okAt xs i=true:=by simp[okAt,d1,d2]
   obtain⟨p1,p2⟩:=atOk_true d2
   obtain⟨k,rfl⟩:=Int.eq_ofNat_of_zero_le p1
   obtain⟨b,off,rfl,hb,hcc⟩:=hc (by omega)
   have c0:=hcc k (by omega)
   have er:readAt xs k=xs.getD k 0:=by simp[readAt,eo]
   have ep:=piece_at b off k 1 (by decide)
   rw[er,eo]
   clear hc hcc er
   generalize xs.getD k 0=x at *
   go_enter Tryz.func216,Tryz.ntmps216
   go_wp2_with (go_at_call 205;refine (isRow_any h').mono ?_;rintro e w' ⟨rfl,hw⟩;rw[hw];clear hw w')
   refine (cut_yes hlc hcm k 1 (by omega)).mono ?_
   rintro e w' ⟨rfl,hw⟩
   rw[hw,ep]
   clear hw w' ep
   go_wp2
   go_ret2
   exact⟨rfl,Below.refl _ _⟩
theorem own_nil (w:World) (base:Nat):Own w base (.slice none 0 0) []:=World.ownsRow_nil _ _ _ _
end Go.Proofs.YtkiognecebgaiaaGreatDoor.rows
namespace Go.Proofs.YtkiognecebgaiaaGreatDoor.hp
open Go.Maps
set_option linter.unusedVariables false
def ends (nt:Int→Bool) (nx:Int→Int):Nat→Int→Bool
 |0,_=>false
 |n+1,p=>if nt p=true then ends nt nx n (nx p) else true
section
variable {nt:Int→Bool} {nx:Int→Int}
theorem ends_more:∀ {n:Nat} {p:Int},ends nt nx n p=true→ends nt nx (n+1) p=true
 |0,_,h=>by cases h
 |n+1,p,h=>by
  unfold ends at h ⊢
  by_cases e:nt p=true
  ·rw[if_pos e]at h ⊢
   exact ends_more h
  ·rw[if_neg e]
theorem ends_le {n m:Nat} {p:Int} (h:ends nt nx n p=true) (hm:n≤m):ends nt nx m p=true:=by
 induction m with
 |zero=>obtain rfl:n=0:=by omega
        exact h
 |succ m ih=>
  by_cases e:n=m+1
  ·rw[←e];exact h
  ·exact ends_more (ih (by omega))
def Fins (nt:Int→Bool) (nx:Int→Int) (p:Int):Prop:=∃n,ends nt nx n p=true
theorem fins_next {p:Int} (h:nt p=true):Fins nt nx p↔Fins nt nx (nx p):=by
 constructor
 ·rintro⟨n,hn⟩
  cases n with
  |zero=>cases hn
  |succ n=>unfold ends at hn;rw[if_pos h]at hn;exact⟨n,hn⟩
 ·rintro⟨n,hn⟩
  exact⟨n+1,by unfold ends;rw[if_pos h];exact hn⟩
theorem fins_stop {p:Int} (h:nt p=false):Fins nt nx p:=⟨1,by unfold ends;rw[if_neg (by rw[h];decide)]⟩
def Goes (nt:Int→Bool) (nx:Int→Int):Nat→Int→Int→Prop
 |0,p,q=>p=q
 |n+1,p,q=>nt p=true∧Goes nt nx n (nx p) q
theorem goes_fins:∀ {n:Nat} {p q:Int},Goes nt nx n p q→(Fins nt nx p↔Fins nt nx q)
 |0,p,q,h=>by rw[show p=q from h]
 |n+1,p,q,h=>(fins_next h.1).trans (goes_fins h.2)
theorem goes_more:∀ {n:Nat} {p q:Int},Goes nt nx n p q→nt q=true→Goes nt nx (n+1) p (nx q)
 |0,p,q,h,hq=>by rw[show p=q from h];exact⟨hq,rfl⟩
 |n+1,p,q,h,hq=>⟨h.1,goes_more h.2 hq⟩
theorem goes_len:∀ {m n:Nat} {p q:Int},Goes nt nx m p q→ends nt nx n p=true→nt q=true→∃k,n=m+k∧ends nt nx k q=true
 |0,n,p,q,h,hn,_=>⟨n,by omega,by rw[←show p=q from h];exact hn⟩
 |m+1,n,p,q,h,hn,hq=>by
  cases n with
  |zero=>cases hn
  |succ n=>
   unfold ends at hn
   rw[if_pos h.1]at hn
   obtain⟨k,e,hk⟩:=goes_len h.2 hn hq
   exact⟨k,by omega,hk⟩
theorem round_no {m:Nat} {p:Int} (h:Goes nt nx (m+1) p p):¬Fins nt nx p:=by
 rintro⟨n,hn⟩
 induction n using Nat.strongRecOn with
 |ind n ih=>
  obtain⟨k,e,hk⟩:=goes_len h hn h.1
  exact ih k (by omega) hk
theorem nodup_le:∀ {l ps:List Int},l.Nodup→(∀x ∈ l,x ∈ ps)→l.length≤ps.length
 | [],_,_,_=>Nat.zero_le _
 |x :: l,ps,hn,hs=>by
  obtain⟨hx,hn⟩:=List.nodup_cons.1 hn
  have hm:=hs x (List.mem_cons_self ..)
  have:=nodup_le (l:=l) (ps:=ps.erase x) hn (fun y hy=>(List.mem_erase_of_ne (fun e=>hx (by rw[←e];exact hy))).2 (hs y (List.mem_cons_of_mem _ hy)))
  rw[List.length_erase_of_mem hm]at this
  have:0<ps.length:=List.length_pos_of_mem hm
  simp only[List.length_cons]
  omega
theorem chain_list {ps:List Int} (hc:∀p ∈ ps,nt p=true→nx p ∈ ps):∀ {n:Nat} {p:Int},p ∈ ps→ends nt nx (n+1) p=true→ends nt nx n p=false→∃l:List Int,l.length=n+1∧l.Nodup∧(∀x ∈ l,x ∈ ps)∧∀x ∈ l,ends nt nx (n+1) x=true
 |0,p,hp,h,_=>⟨[p],rfl,by simp,by simpa using hp,by simpa using h⟩
 |n+1,p,hp,h,h0=>by
  have e:nt p=true:=by
   cases e:nt p
   ·unfold ends at h0;rw[if_neg (by rw[e];decide)]at h0;cases h0
   ·rfl
  have h1:ends nt nx (n+1) (nx p)=true:=by unfold ends at h;rw[if_pos e]at h;exact h
  have h2:ends nt nx n (nx p)=false:=by unfold ends at h0;rw[if_pos e]at h0;exact h0
  obtain⟨l,a,b,c,d⟩:=chain_list hc (hc p hp e) h1 h2
  refine⟨p :: l,by simp[a],List.nodup_cons.2 ⟨fun hm => ?_,b⟩,?_,?_⟩
  ·rw[d p hm]at h0;cases h0
  ·intro x hx
   rcases List.mem_cons.1 hx with rfl|hx
   ·exact hp
   ·exact c x hx
  ·intro x hx
   rcases List.mem_cons.1 hx with rfl|hx
   ·exact h
   ·exact ends_more (d x hx)
theorem fins_len {ps:List Int} (hc:∀p ∈ ps,nt p=true→nx p ∈ ps) {p:Int} (hp:p ∈ ps) (h:Fins nt nx p):ends nt nx ps.length p=true:=by
 obtain⟨n,hn⟩:=h
 induction n using Nat.strongRecOn with
 |ind n ih=>
  cases n with
  |zero=>cases hn
  |succ n=>
   cases e:ends nt nx n p
   ·obtain⟨l,a,b,c,_⟩:=chain_list hc hp hn e
    have:=nodup_le b c
    exact ends_le hn (by omega)
   ·exact ih n (by omega) e
theorem fins_iff {ps:List Int} (hc:∀p ∈ ps,nt p=true→nx p ∈ ps) {p:Int} (hp:p ∈ ps) {n:Nat} (hn:ps.length≤n):ends nt nx n p=true↔Fins nt nx p:=⟨fun h=>⟨n,h⟩,fun h=>ends_le (fins_len hc hp h) hn⟩
end
abbrev kI (p:Int):Lit:=.int .i64 p
theorem kI_key (p:Int):WideAt.IsKeyLit (kI p):=by unfold WideAt.IsKeyLit;simp
theorem kI_ne {p q:Int} (h:p≠q):kI p≠kI q:=fun e=>h (by injection e)
abbrev nD (r:Int):DataW Unit:=.lit (.int .i64 r)
def cntN (L:List Int) (D:DataW Unit):Nat:=(L.filter (fun p => !Maps.has D (kI p))).length
theorem cntN_start (L:List Int):cntN L (.map [])=L.length:=by simp[cntN,Maps.has]
theorem filter_less {f g:Int→Bool} (h:∀x,g x=true→f x=true):∀l:List Int,(l.filter g).length≤(l.filter f).length
 | []=>Nat.le_refl _
 |x :: l=>by
  have:=filter_less h l
  cases e:g x
  ·rw[List.filter_cons_of_neg (by rw[e];decide)]
   cases e':f x
   ·rw[List.filter_cons_of_neg (by rw[e'];decide)];exact this
   ·rw[List.filter_cons_of_pos e'];simp only[List.length_cons];omega
  ·rw[List.filter_cons_of_pos e,List.filter_cons_of_pos (h x e)];simp only[List.length_cons];omega
theorem filter_one {f g:Int→Bool} (h:∀x,g x=true→f x=true) {y:Int} (hf:f y=true) (hg:g y=false):∀l:List Int,y ∈ l→(l.filter g).length+1≤(l.filter f).length
 | [],hy=>by simp at hy
 |x :: l,hy=>by
  by_cases e:x=y
  ·subst e
   rw[List.filter_cons_of_neg (by rw[hg];decide),List.filter_cons_of_pos hf]
   have:=filter_less h l
   simp only[List.length_cons];omega
  ·have hl:y ∈ l:=by
     rcases List.mem_cons.1 hy with e'|e'
     ·exact absurd e'.symm e
     ·exact e'
   have:=filter_one h hf hg l hl
   cases e1:g x
   ·rw[List.filter_cons_of_neg (by rw[e1];decide)]
    cases e2:f x
    ·rw[List.filter_cons_of_neg (by rw[e2];decide)];exact this
    ·rw[List.filter_cons_of_pos e2];simp only[List.length_cons];omega
   ·rw[List.filter_cons_of_pos e1,List.filter_cons_of_pos (h x e1)];simp only[List.length_cons];omega
theorem cntN_put {L:List Int} {D:DataW Unit} (hD:Tidy D) {p:Int} (hp:p ∈ L) (hn:Maps.has D (kI p)=false) (d:DataW Unit):cntN L (D.put (kI p) d)+1≤cntN L D:=by
 unfold cntN
 refine filter_one (fun x hx => ?_) (y:=p) (by rw[hn];rfl) (by rw[Maps.has_put_same hD.isMap (kI_key _)];rfl) L hp
 by_cases e:x=p
 ·subst e
  rw[Maps.has_put_same hD.isMap (kI_key _)]at hx;cases hx
 ·rwa [Maps.has_put_other (kI_ne e)]at hx
structure NE (nt:Int→Bool) (nx:Int→Int) (L:List Int) (k:Nat) (D:DataW Unit):Prop where
 tidy:Tidy D
 mem:∀q,Maps.has D (kI q)=true→q ∈ L
 val:∀q,Maps.has D (kI q)=true→∃r:Nat,r<k∧D.atKey (kI q) (nD 0)=nD r
 fin:∀q,Maps.has D (kI q)=true→Fins nt nx q
structure NEi (nt:Int→Bool) (nx:Int→Int) (L:List Int) (k:Nat) (D:DataW Unit) (st cur:Int):Prop where
 tidy:Tidy D
 mem:∀q,Maps.has D (kI q)=true→q ∈ L
 val:∀q,Maps.has D (kI q)=true→∃r:Nat,r≤k∧D.atKey (kI q) (nD 0)=nD r∧(r<k→Fins nt nx q)∧(r=k→∃m,Goes nt nx (m+1) q cur)
 path:∃m,Goes nt nx m st cur
section
variable {nt:Int→Bool} {nx:Int→Int} {L:List Int} {k:Nat} {D:DataW Unit} {st cur:Int}
theorem ne_start:NE nt nx L 0 (.map []) where
 tidy:=Maps.tidy_empty
 mem:=fun q h=>by simp[Maps.has]at h
 val:=fun q h=>by simp[Maps.has]at h
 fin:=fun q h=>by simp[Maps.has]at h
theorem NE.into (h:NE nt nx L k D) (st:Int):NEi nt nx L k D st st where
 tidy:=h.tidy
 mem:=h.mem
 val:=fun q hq=>by
  obtain⟨r,hr,e⟩:=h.val q hq
  exact⟨r,by omega,e,fun _=>h.fin q hq,fun e=>by omega⟩
 path:=⟨0,rfl⟩
theorem NEi.stop (h:NEi nt nx L k D st cur) (hf:Fins nt nx cur):NE nt nx L (k+1) D∧Fins nt nx st:=by
 refine⟨⟨h.tidy,h.mem,fun q hq => ?_,fun q hq => ?_⟩,?_⟩
 ·obtain⟨r,hr,e,_⟩:=h.val q hq
  exact⟨r,by omega,e⟩
 ·obtain⟨r,hr,e,h1,h2⟩:=h.val q hq
  by_cases hk:r=k
  ·obtain⟨m,hm⟩:=h2 hk
   exact (goes_fins hm).2 hf
  ·exact h1 (by omega)
 ·obtain⟨m,hm⟩:=h.path
  exact (goes_fins hm).2 hf
theorem nD_inj {a b:Int} (h:nD a=nD b):a=b:=by injection h with h;injection h
theorem NEi.round (h:NEi nt nx L k D st cur) (hh:Maps.has D (kI cur)=true) (hv:D.atKey (kI cur) (nD 0)=nD k):¬Fins nt nx st:=by
 obtain⟨r,hr,e,_,h2⟩:=h.val cur hh
 have e':=nD_inj (e.symm.trans hv)
 obtain⟨m,hm⟩:=h2 (by omega)
 obtain⟨m',hp⟩:=h.path
 exact fun hf=>round_no hm ((goes_fins hp).1 hf)
theorem NEi.old (h:NEi nt nx L k D st cur) (hh:Maps.has D (kI cur)=true) {c:Int} (hv:D.atKey (kI cur) (nD 0)=nD c) (hc:c≠k):Fins nt nx cur:=by
 obtain⟨r,hr,e,h1,_⟩:=h.val cur hh
 have e':=nD_inj (e.symm.trans hv)
 exact h1 (by omega)
theorem NEi.step (h:NEi nt nx L k D st cur) (hm:cur ∈ L) (hn:nt cur=true):NEi nt nx L k (D.put (kI cur) (nD k)) st (nx cur):=by
 refine⟨h.tidy.put (kI_key _) _,fun q hq => ?_,fun q hq => ?_,?_⟩
 ·by_cases e:q=cur
  ·rw[e];exact hm
  ·rw[Maps.has_put_other (kI_ne e)]at hq;exact h.mem q hq
 ·by_cases e:q=cur
  ·subst e
   exact⟨k,Nat.le_refl _,Maps.atKey_put_same h.tidy.isMap (kI_key _) _ _,fun e=>by omega,fun _=>⟨0,hn,rfl⟩⟩
  ·rw[Maps.has_put_other (kI_ne e)]at hq
   obtain⟨r,hr,e1,h1,h2⟩:=h.val q hq
   refine⟨r,hr,(Maps.atKey_put_other (kI_ne e) _ _).trans e1,h1,fun ek => ?_⟩
   obtain⟨m,hg⟩:=h2 ek
   exact⟨m+1,goes_more hg hn⟩
 ·obtain⟨m,hp⟩:=h.path
  exact⟨m+1,goes_more hp hn⟩
end
end Go.Proofs.YtkiognecebgaiaaGreatDoor.hp
